/-
  Contracts of the law's long and say; no conditions but those that each theorem names.
-/
import Derived.Test.YtappmjophnhdaaaAC
namespace Go.Proofs.Ytappmjophnhdaaa
open Go.RowKit
set_option linter.unusedVariables false
set_option linter.unusedSimpArgs false

/-- A list of acts that can be read, all of it below a block; of their sizes nothing is asked. -/
structure Acts (B : Nat) (w : World) (val : Value) (xs : List Act0) : Prop where
  form : ∃ a cap, val = .slice a xs.length cap
  big : xs.length ≤ 9223372036854775807
  at' : ∀ k (hk : k < xs.length), ∃ b off a c msp, (∃ cap, val = .slice (some ⟨b, off, none⟩) xs.length cap) ∧ b < B ∧
    w.cell? ⟨b, off + k * 5, none⟩ = some (.int .i64 xs[k].kind) ∧ w.cell? ⟨b, off + k * 5 + 1, none⟩ = some (.int .i64 xs[k].n) ∧ w.cell? ⟨b, off + k * 5 + 2, none⟩ = some (.int .i64 xs[k].size) ∧
    w.cell? ⟨b, off + k * 5 + 3, none⟩ = some (.string xs[k].s) ∧ w.cell? ⟨b, off + k * 5 + 4, none⟩ = some (.slice a xs[k].m.length c) ∧
    SlB w (.slice a xs[k].m.length c) xs[k].m msp ∧ (∀ i ∈ blkR (.slice a xs[k].m.length c), i < B) ∧ xs[k].n ≤ 9223372036854775807
def bigAct (x : Act0) : Bool := decide (300 < x.s.size) || decide (300 < x.m.length)
def longB (xs : List Act0) : Bool := xs.any bigAct || decide (60 < xs.length)
theorem Acts.small {B : Nat} {w : World} {val : Value} {xs : List Act0} (h : Acts B w val xs) (hl : longB xs = false) : ActsAt B w val xs ∧ xs.length ≤ 60 ∧ ∀ x ∈ xs, x.m.length ≤ 300 := by
  simp only [longB, Bool.or_eq_false_iff, List.any_eq_false, bigAct, Bool.or_eq_true, decide_eq_true_eq, not_or, decide_eq_false_iff_not] at hl
  have hm : ∀ x ∈ xs, x.m.length ≤ 300 := fun x hx => by have := (hl.1 x hx).2; omega
  refine ⟨⟨h.form, by omega, fun k hk => ?_⟩, by omega, hm⟩
  obtain ⟨b, off, a, c, msp, h1, h2, h3, h4, h5, h6, h7, h8, h9, h10⟩ := h.at' k hk
  exact ⟨b, off, a, c, msp, h1, h2, h3, h4, h5, h6, h7, h8, h9, by have := hm _ (List.getElem_mem hk); omega, h10⟩
def LongRel (xs : List Act0) (c : Value) : Prop := ∃ k : Nat, k ≤ xs.length ∧ c = .int .i64 k ∧ (xs.take k).any bigAct = false
set_option maxHeartbeats 2000000 in
theorem long_any (B : Nat) (val : Value) (xs : List Act0) (w : World) (hA : Acts B w val xs) :
    Calls Try.prog 11 #[val] w fun r w' => r = .returned (.bool (longB xs)) ∧ w' = w := by
  obtain ⟨a, cap, rfl⟩ := hA.form
  have hbig := hA.big
  have HA := Lib.hid hA.at'
  clear hA
  have hxl : (xs.length : Int) ≤ 9223372036854775807 := by omega
  go_enter Try.func11, Try.ntmps11
  go_wp2
  go_loop [3] (LongRel xs) (fun c => xs.length - (intOf c).toNat)
  case atStart => exact ⟨0, Nat.zero_le _, rfl, by simp⟩
  case round =>
    obtain ⟨k, hk, rfl, hz⟩ := hrel
    have HZ := Lib.hid hz
    clear hz
    by_cases hlt : k < xs.length
    · obtain ⟨b, off, a2, c2, msp, ⟨cap2, hval⟩, hbB, q0, q1, q2, q3, q4, hS, hB, hn⟩ := HA.out k hlt
      cases hval
      clear q0 q1 q2 hS hB hn
      by_cases hbg : bigAct xs[k] = true
      · have hL : longB xs = true := by
          unfold longB
          rw [List.any_eq_true.2 ⟨xs[k], List.getElem_mem hlt, hbg⟩]
          rfl
        have HLL := Lib.hid hL
        have hb2 : 300 < xs[k].s.size ∨ 300 < xs[k].m.length := by simpa [bigAct] using hbg
        clear hL hbg
        by_cases h3 : 300 < xs[k].s.size
        · have h3' : (300 : Int) < (xs[k].s.size : Int) := by omega
          clear hb2 h3
          go_wp2
          go_ret
          exact ⟨by rw [HLL.out]; rfl, rfl⟩
        · have h3' : ¬ (300 : Int) < (xs[k].s.size : Int) := by omega
          have h4' : (300 : Int) < (xs[k].m.length : Int) := by omega
          clear hb2 h3
          go_wp2
          go_ret
          exact ⟨by rw [HLL.out]; rfl, rfl⟩
      · have hb2 : ¬ 300 < xs[k].s.size ∧ ¬ 300 < xs[k].m.length := by simpa [bigAct] using hbg
        have h3' : ¬ (300 : Int) < (xs[k].s.size : Int) := by omega
        have h4' : ¬ (300 : Int) < (xs[k].m.length : Int) := by omega
        have HB := Lib.hid hbg
        clear hb2 hbg
        go_wp2
        refine ⟨⟨k + 1, by omega, by go_num, ?_⟩, by simp [intOf]; omega⟩
        rw [List.take_succ_eq_append_getElem hlt, List.any_append, HZ.out]
        simpa using HB.out
    · obtain rfl : k = xs.length := by omega
      have hL : longB xs = decide (60 < xs.length) := by
        have := HZ.out
        rw [List.take_length] at this
        unfold longB
        rw [this]; rfl
      have HL := Lib.hid hL
      clear hL
      by_cases h6 : 60 < xs.length
      · have h6' : (60 : Int) < (xs.length : Int) := by omega
        have H6 := Lib.hid h6
        clear h6
        go_wp2
        go_ret
        exact ⟨by rw [HL.out, decide_eq_true H6.out]; rfl, rfl⟩
      · have h6' : ¬ (60 : Int) < (xs.length : Int) := by omega
        have H6 := Lib.hid h6
        clear h6
        go_wp2
        go_ret
        exact ⟨by rw [HL.out, decide_eq_false H6.out]; rfl, rfl⟩
set_option maxRecDepth 100000 in
set_option maxHeartbeats 2000000 in
theorem say_any (bw : Nat) (v val : Value) (l sp : List UInt8) (e : Int) (x : Act0) (w : World) (hW : Rw w bw v l sp e) (hl : l.length ≤ 65536) (hx : ActV w x val) (hm : x.m.length ≤ 1000000) (hd : bw ∉ blkA val) :
    Calls Try.prog 14 #[.pointer (some ⟨bw, 0, none⟩), val] w fun r w' => r = .returned (.tuple #[]) ∧ RwTo w bw v (x.step (l, e)) w' := by
  obtain ⟨kind, n, size, s, m⟩ := x
  obtain ⟨a, cap, msp, rfl, hS, hn⟩ := hx
  simp only at hS hn hm
  have HD := Lib.hid hd
  clear hd
  have f0 : ∀ o, Frm [] w (w.alloc o) := fun o => (Frm.refl _ _).alloc o
  have HF := Lib.hid f0
  clear f0
  by_cases k0 : kind = 0
  · subst k0
    have hr : Act0.step ⟨0, n, size, s, m⟩ (l, e) = wStep (l, e) (numStep · n size) := by simp [Act0.step]
    rw [hr]
    clear hr
    go_enter Try.func14, Try.ntmps14
    go_wp2_with (go_at_call 44; refine (RNum_any bw v l sp e n size _ (hW.keep (HF.out _) (by simp) (by simp)) hl hn).mono ?_; rintro r w' ⟨rfl, h⟩)
    go_end0
    exact ⟨rfl, h.behind (HF.out _)⟩
  by_cases k1 : kind = 1
  · subst k1
    have hr : Act0.step ⟨1, n, size, s, m⟩ (l, e) = wStep (l, e) (textStep · s.data.toList size) := by simp [Act0.step]
    rw [hr]
    clear hr
    go_enter Try.func14, Try.ntmps14
    go_wp2_with (go_at_call 45; refine (RText_any bw v l sp e size s _ (hW.keep (HF.out _) (by simp) (by simp)) hl).mono ?_; rintro r w' ⟨rfl, h⟩)
    go_end0
    exact ⟨rfl, h.behind (HF.out _)⟩
  by_cases k2 : kind = 2
  · subst k2
    have hr : Act0.step ⟨2, n, size, s, m⟩ (l, e) = wStep (l, e) (addStep · m) := by simp [Act0.step]
    rw [hr]
    clear hr
    go_enter Try.func14, Try.ntmps14
    go_wp2_with (go_at_call 46; refine (RRaw_any bw v _ l sp m msp e _ (hW.keep (HF.out _) (by simp) (by simp)) (hS.keep (HF.out _) (by simp)) HD.out hl hm).mono ?_; rintro r w' ⟨rfl, h⟩)
    go_end0
    exact ⟨rfl, h.behind (HF.out _)⟩
  by_cases k3 : kind = 3
  · subst k3
    have hr : Act0.step ⟨3, n, size, s, m⟩ (l, e) = wStep (l, e) (padStep · size) := by simp [Act0.step]
    rw [hr]
    clear hr
    go_enter Try.func14, Try.ntmps14
    go_wp2_with (go_at_call 47; refine (RPad_any bw v l sp e size _ (hW.keep (HF.out _) (by simp) (by simp)) hl).mono ?_; rintro r w' ⟨rfl, h⟩)
    go_end0
    exact ⟨rfl, h.behind (HF.out _)⟩
  · have hr : Act0.step ⟨kind, n, size, s, m⟩ (l, e) = (l, e) := by simp [Act0.step, k0, k1, k2, k3]
    rw [hr]
    have e0 : (kind == 0) = false := by simpa using k0
    have e1 : (kind == 1) = false := by simpa using k1
    have e2 : (kind == 2) = false := by simpa using k2
    have e3 : (kind == 3) = false := by simpa using k3
    clear hr k0 k1 k2 k3
    go_enter Try.func14, Try.ntmps14
    go_wp2
    go_end0
    exact ⟨rfl, (RwTo.same (hW.keep (HF.out _) (by simp) (by simp))).behind (HF.out _)⟩
end Go.Proofs.Ytappmjophnhdaaa
