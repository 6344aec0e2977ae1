/-
  Cuts of rows of bytes, and the contract of ahead where the bytes are there; no conditions but those that each theorem names.
-/
import Derived.Test.YtappmjophnhdaaaN
namespace Go.Proofs.Ytappmjophnhdaaa
open Go.RowKit
set_option linter.unusedVariables false
set_option linter.unusedSimpArgs false

/-- A cut of a row that can be read can be read. -/
theorem SlB.cut {w : World} {a : Option Addr} {n cap : Nat} {l sp : List UInt8} (h : SlB w (.slice a n cap) l sp) (lo hi : Nat) (h1 : lo ≤ hi) (h2 : hi ≤ l.length) :
    SlB w (.slice (if cap = lo then a else a.map (·.add (lo * 1))) (hi - lo) (cap - lo)) ((l.drop lo).take (hi - lo)) (l.drop hi ++ sp) := by
  have hlen : ((l.drop lo).take (hi - lo)).length = hi - lo := by simp; omega
  obtain ⟨k1, ⟨k2, k3, k4⟩ | ⟨a, k2, k3, k4⟩ | ⟨b, off, c, k2, k3, k4, k5, k6⟩⟩ := h
  · cases k2
    obtain rfl : l = [] := List.eq_nil_of_length_eq_zero k3
    obtain rfl : sp = [] := by simpa [bvs] using k4
    simp at h2
    subst h2
    obtain rfl : lo = 0 := by omega
    simpa using SlB.nil w
  · cases k2
    obtain rfl : l = [] := List.eq_nil_of_length_eq_zero k3
    obtain rfl : sp = [] := by simpa [bvs] using k4
    simp at h2
    subst h2
    obtain rfl : lo = 0 := by omega
    exact ⟨rfl, .inr (.inl ⟨a, rfl, rfl, rfl⟩)⟩
  · cases k2
    have hc : cap = l.length + sp.length := by simpa [bvs_length] using k5.symm
    have hl : l.drop lo = (l.drop lo).take (hi - lo) ++ l.drop hi := by
      conv => lhs; rw [← List.take_append_drop (hi - lo) (l.drop lo)]
      rw [List.drop_drop, show lo + (hi - lo) = hi by omega]
    by_cases hcl : cap = lo
    · rw [if_pos hcl]
      have e1 : hi = lo := by omega
      have e2 : lo = l.length := by omega
      obtain rfl : sp = [] := List.eq_nil_of_length_eq_zero (by omega)
      subst e1
      refine ⟨by simp [bvs], .inr (.inr ⟨b, off, cap - hi, by simp, by omega, by omega, by simp [bvs]; omega, fun i u hu => ?_⟩)⟩
      rw [show List.drop hi l = [] from List.drop_eq_nil_of_le (by omega)] at hu
      simp [bvs] at hu
    · rw [if_neg hcl]
      refine ⟨by simp [bvs], .inr (.inr ⟨b, off + lo, cap - lo, by simp [add_plain]; omega, by omega, by omega, by simp [bvs]; omega, fun i u hu => ?_⟩)⟩
      have := k6 (lo + i) u (by
        rw [← bvs_append] at hu ⊢
        rw [← List.append_assoc, ← hl, ← List.drop_append_of_le_length (by omega)] at hu
        simpa [bvs] using hu)
      rw [Nat.add_assoc]
      exact this
theorem slice_lh {P : Program} {tS T : TypeId} (B : ByteTys P tS T) {w : World} {a : Option Addr} {n cap : Nat} {l sp : List UInt8} (h : SlB w (.slice a n cap) l sp) (lo hi : Nat) (h1 : lo ≤ hi) (h2 : hi ≤ l.length) :
    ∃ a' c', (∀ (x y : Int) (wx : World), x = lo → y = hi → (Instr.slice tS (.slice a n cap) (some (.int .i64 x)) (some (.int .i64 y)) none).run P wx = .ok (.slice a' (hi - lo) c') wx) ∧
      SlB w (.slice a' (hi - lo) c') ((l.drop lo).take (hi - lo)) (l.drop hi ++ sp) := by
  obtain ⟨a2, c2, e, hle, hm⟩ := h.form
  cases e
  refine ⟨_, _, fun x y wx hx hy => ?_, h.cut lo hi h1 h2⟩
  subst hx
  subst hy
  obtain ⟨i, hi', hz, hs, hby⟩ := info_parts B.info
  have he : P.elem tS = T := by simp [Program.elem, B.sl]
  have hsz : (sizeOf (P.elem tS)).run P wx = .ok 1 wx := by rw [he]; simp [sizeOf, typeInfo, hi', hs]
  rw [run_slice_lh (P := P) wx tS a l.length cap (by rw [he]; exact B.sl) .i64 .i64 lo hi (by omega) (by omega) (by omega), hsz]
  simp [Result.andThen, sliced]
theorem slice_l {P : Program} {tS T : TypeId} (B : ByteTys P tS T) {w : World} {a : Option Addr} {n cap : Nat} {l sp : List UInt8} (h : SlB w (.slice a n cap) l sp) (lo : Nat) (h1 : lo ≤ l.length) :
    ∃ a' c', (∀ (x : Int) (wx : World), x = lo → (Instr.slice tS (.slice a n cap) (some (.int .i64 x)) none none).run P wx = .ok (.slice a' (l.length - lo) c') wx) ∧
      SlB w (.slice a' (l.length - lo) c') (l.drop lo) sp := by
  obtain ⟨a2, c2, e, hle, hm⟩ := h.form
  cases e
  have hc := h.cut lo l.length h1 (Nat.le_refl _)
  rw [List.take_of_length_le (by simp), List.drop_length, List.nil_append] at hc
  refine ⟨_, _, fun x wx hx => ?_, hc⟩
  subst hx
  obtain ⟨i, hi', hz, hs, hby⟩ := info_parts B.info
  have he : P.elem tS = T := by simp [Program.elem, B.sl]
  have hsz : (sizeOf (P.elem tS)).run P wx = .ok 1 wx := by rw [he]; simp [sizeOf, typeInfo, hi', hs]
  rw [run_slice_l (P := P) wx tS a l.length cap (by rw [he]; exact B.sl) .i64 lo (by omega) (by omega), hsz]
  simp [Result.andThen, sliced]
def Ahead (w : World) (l : List UInt8) (p n : Nat) (r : Ending) (w' : World) : Prop := ∃ a' c' sp', r = .returned (.slice a' n c') ∧ SlB w' (.slice a' n c') ((l.drop p).take n) sp' ∧ Frm [] w w'
set_option maxHeartbeats 1000000 in
theorem ahead_yes (br : Nat) (v : Value) (l sp : List UInt8) (p n : Nat) (fe fa : Int) (w : World) (hR : Rd w br v l sp p fe fa) (hl : l.length ≤ 1000000000) (hn : p + n ≤ l.length) :
    Calls Try.prog 60 #[.pointer (some ⟨br, 0, none⟩), .int .i64 n] w fun r w' => Ahead w l p n r w' := by
  have hR' := hR
  obtain ⟨h1, h2, h3⟩ := hR
  obtain ⟨a, cap, rfl, hc1, hc2⟩ := h2.sl.form
  have c0 : w.cell? ⟨br, 0, none⟩ = some (.pointer (some ⟨br, 0, none⟩)) := by rw [cell_of_heap h1]; rfl
  have c1 : w.cell? ⟨br, 1, none⟩ = some (.slice a l.length cap) := by rw [cell_of_heap h1]; rfl
  have c2 : w.cell? ⟨br, 2, none⟩ = some (.int .i64 p) := by rw [cell_of_heap h1]; rfl
  obtain ⟨q, hq⟩ : ∃ q, q = p + n := ⟨_, rfl⟩
  obtain ⟨a', c', hsl, hS'⟩ := slice_lh BT h2.sl p q (by omega) (by omega)
  rw [show q - p = n by omega] at hsl hS'
  clear h1
  have hd : decide ((n : Int) ≤ (l.length : Int) - (p : Int)) = true := by simp; omega
  have hsum : IntKind.i64.wrap ((p : Int) + n) = (q : Int) := by rw [IntWalk.i64_in _ (by omega)]; omega
  have hb1 : (p : Int) ≤ (q : Int) := by omega
  have hb2 : (q : Int) ≤ (cap : Int) := by omega
  have hsl2 := fun wx => hsl p q wx rfl rfl
  have HS := Lib.hid hsum
  clear hsl hsum hq
  go_enter Try.func60, Try.ntmps60
  go_wp2
  go_region_held3 (fun x => x.cell? ⟨br, 1, none⟩ = some (.slice a l.length cap))
    (first | go_keep)
    (first | (go_at_call 24; refine (RLeft_any br _ l sp p fe fa _ (hR'.keep ((Frm.refl [] _).drewN _) (by simp) (by simp)) (by omega) hl).mono ?_; rintro r w1 ⟨rfl, nn, rfl⟩) | (go_at_call 57; refine (demand_yes _ _ _).mono ?_; rintro r w1 ⟨rfl, rfl⟩))
  have hsum := HS.out
  go_wp2
  go_quiet (fail)
  go_wp2
  go_ret
  exact ⟨a', c', _, rfl, SlB.keep (L := []) hS' (((Frm.refl [] _).drewN _).drewN _) (fun _ _ => List.not_mem_nil), ((Frm.refl [] _).drewN _).drewN _⟩
end Go.Proofs.Ytappmjophnhdaaa
