/-
  Contracts of demand, demandNoughts, IndexFunc, At and Left; no conditions but those that each theorem names.
-/
import Derived.Test.YtappmjophnhdaaaM
import Derived.Deep.RegionHeld3
import Derived.IntWalk
namespace Go.Proofs.Ytappmjophnhdaaa
open Go.RowKit
set_option linter.unusedVariables false
set_option linter.unusedSimpArgs false

theorem demand_yes (e at' : Int) (w : World) :
    Calls Try.prog 57 #[.bool true, .int .i64 e, .int .i64 at'] w fun r w' => r = .returned (.tuple #[]) ∧ w' = w := by
  go_enter Try.func57, Try.ntmps57
  go_wp2
  go_end0
  exact ⟨rfl, rfl⟩
theorem demand_no (e at' : Int) (w : World) :
    Calls Try.prog 57 #[.bool false, .int .i64 e, .int .i64 at'] w fun r w' => r = GaveUp e at' ∧ w' = w := by
  go_enter Try.func57, Try.ntmps57
  go_wp2
  exact ⟨rfl, rfl, rfl⟩
theorem bne_cast (b : UInt8) : ((b.toNat : Int) != 0) = (b != 0) := by
  by_cases h : b = 0
  · subst h; rfl
  · have h1 : b.toNat ≠ 0 := fun e => h (UInt8.toNat_inj.1 (by simpa using e))
    have h2 : ((b.toNat : Int) != 0) = true := by simpa using h1
    rw [h2]; simp [h]
theorem cl80_any (b : UInt8) (w : World) : Calls Try.prog 80 #[.int .u8 b.toNat] w fun r w' => r = .returned (.bool (b != 0)) ∧ w' = w := by
  go_enter Try.func80, Try.ntmps80
  go_wp2
  go_ret
  refine ⟨?_, rfl⟩
  rw [← bne_cast]
  rfl
/-- Where the first byte that is not 0 stands; -1: nowhere. -/
def firstNot (l : List UInt8) : Int := match l.findIdx? (· != 0) with | some i => i | none => -1
theorem firstNot_none {l : List UInt8} (h : ∀ j, j < l.length → l[j]? = some 0) : firstNot l = -1 := by
  unfold firstNot
  rw [List.findIdx?_eq_none_iff.2 (fun x hx => by
    obtain ⟨j, hj, rfl⟩ := List.getElem_of_mem hx
    have := h j hj
    rw [List.getElem?_eq_getElem hj] at this
    simp at this; simp [this])]
theorem firstNot_some {l : List UInt8} {k : Nat} (hk : k < l.length) (h : ∀ j, j < k → l[j]? = some 0) (h0 : l[k] ≠ 0) : firstNot l = k := by
  unfold firstNot
  rw [List.findIdx?_eq_some_iff_getElem.2 ⟨hk, by simpa using h0, fun j hj => by
    have := h j hj
    rw [List.getElem?_eq_getElem (by omega)] at this
    simp at this; simp [this]⟩]
theorem SlB.cellAt {w : World} {b off n cap : Nat} {l sp : List UInt8} (h : SlB w (.slice (some ⟨b, off, none⟩) n cap) l sp) (k : Nat) (hk : k < l.length) : w.cell? ⟨b, off + k, none⟩ = some (.int .u8 l[k].toNat) := by
  obtain ⟨h1, h2 | ⟨a, h2, h3, h4⟩ | ⟨b', off', cap', h2, h3, h4, h5, h6⟩⟩ := h
  · cases h2.1
  · omega
  · cases h2
    exact h6 k _ (by rw [List.getElem?_append_left (by simpa [bvs_length] using hk), bvs_get, List.getElem?_eq_getElem hk]; rfl)
theorem SlB.cases {w : World} {v : Value} {l sp : List UInt8} (h : SlB w v l sp) : (v = .slice none 0 0 ∧ l = []) ∨ (∃ a, v = .slice (some a) 0 0 ∧ l = []) ∨ ∃ b off cap, v = .slice (some ⟨b, off, none⟩) l.length cap ∧ l.length ≤ cap ∧ cap ≤ maxLen := by
  obtain ⟨h1, ⟨h2, h3, h4⟩ | ⟨a, h2, h3, h4⟩ | ⟨b', off', cap', h2, h3, h4, h5, h6⟩⟩ := h
  · exact .inl ⟨h2, List.eq_nil_of_length_eq_zero h3⟩
  · exact .inr (.inl ⟨a, h2, List.eq_nil_of_length_eq_zero h3⟩)
  · exact .inr (.inr ⟨b', off', cap', h2, h3, h4⟩)
def NoughtRel (l : List UInt8) (c : Value) : Prop := ∃ k : Nat, k ≤ l.length ∧ c = .int .i64 k ∧ ∀ j, j < k → l[j]? = some 0
set_option maxHeartbeats 1000000 in
theorem indexFunc_any (v : Value) (l sp : List UInt8) (w : World) (hS : SlB w v l sp) :
    Calls Try.prog 79 #[v, .func (.func 80) #[] #[]] w fun r w' => r = .returned (.int .i64 (firstNot l)) ∧ w' = w := by
  rcases hS.cases with ⟨rfl, rfl⟩ | ⟨a, rfl, rfl⟩ | ⟨b, off, cap, rfl, hc1, hc2⟩
  iterate 2
    · go_enter Try.func79, Try.ntmps79
      go_wp2
      go_loop [8] (fun c => c = .int .i64 0) (fun _ => 0)
      case atStart => rfl
      case round =>
        subst hrel
        go_wp2
        go_ret
        exact ⟨rfl, rfl⟩
  · have HC := Lib.hid hS.cellAt
    have hm : (l.length : Int) ≤ 9223372036854775807 := by simp [maxLen] at hc2; omega
    clear hS hc2
    go_enter Try.func79, Try.ntmps79
    go_wp2
    go_loop [8] (NoughtRel l) (fun c => l.length - (intOf c).toNat)
    case atStart => exact ⟨0, Nat.zero_le _, rfl, fun j hj => by omega⟩
    case round =>
      obtain ⟨k, hk, rfl, hz⟩ := hrel
      have HZ := Lib.hid hz
      clear hz
      by_cases hlt : k < l.length
      · have hc := HC.out k hlt
        by_cases h0 : l[k] = 0
        · have hb : (l[k] != 0) = false := by simp [h0]
          have H0 := Lib.hid h0
          clear h0
          generalize hg : l[k] = x at *
          have HG := Lib.hid hg
          clear hg
          go_wp2_with (go_at_call 80; refine (cl80_any _ _).mono ?_; rintro r w' ⟨rfl, rfl⟩)
          refine ⟨⟨k + 1, by omega, by go_num, fun j hj => ?_⟩, by simp [intOf]; omega⟩
          rcases Nat.lt_or_ge j k with h | h
          · exact HZ.out j h
          · obtain rfl : j = k := by omega
            rw [List.getElem?_eq_getElem hlt, HG.out, H0.out]
        · have hb : (l[k] != 0) = true := by simp [h0]
          have H0 := Lib.hid h0
          clear h0
          generalize hg : l[k] = x at *
          have HG := Lib.hid hg
          clear hg
          go_wp2_with (go_at_call 80; refine (cl80_any _ _).mono ?_; rintro r w' ⟨rfl, rfl⟩)
          go_ret
          refine ⟨?_, rfl⟩
          rw [firstNot_some hlt HZ.out (by rw [HG.out]; exact H0.out)]
          rfl
      · obtain rfl : k = l.length := by omega
        go_wp2
        go_ret
        exact ⟨by rw [firstNot_none HZ.out]; rfl, rfl⟩
theorem dn_yes (v : Value) (l sp : List UInt8) (at' : Int) (w : World) (hS : SlB w v l sp) (h : firstNot l < 0) (h0 : 0 ≤ at') (h9 : at' < 1000000000000) :
    Calls Try.prog 63 #[v, .int .i64 at'] w fun r w' => r = .returned (.tuple #[]) ∧ w' = w := by
  obtain ⟨a, cap, rfl, _, _⟩ := hS.form
  generalize hf : firstNot l = f at *
  have hm : -1 ≤ f := by rw [← hf]; unfold firstNot; split <;> omega
  have HF := Lib.hid hf
  clear hf
  go_enter Try.func63, Try.ntmps63
  go_wp2_with (first | (go_at_call 79; refine (indexFunc_any _ l sp _ hS).mono ?_; rw [HF.out]; rintro r w' ⟨rfl, rfl⟩) | (go_at_call 57; refine (demand_yes _ _ _).mono ?_; rintro r w' ⟨rfl, rfl⟩))
  go_end0
  exact ⟨rfl, rfl⟩
theorem dn_no (v : Value) (l sp : List UInt8) (at' : Int) (w : World) (hS : SlB w v l sp) (h : 0 ≤ firstNot l) (h0 : 0 ≤ at') (h9 : at' < 1000000000000) (hl : firstNot l < 1000000000000) :
    Calls Try.prog 63 #[v, .int .i64 at'] w fun r w' => r = GaveUp 4 (at' + firstNot l) ∧ w' = w := by
  obtain ⟨a, cap, rfl, _, _⟩ := hS.form
  generalize hf : firstNot l = f at *
  have HF := Lib.hid hf
  have hd : decide (f < 0) = false := by simp; omega
  clear hf
  go_enter Try.func63, Try.ntmps63
  go_wp2_with (first | (go_at_call 79; refine (indexFunc_any _ l sp _ hS).mono ?_; rw [HF.out]; rintro r w' ⟨rfl, rfl⟩) | (go_at_call 57; refine (demand_no _ _ _).mono ?_; rintro r w' ⟨rfl, rfl⟩; unfold GaveUp))
  exact ⟨rfl, rfl, rfl⟩
theorem RAt_any (br : Nat) (v : Value) (l sp : List UInt8) (p fe fa : Int) (w : World) (hR : Rd w br v l sp p fe fa) :
    Calls Try.prog 23 #[.pointer (some ⟨br, 0, none⟩)] w fun r w' => r = .returned (.int .i64 p) ∧ w' = w := by
  obtain ⟨h1, h2, h3⟩ := hR
  have c0 : w.cell? ⟨br, 0, none⟩ = some (.pointer (some ⟨br, 0, none⟩)) := by rw [cell_of_heap h1]; rfl
  have c2 : w.cell? ⟨br, 2, none⟩ = some (.int .i64 p) := by rw [cell_of_heap h1]; rfl
  clear h1
  go_enter Try.func23, Try.ntmps23
  go_wp2_with (go_at_call 54; refine (rmade_yes br _ c0).mono ?_; rintro r w' ⟨rfl, rfl⟩)
  go_ret
  exact ⟨rfl, rfl⟩
set_option maxHeartbeats 1000000 in
theorem RLeft_any (br : Nat) (v : Value) (l sp : List UInt8) (p : Nat) (fe fa : Int) (w : World) (hR : Rd w br v l sp p fe fa) (hp : p ≤ l.length) (hl : l.length ≤ 1000000000) :
    Calls Try.prog 24 #[.pointer (some ⟨br, 0, none⟩)] w fun r w' => r = .returned (.int .i64 ((l.length : Int) - p)) ∧ ∃ n, w' = w.drewN n := by
  obtain ⟨h1, h2, h3⟩ := hR
  obtain ⟨a, cap, rfl, hc1, hc2⟩ := h2.sl.form
  have c0 : w.cell? ⟨br, 0, none⟩ = some (.pointer (some ⟨br, 0, none⟩)) := by rw [cell_of_heap h1]; rfl
  have c1 : w.cell? ⟨br, 1, none⟩ = some (.slice a l.length cap) := by rw [cell_of_heap h1]; rfl
  have c2 : w.cell? ⟨br, 2, none⟩ = some (.int .i64 p) := by rw [cell_of_heap h1]; rfl
  clear h1
  have hin : IntKind.i64.wrap ((l.length : Int) - p) = (l.length : Int) - p := IntWalk.i64_in _ (by omega)
  have HI := Lib.hid hin
  clear hin hp hc1 hc2
  go_enter Try.func24, Try.ntmps24
  go_wp2_with (go_at_call 54; refine (rmade_yes br _ c0).mono ?_; rintro r w' ⟨rfl, rfl⟩)
  have hin := HI.out
  go_quiet (fail)
  go_wp2
  go_ret
  exact ⟨rfl, _, rfl⟩
end Go.Proofs.Ytappmjophnhdaaa
