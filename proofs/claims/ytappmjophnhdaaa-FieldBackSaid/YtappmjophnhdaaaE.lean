/-
  Contract of the closure of a writer's Pad; no conditions but those that the theorem names.
-/
import Derived.Test.YtappmjophnhdaaaD
import Derived.IntWalk
namespace Go.Proofs.Ytappmjophnhdaaa
open Go.RowKit
set_option linter.unusedVariables false
set_option linter.unusedSimpArgs false
def padStep (l : List UInt8) (to : Int) : List UInt8 × Int := if 65536 < to ∨ to < l.length then (l, 2) else addStep l (List.replicate (to.toNat - l.length) 0)
set_option maxRecDepth 100000 in
set_option maxHeartbeats 1000000 in
theorem pad1_any (bt bp bw : Nat) (v : Value) (l sp : List UInt8) (e to : Int) (w : World) (hW : Wr w bw v l sp e) (hl : l.length ≤ 65536)
    (c1 : w.cell? ⟨bt, 0, none⟩ = some (.int .i64 to)) (c3 : w.cell? ⟨bp, 0, none⟩ = some (.pointer (some ⟨bw, 0, none⟩)))
    (d1 : bt ∉ bw :: blk v) (d3 : bp ∉ bw :: blk v) :
    Calls Try.prog 67 #[.pointer (some ⟨bt, 0, none⟩), .pointer (some ⟨bp, 0, none⟩)] w fun r w' =>
      r = .returned (.int .i64 (padStep l to).2) ∧ WrTo w bw v (padStep l to).1 e w' := by
  have hW' := hW
  obtain ⟨h1, h2, h3⟩ := hW'
  obtain ⟨a, cap, rfl, hc1, hc2⟩ := h2.sl.form
  have c2 : w.cell? ⟨bw, 1, none⟩ = some (.slice a l.length cap) := by rw [cell_of_heap h1]; rfl
  have H1 := Lib.hid h1
  clear h1
  by_cases hs : 65536 < to
  · have hr : padStep l to = (l, 2) := by simp [padStep, hs]
    rw [hr]
    have hw := WrTo.same hW
    clear hr
    have hq : decide ((65536 : Int) < to) = true := by simp [hs]
    go_enter Try.func67, Try.ntmps67
    go_wp2
    go_quiet (fail)
    go_wp2
    go_ret
    exact ⟨rfl, hw.drewN _⟩
  · have hq : decide ((65536 : Int) < to) = false := by simp; omega
    by_cases h2' : to < l.length
    · have hr : padStep l to = (l, 2) := by simp [padStep, h2']
      rw [hr]
      have hw := WrTo.same hW
      clear hr
      go_enter Try.func67, Try.ntmps67
      go_wp2
      go_quiet (fail)
      go_wp2
      go_ret
      exact ⟨rfl, hw.drewN _⟩
    · have hr : padStep l to = addStep l (List.replicate (to.toNat - l.length) 0) := by simp [padStep, hs, h2']
      rw [hr]
      obtain ⟨k, rfl⟩ := Int.eq_ofNat_of_zero_le (show 0 ≤ to by omega)
      have hle : ¬ (k : Int) < (l.length : Int) := by omega
      have hk1 : (k : Int) ≤ 65536 := by omega
      have hk2 : l.length ≤ k := by omega
      simp only [Int.toNat_natCast]
      clear hr hs h2'
      go_enter Try.func67, Try.ntmps67
      go_wp2
      go_quiet (fail)
      go_wp2
      have hin : -9223372036854775808 ≤ (k : Int) - (l.length : Int) ∧ (k : Int) - (l.length : Int) ≤ 9223372036854775807 := by omega
      have hkn : k - l.length ≤ 281474976710656 := by omega
      have hwr : IntKind.i64.wrap ((k : Int) - (l.length : Int)) = ((k - l.length : Nat) : Int) := by rw [IntWalk.i64_in _ hin]; omega
      clear hin
      go_region_with (first | (refine upon_make_bytes BT (k - l.length) hkn ?_; intro w1 o1 f1; have q1 : w1.cell? ⟨bp, 0, none⟩ = some (.pointer (some ⟨bw, 0, none⟩)) := f1.cell c3 (by simp)) | (go_at_call 68; refine (add_any bw _ _ l sp _ [] e _ (hW.keep (((Frm.refl [] _).drewN _).trans f1 (by simp)) (by simp) (by simp)) o1.sl hl).mono ?_; rintro r w2 ⟨rfl, f2⟩))
      all_goals go_wp2
      all_goals go_ret
      all_goals exact ⟨rfl, f2.behind (((Frm.refl [] _).drewN _).trans f1 (by simp))⟩
end Go.Proofs.Ytappmjophnhdaaa
