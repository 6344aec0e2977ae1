/-
  Contract of KeptBytes where what was lent is as it was; no conditions but those that the theorem names.
-/
import Derived.Test.YtappmjophnhdaaaH
import Derived.Deep.RegionHeld3
namespace Go.Proofs.Ytappmjophnhdaaa
open Go.RowKit
set_option linter.unusedVariables false
set_option linter.unusedSimpArgs false

theorem OwnB.whole {T : TypeId} {w : World} {g n cap : Nat} {l sp : List UInt8} (h : OwnB T w (.slice (some ⟨g, 0, none⟩) n cap) l sp) : OwnB T w (.slice (some ⟨g, 0, none⟩) cap cap) (l ++ sp) [] := by
  obtain ⟨k1, k2, k3⟩ := h.caps
  exact OwnB.of_heap (by simpa using h.heap) (by simp; omega) (by simp; omega) k3
set_option maxHeartbeats 1000000 in
theorem Kept_true (g n cap : Nat) (x : Value) (l msp : List UInt8) (w : World) (hO : OwnB 5 w (.slice (some ⟨g, 0, none⟩) n cap) l (marks l.length 3)) (hS : SlB w x l msp) (hl : l.length ≤ 1000000) :
    Calls Try.prog 29 #[.slice (some ⟨g, 0, none⟩) n cap, x] w fun r w' => r = .returned (.bool true) ∧ Frm [] w w' := by
  obtain ⟨a, cap2, rfl, hc1, hc2⟩ := hS.form
  obtain ⟨k1, k2, k3⟩ := hO.caps
  rw [marks_length] at k2
  subst k1
  have Hw := Lib.hid hO.whole
  clear k3 hO
  have HN := Lib.hid k2
  have hg : ((l.length : Int) == (l.length : Int)) = true := by simp
  have hn0 : (0 : Int) ≤ (cap : Int) := by omega
  have hle : (cap : Int) ≤ (cap : Int) := by omega
  have hsum : IntKind.i64.wrap ((l.length : Int) + 3) = (cap : Int) := by rw [IntWalk.i64_in _ (by omega)]; omega
  clear k2
  go_enter Try.func29, Try.ntmps29
  go_wp2
  go_region_held3 (fun _ => True)
    (first | trivial | go_keep)
    (first | (go_at_call 19; refine (Lent_any _ l msp _ (hS.keep ((Frm.refl [] _).drewN _) (by simp)) hl).mono ?_; rw [← HN.out]; rintro r w1 ⟨rfl, o1, f1⟩) | (go_at_call 17; refine (Same_any _ _ _ [] _ [] _ (Hw.out.keep (((Frm.refl [] _).drewN _).trans f1 (by simp)) (by simp)).sl o1.whole.sl).mono ?_; rintro r w2 ⟨rfl, rfl⟩))
  go_wp2
  go_ret
  exact ⟨by simp, ((Frm.refl [] _).drewN _).trans f1 (by simp)⟩
end Go.Proofs.Ytappmjophnhdaaa
