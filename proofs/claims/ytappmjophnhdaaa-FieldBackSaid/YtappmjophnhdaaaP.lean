/-
  Contract of ahead where the bytes are not all there; no conditions but those that the theorem names.
-/
import Derived.Test.YtappmjophnhdaaaO
import Derived.RegionDies
namespace Go.Proofs.Ytappmjophnhdaaa
open Go.RowKit
set_option linter.unusedVariables false
set_option maxHeartbeats 1000000 in
theorem ahead_no (br : Nat) (v : Value) (l sp : List UInt8) (p n : Nat) (fe fa : Int) (w : World) (hR : Rd w br v l sp p fe fa) (hl : l.length ≤ 1000000000) (hp : p ≤ l.length) (hn : l.length < p + n) :
    Calls Try.prog 60 #[.pointer (some ⟨br, 0, none⟩), .int .i64 n] w fun r w' => r = GaveUp 4 l.length ∧ Frm [] w w' := by
  have hR' := hR
  obtain ⟨h1, h2, h3⟩ := hR
  obtain ⟨a, cap, rfl, hc1, hc2⟩ := h2.sl.form
  have c0 : w.cell? ⟨br, 0, none⟩ = some (.pointer (some ⟨br, 0, none⟩)) := by rw [cell_of_heap h1]; rfl
  have c1 : w.cell? ⟨br, 1, none⟩ = some (.slice a l.length cap) := by rw [cell_of_heap h1]; rfl
  clear h1
  have hd : decide ((n : Int) ≤ (l.length : Int) - (p : Int)) = false := by simp; omega
  go_enter Try.func60, Try.ntmps60
  go_wp2
  go_region_dies
  all_goals
    rename_i hK
    refine (RLeft_any br _ l sp p fe fa _ (hR'.keep ((Frm.refl [] _).drewN 1) (by simp) (by simp)) (by omega) hl).mono ?_
    rintro r w1 ⟨rfl, nn, rfl⟩
    refine hK _ _ ?_
    clear hK
    (refine wpAny_take (i := 3) (v := ?_) rfl (by kernel_rfl) (by kernel_rfl) (by kernel_rfl) (fun _ _ _ h => h) (Or.inl ⟨by rfl, ?_⟩) ?_; rotate_left; (focus (intro w; go_simp; try with_reducible rfl)))
  · (refine wpAny_ready (rs := [7]) (by kernel_rfl) (by simp) ?_; refine AllReady.cons rfl (fun K hK => ?_) ?_; rotate_left; (focus exact AllReady.nil); go_simp; refine hK _ _ ?_; clear hK K)
    (refine wpAny_ready (rs := [8]) (by kernel_rfl) (by simp) ?_; refine AllReady.cons rfl (fun K hK => ?_) ?_; rotate_left; (focus exact AllReady.nil); go_simp; refine hK _ _ ?_; clear hK K)
    (refine wpAny_ready (rs := [9]) (by kernel_rfl) (by simp) ?_; refine AllReady.cons rfl (fun K hK => ?_) ?_; rotate_left; (focus exact AllReady.nil); go_simp; refine (demand_no _ _ _).mono ?_; rintro r w1 ⟨rfl, rfl⟩; unfold GaveUp; exact ⟨rfl, rfl, (Frm.refl [] _).drewN _⟩)
  · (refine wpAny_ready (rs := [8]) (by kernel_rfl) (by simp) ?_; refine AllReady.cons rfl (fun K hK => ?_) ?_; rotate_left; (focus exact AllReady.nil); go_simp; refine hK _ _ ?_; clear hK K)
    (refine wpAny_ready (rs := [9]) (by kernel_rfl) (by simp) ?_; refine AllReady.cons rfl (fun K hK => ?_) ?_; rotate_left; (focus exact AllReady.nil); go_simp; refine (demand_no _ _ _).mono ?_; rintro r w1 ⟨rfl, rfl⟩; unfold GaveUp; exact ⟨rfl, rfl, (Frm.refl [] _).drewN _⟩)
  · (refine wpAny_ready (rs := [9]) (by kernel_rfl) (by simp) ?_; refine AllReady.cons rfl (fun K hK => ?_) ?_; rotate_left; (focus exact AllReady.nil); go_simp; refine (demand_no _ _ _).mono ?_; rintro r w1 ⟨rfl, rfl⟩; unfold GaveUp; exact ⟨rfl, rfl, (Frm.refl [] _).drewN _⟩)
end Go.Proofs.Ytappmjophnhdaaa
