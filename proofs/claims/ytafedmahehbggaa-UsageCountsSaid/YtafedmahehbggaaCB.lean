/-
  Contract of compare. No conditions but those that each theorem names.
-/
import Derived.Test.YtafedmahehbggaaCA
import Derived.Shelf.SlSortCmp.Insertion
namespace Go.Proofs.Ytafedmahehbggaa
open Go.RowKit Go.Sort
set_option linter.unusedVariables false
set_option linter.unusedSimpArgs false
set_option maxRecDepth 100000

def cfA (x y : Ad) : Int := orI (Lib.compareInt x.1 y.1) (Lib.compareInt x.2 y.2)
set_option maxHeartbeats 1000000 in
theorem compare_any (x y : Ad) (w : World) : Calls Try.prog 60 #[av x, av y] w fun e w' => e = .returned (.int .i64 (cfA x y)) ∧ ∃ q os', w' = grow (w.drewN q) os' := by
  unfold cfA
  have hC1 := fun W => Compare_any x.1 y.1 W
  have hC2 := fun W => Compare_any x.2 y.2 W
  generalize Lib.compareInt x.1 y.1 = c1 at *
  generalize Lib.compareInt x.2 y.2 = c2 at *
  have HC1 := Lib.hid hC1
  have HC2 := Lib.hid hC2
  clear hC1 hC2
  unfold av
  go_enter Try.func60, Try.ntmps60
  go_upto_region 1 with (fail)
  refine wp_region_still_tail 10 (by kernel_rfl) (by kernel_rfl) ?_
  simp only [List.take_succ_cons, List.take_zero, List.drop_succ_cons, List.drop_zero]
  change wpStill _ _ (World.drew _) _ _ _
  iterate 4 still_step
  still_call (HC1.out _)
  iterate 4 still_step
  still_call (HC2.out _)
  refine wpStill_nil ?_
  change wpList _ _ _ _ _ (World.drew _)
  go_wp2_with fail
  refine (Or_new _ _ (by simp) _ _).mono ?_
  rintro r w1 ⟨rfl, rfl⟩
  go_wp2_with fail
  go_ret
  exact ⟨rfl, 1, _, by rw [alloc_eq_grow, alloc_eq_grow, alloc_eq_grow, grow_grow, grow_grow]; rfl⟩
theorem ltOf_cfA : ltOf cfA = ltA := by
  funext x y
  unfold ltOf cfA orI Lib.compareInt ltA
  rw [Bool.eq_iff_iff]
  simp only [decide_eq_true_eq]
  (repeat' split) <;> omega
theorem swoA : SWO (ltOf cfA) where
  irrefl x := by rw [ltOf_cfA]; exact ltA_irrefl x
  trans x y z h1 h2 := by rw [ltOf_cfA] at *; exact ltA_trans h1 h2
  ntrans x y z h1 h2 := by rw [ltOf_cfA] at *; exact ltA_ntrans h1 h2
end Go.Proofs.Ytafedmahehbggaa
