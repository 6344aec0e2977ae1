/-
  Contracts of the order's functions: Compare, Or, pieces, compare, Less, and of the document's Less. No conditions but those that each theorem names.
-/
import Derived.Test.YtnpjgccannebpaaN4
import Derived.StillTailTactics
namespace Go.Proofs.Ytnpjgccannebpaa
open Go.RowKit
set_option linter.unusedVariables false
set_option linter.unusedSimpArgs false
set_option maxRecDepth 100000

theorem call42 (a b : ByteArray) (w : World) : (callFunc 42 #[.string a, .string b]).run Try.prog w = .ok (.value (.int .i64 (Lib.compareBytes a.data.toList b.data.toList))) w := by
  rw [run_callFunc_extern Try.func42 (by kernel_rfl) (by kernel_rfl) (by kernel_rfl) (by kernel_rfl)]
  rw [Lib.run_compareString]
  rfl
theorem CmpString_any (a b : ByteArray) (w : World) : Calls Try.prog 37 #[.string a, .string b] w fun r w' => r = .returned (.int .i64 (Lib.compareBytes a.data.toList b.data.toList)) ∧ w' = w := by
  have hc := call42 a b w
  go_enter Try.func37, Try.ntmps37
  go_wp2
  go_ret
  exact ⟨rfl, rfl⟩
theorem StrCmp_any (a b : ByteArray) (w : World) : Calls Try.prog 33 #[.string a, .string b] w fun r w' => r = .returned (.int .i64 (Lib.compareBytes a.data.toList b.data.toList)) ∧ w' = w := by
  go_enter Try.func33, Try.ntmps33
  go_wp2_with (go_at_call 37; refine (CmpString_any _ _ _).mono ?_; rintro r w' ⟨rfl, hw⟩; rw [hw])
  go_ret
  exact ⟨rfl, rfl⟩
theorem Or_1 (g : Nat) (a b c : Int) (w : World) (h0 : w.cell? ⟨g, 0, none⟩ = some (.int .i64 a)) (h1 : w.cell? ⟨g, 1, none⟩ = some (.int .i64 b)) (h2 : w.cell? ⟨g, 2, none⟩ = some (.int .i64 c)) (ha : a ≠ 0) :
    Calls Try.prog 34 #[.slice (some ⟨g, 0, none⟩) 3 3] w fun e w' => e = .returned (.int .i64 a) ∧ w' = w := by
  go_enter Try.func34, Try.ntmps34
  go_wp2
  refine wp_loop_rounds 1 ?_
  rw [rounds_succ]
  go_wp2
  go_ret
  exact ⟨rfl, rfl⟩
theorem Or_2 (g : Nat) (b c : Int) (w : World) (h0 : w.cell? ⟨g, 0, none⟩ = some (.int .i64 0)) (h1 : w.cell? ⟨g, 1, none⟩ = some (.int .i64 b)) (h2 : w.cell? ⟨g, 2, none⟩ = some (.int .i64 c)) (hb : b ≠ 0) :
    Calls Try.prog 34 #[.slice (some ⟨g, 0, none⟩) 3 3] w fun e w' => e = .returned (.int .i64 b) ∧ w' = w := by
  go_enter Try.func34, Try.ntmps34
  go_wp2
  refine wp_loop_rounds 2 ?_
  rw [rounds_succ]
  go_wp2
  rw [rounds_succ]
  go_wp2
  go_ret
  exact ⟨rfl, rfl⟩
theorem Or_3 (g : Nat) (c : Int) (w : World) (h0 : w.cell? ⟨g, 0, none⟩ = some (.int .i64 0)) (h1 : w.cell? ⟨g, 1, none⟩ = some (.int .i64 0)) (h2 : w.cell? ⟨g, 2, none⟩ = some (.int .i64 c)) :
    Calls Try.prog 34 #[.slice (some ⟨g, 0, none⟩) 3 3] w fun e w' => e = .returned (.int .i64 c) ∧ w' = w := by
  by_cases hc : c = 0
  · subst hc
    go_enter Try.func34, Try.ntmps34
    go_wp2
    refine wp_loop_rounds 4 ?_
    rw [rounds_succ]
    go_wp2
    rw [rounds_succ]
    go_wp2
    rw [rounds_succ]
    go_wp2
    rw [rounds_succ]
    go_wp2
    go_ret
    exact ⟨rfl, rfl⟩
  · go_enter Try.func34, Try.ntmps34
    go_wp2
    refine wp_loop_rounds 3 ?_
    rw [rounds_succ]
    go_wp2
    rw [rounds_succ]
    go_wp2
    rw [rounds_succ]
    go_wp2
    go_ret
    exact ⟨rfl, rfl⟩
theorem by_cell (W : World) (cs : Array Value) (g : Nat) (hg : g = W.heap.size) (i : Nat) : (W.alloc (.cells cs 39)).cell? ⟨g, i, none⟩ = cs[i]? := by
  subst hg
  rw [cell_of_heap (heap_alloc_new W _)]
set_option maxHeartbeats 4000000 in
theorem cmp_any (x0 x1 x2 y0 y1 y2 : ByteArray) (w : World) : Calls Try.prog 28 #[.agg #[.string x0, .string x1, .string x2], .agg #[.string y0, .string y1, .string y2]] w fun e w' => e = .returned (.int .i64 (cmp3 (x0.data.toList, x1.data.toList, x2.data.toList) (y0.data.toList, y1.data.toList, y2.data.toList))) ∧ Frm [] w w' := by
  have H0 := Lib.hid (fun W => StrCmp_any x0 y0 W)
  have H1 := Lib.hid (fun W => StrCmp_any x1 y1 W)
  have H2 := Lib.hid (fun W => StrCmp_any x2 y2 W)
  have T0 := cb_three x0.data.toList y0.data.toList
  have T1 := cb_three x1.data.toList y1.data.toList
  have T2 := cb_three x2.data.toList y2.data.toList
  unfold cmp3
  simp only
  generalize Lib.compareBytes x0.data.toList y0.data.toList = c0 at *
  generalize Lib.compareBytes x1.data.toList y1.data.toList = c1 at *
  generalize Lib.compareBytes x2.data.toList y2.data.toList = c2 at *
  rcases T0 with rfl | rfl | rfl
  · go_enter Try.func28, Try.ntmps28
    go_wp2_with fail
    go_step3
    go_wp2_with fail
    go_step3
    go_wp2_with fail
    refine wp_loop_rounds 4 ?_
    rw [rounds_succ]
    go_wp2_with fail
    refine wp_region_still_tail 9 (by kernel_rfl) (by kernel_rfl) ?_
    simp only [List.take_succ_cons, List.take_zero, List.drop_succ_cons, List.drop_zero]
    change wpStill _ _ (World.drew _) _ _ _
    iterate 7 still_step
    still_call (H0.out _)
    still_step
    refine wpStill_nil ?_
    change wpList _ _ _ _ _ (World.drew _)
    go_wp2_with fail
    refine (Or_1 (w.heap.size + 1 + 1) (-1) 0 0 _ (by simp only [World.cell?_drew]; exact by_cell _ _ _ (by simp) 0) (by simp only [World.cell?_drew]; exact by_cell _ _ _ (by simp) 1) (by simp only [World.cell?_drew]; exact by_cell _ _ _ (by simp) 2) (by decide)).mono ?_
    rintro r w1 ⟨rfl, rfl⟩
    go_wp2_with fail
    rw [Exit.noGoto_ret]
    go_ret
    exact ⟨by simp, ((((Frm.refl [] w).alloc _).alloc _).alloc _).drew⟩
  · rcases T1 with rfl | rfl | rfl
    · go_enter Try.func28, Try.ntmps28
      go_wp2_with fail
      go_step3
      go_wp2_with fail
      go_step3
      go_wp2_with fail
      refine wp_loop_rounds 4 ?_
      rw [rounds_succ]
      go_wp2_with fail
      refine wp_region_still_tail 9 (by kernel_rfl) (by kernel_rfl) ?_
      simp only [List.take_succ_cons, List.take_zero, List.drop_succ_cons, List.drop_zero]
      change wpStill _ _ (World.drew _) _ _ _
      iterate 7 still_step
      still_call (H0.out _)
      still_step
      refine wpStill_nil ?_
      change wpList _ _ _ _ _ (World.drew _)
      go_wp2_with fail
      rw [rounds_succ]
      go_wp2_with fail
      refine wp_region_still_tail 9 (by kernel_rfl) (by kernel_rfl) ?_
      simp only [List.take_succ_cons, List.take_zero, List.drop_succ_cons, List.drop_zero]
      change wpStill _ _ (World.drew _) _ _ _
      iterate 7 still_step
      still_call (H1.out _)
      still_step
      refine wpStill_nil ?_
      change wpList _ _ _ _ _ (World.drew _)
      go_wp2_with fail
      refine (Or_2 (w.heap.size + 1 + 1) (-1) 0 _ (by simp only [World.cell?_drew]; exact by_cell _ _ _ (by simp) 0) (by simp only [World.cell?_drew]; exact by_cell _ _ _ (by simp) 1) (by simp only [World.cell?_drew]; exact by_cell _ _ _ (by simp) 2) (by decide)).mono ?_
      rintro r w1 ⟨rfl, rfl⟩
      go_wp2_with fail
      rw [Exit.noGoto_ret]
      go_ret
      exact ⟨by simp, ((((Frm.refl [] w).alloc _).alloc _).alloc _).drew.drew⟩
    · rcases T2 with rfl | rfl | rfl
      · go_enter Try.func28, Try.ntmps28
        go_wp2_with fail
        go_step3
        go_wp2_with fail
        go_step3
        go_wp2_with fail
        refine wp_loop_rounds 4 ?_
        rw [rounds_succ]
        go_wp2_with fail
        refine wp_region_still_tail 9 (by kernel_rfl) (by kernel_rfl) ?_
        simp only [List.take_succ_cons, List.take_zero, List.drop_succ_cons, List.drop_zero]
        change wpStill _ _ (World.drew _) _ _ _
        iterate 7 still_step
        still_call (H0.out _)
        still_step
        refine wpStill_nil ?_
        change wpList _ _ _ _ _ (World.drew _)
        go_wp2_with fail
        rw [rounds_succ]
        go_wp2_with fail
        refine wp_region_still_tail 9 (by kernel_rfl) (by kernel_rfl) ?_
        simp only [List.take_succ_cons, List.take_zero, List.drop_succ_cons, List.drop_zero]
        change wpStill _ _ (World.drew _) _ _ _
        iterate 7 still_step
        still_call (H1.out _)
        still_step
        refine wpStill_nil ?_
        change wpList _ _ _ _ _ (World.drew _)
        go_wp2_with fail
        rw [rounds_succ]
        go_wp2_with fail
        refine wp_region_still_tail 9 (by kernel_rfl) (by kernel_rfl) ?_
        simp only [List.take_succ_cons, List.take_zero, List.drop_succ_cons, List.drop_zero]
        change wpStill _ _ (World.drew _) _ _ _
        iterate 7 still_step
        still_call (H2.out _)
        still_step
        refine wpStill_nil ?_
        change wpList _ _ _ _ _ (World.drew _)
        go_wp2_with fail
        refine (Or_3 (w.heap.size + 1 + 1) (-1) _ (by simp only [World.cell?_drew]; exact by_cell _ _ _ (by simp) 0) (by simp only [World.cell?_drew]; exact by_cell _ _ _ (by simp) 1) (by simp only [World.cell?_drew]; exact by_cell _ _ _ (by simp) 2)).mono ?_
        rintro r w1 ⟨rfl, rfl⟩
        go_wp2_with fail
        rw [Exit.noGoto_ret]
        go_ret
        exact ⟨by simp, ((((Frm.refl [] w).alloc _).alloc _).alloc _).drew.drew.drew⟩
      · go_enter Try.func28, Try.ntmps28
        go_wp2_with fail
        go_step3
        go_wp2_with fail
        go_step3
        go_wp2_with fail
        refine wp_loop_rounds 4 ?_
        rw [rounds_succ]
        go_wp2_with fail
        refine wp_region_still_tail 9 (by kernel_rfl) (by kernel_rfl) ?_
        simp only [List.take_succ_cons, List.take_zero, List.drop_succ_cons, List.drop_zero]
        change wpStill _ _ (World.drew _) _ _ _
        iterate 7 still_step
        still_call (H0.out _)
        still_step
        refine wpStill_nil ?_
        change wpList _ _ _ _ _ (World.drew _)
        go_wp2_with fail
        rw [rounds_succ]
        go_wp2_with fail
        refine wp_region_still_tail 9 (by kernel_rfl) (by kernel_rfl) ?_
        simp only [List.take_succ_cons, List.take_zero, List.drop_succ_cons, List.drop_zero]
        change wpStill _ _ (World.drew _) _ _ _
        iterate 7 still_step
        still_call (H1.out _)
        still_step
        refine wpStill_nil ?_
        change wpList _ _ _ _ _ (World.drew _)
        go_wp2_with fail
        rw [rounds_succ]
        go_wp2_with fail
        refine wp_region_still_tail 9 (by kernel_rfl) (by kernel_rfl) ?_
        simp only [List.take_succ_cons, List.take_zero, List.drop_succ_cons, List.drop_zero]
        change wpStill _ _ (World.drew _) _ _ _
        iterate 7 still_step
        still_call (H2.out _)
        still_step
        refine wpStill_nil ?_
        change wpList _ _ _ _ _ (World.drew _)
        go_wp2_with fail
        rw [rounds_succ]
        go_wp2_with fail
        refine (Or_3 (w.heap.size + 1 + 1) (0) _ (by simp only [World.cell?_drew]; exact by_cell _ _ _ (by simp) 0) (by simp only [World.cell?_drew]; exact by_cell _ _ _ (by simp) 1) (by simp only [World.cell?_drew]; exact by_cell _ _ _ (by simp) 2)).mono ?_
        rintro r w1 ⟨rfl, rfl⟩
        go_wp2_with fail
        rw [Exit.noGoto_ret]
        go_ret
        exact ⟨by simp, ((((Frm.refl [] w).alloc _).alloc _).alloc _).drew.drew.drew⟩
      · go_enter Try.func28, Try.ntmps28
        go_wp2_with fail
        go_step3
        go_wp2_with fail
        go_step3
        go_wp2_with fail
        refine wp_loop_rounds 4 ?_
        rw [rounds_succ]
        go_wp2_with fail
        refine wp_region_still_tail 9 (by kernel_rfl) (by kernel_rfl) ?_
        simp only [List.take_succ_cons, List.take_zero, List.drop_succ_cons, List.drop_zero]
        change wpStill _ _ (World.drew _) _ _ _
        iterate 7 still_step
        still_call (H0.out _)
        still_step
        refine wpStill_nil ?_
        change wpList _ _ _ _ _ (World.drew _)
        go_wp2_with fail
        rw [rounds_succ]
        go_wp2_with fail
        refine wp_region_still_tail 9 (by kernel_rfl) (by kernel_rfl) ?_
        simp only [List.take_succ_cons, List.take_zero, List.drop_succ_cons, List.drop_zero]
        change wpStill _ _ (World.drew _) _ _ _
        iterate 7 still_step
        still_call (H1.out _)
        still_step
        refine wpStill_nil ?_
        change wpList _ _ _ _ _ (World.drew _)
        go_wp2_with fail
        rw [rounds_succ]
        go_wp2_with fail
        refine wp_region_still_tail 9 (by kernel_rfl) (by kernel_rfl) ?_
        simp only [List.take_succ_cons, List.take_zero, List.drop_succ_cons, List.drop_zero]
        change wpStill _ _ (World.drew _) _ _ _
        iterate 7 still_step
        still_call (H2.out _)
        still_step
        refine wpStill_nil ?_
        change wpList _ _ _ _ _ (World.drew _)
        go_wp2_with fail
        refine (Or_3 (w.heap.size + 1 + 1) (1) _ (by simp only [World.cell?_drew]; exact by_cell _ _ _ (by simp) 0) (by simp only [World.cell?_drew]; exact by_cell _ _ _ (by simp) 1) (by simp only [World.cell?_drew]; exact by_cell _ _ _ (by simp) 2)).mono ?_
        rintro r w1 ⟨rfl, rfl⟩
        go_wp2_with fail
        rw [Exit.noGoto_ret]
        go_ret
        exact ⟨by simp, ((((Frm.refl [] w).alloc _).alloc _).alloc _).drew.drew.drew⟩
    · go_enter Try.func28, Try.ntmps28
      go_wp2_with fail
      go_step3
      go_wp2_with fail
      go_step3
      go_wp2_with fail
      refine wp_loop_rounds 4 ?_
      rw [rounds_succ]
      go_wp2_with fail
      refine wp_region_still_tail 9 (by kernel_rfl) (by kernel_rfl) ?_
      simp only [List.take_succ_cons, List.take_zero, List.drop_succ_cons, List.drop_zero]
      change wpStill _ _ (World.drew _) _ _ _
      iterate 7 still_step
      still_call (H0.out _)
      still_step
      refine wpStill_nil ?_
      change wpList _ _ _ _ _ (World.drew _)
      go_wp2_with fail
      rw [rounds_succ]
      go_wp2_with fail
      refine wp_region_still_tail 9 (by kernel_rfl) (by kernel_rfl) ?_
      simp only [List.take_succ_cons, List.take_zero, List.drop_succ_cons, List.drop_zero]
      change wpStill _ _ (World.drew _) _ _ _
      iterate 7 still_step
      still_call (H1.out _)
      still_step
      refine wpStill_nil ?_
      change wpList _ _ _ _ _ (World.drew _)
      go_wp2_with fail
      refine (Or_2 (w.heap.size + 1 + 1) 1 0 _ (by simp only [World.cell?_drew]; exact by_cell _ _ _ (by simp) 0) (by simp only [World.cell?_drew]; exact by_cell _ _ _ (by simp) 1) (by simp only [World.cell?_drew]; exact by_cell _ _ _ (by simp) 2) (by decide)).mono ?_
      rintro r w1 ⟨rfl, rfl⟩
      go_wp2_with fail
      rw [Exit.noGoto_ret]
      go_ret
      exact ⟨by simp, ((((Frm.refl [] w).alloc _).alloc _).alloc _).drew.drew⟩
  · go_enter Try.func28, Try.ntmps28
    go_wp2_with fail
    go_step3
    go_wp2_with fail
    go_step3
    go_wp2_with fail
    refine wp_loop_rounds 4 ?_
    rw [rounds_succ]
    go_wp2_with fail
    refine wp_region_still_tail 9 (by kernel_rfl) (by kernel_rfl) ?_
    simp only [List.take_succ_cons, List.take_zero, List.drop_succ_cons, List.drop_zero]
    change wpStill _ _ (World.drew _) _ _ _
    iterate 7 still_step
    still_call (H0.out _)
    still_step
    refine wpStill_nil ?_
    change wpList _ _ _ _ _ (World.drew _)
    go_wp2_with fail
    refine (Or_1 (w.heap.size + 1 + 1) 1 0 0 _ (by simp only [World.cell?_drew]; exact by_cell _ _ _ (by simp) 0) (by simp only [World.cell?_drew]; exact by_cell _ _ _ (by simp) 1) (by simp only [World.cell?_drew]; exact by_cell _ _ _ (by simp) 2) (by decide)).mono ?_
    rintro r w1 ⟨rfl, rfl⟩
    go_wp2_with fail
    rw [Exit.noGoto_ret]
    go_ret
    exact ⟨by simp, ((((Frm.refl [] w).alloc _).alloc _).alloc _).drew⟩
end Go.Proofs.Ytnpjgccannebpaa
