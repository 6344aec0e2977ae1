/-
  Contracts of Snapshot, Split, Join, and of the document's. No conditions but those that each theorem names. Contracts of the order's functions: Compare, Or, pieces, compare, Less, and of the document's Less. No conditions but those that each theorem names. Contracts of pieces, Less, the document's Less, splits; the chapter's examples. No conditions but those that each theorem names. Contracts of the checks of one record, the program's and the document's. No conditions but those that each theorem names. The functions that twice, beyond, orphan and stray make. No conditions but those that each theorem names. The function that orphan makes. No conditions but those that each theorem names. Whether two records are the same. No conditions but those that each theorem names. Whether lists of ints, cursors are the same. No conditions but those that each theorem names. Making and storing records and tables. No conditions but those that each theorem names. slices.EqualFunc over records. No conditions but those that each theorem names. slices.IsSortedFunc over records, by their names. No conditions but those that each theorem names. Checks of lives and of cursors. No conditions but those that each theorem names.
-/
import Derived.Test.YtljhanhipmnioaaGreatDBa1
import Derived.Test.YtljhanhipmnioaaGreatDBa2
import Derived.Deep.Cut
import Derived.StillTailTactics
import Derived.Deep.LoopGhost
import Derived.OrdersHeld
import Derived.WalkKit
import Derived.WalkSpells
import Derived.WalkLawsBesides
import Derived.Deep.AppendSrc
import Derived.Laws.CopyOwn
import Derived.Laws.BytesArg
import Derived.Carry
import Derived.Laws.BytesString
import Derived.Deep.SlicePairs
import Derived.Lib.Hide
import Derived.Test.YtljhanhipmnioaaGreatChecked
import Derived.ChangeKeysEq
import Derived.Deep.MidRow
import Derived.Deep.RegionHeld3
import Derived.OpenShut
import Derived.WalkHide
import Derived.IntWalk
import Derived.Deep.RegionLaw
import Derived.Deep.RegionWith
import Derived.Deep.QuietTactic
import Derived.BigQuiet
import Derived.Deep.CutBlock
import Derived.Deep.DeepCutAuto
import Derived.Deep.Slices
import Derived.Defers
import Derived.Recover
import Derived.Deep.WholeRow
import Derived.Lib.Bytealg
import Derived.Lib.TrimUEq
import Derived.Lib.MinMaxS
import Derived.LaidEqlPtr
import Derived.Lib.OthersKept
import Derived.Deep.Draws
import Derived.WalkMore
import Derived.Lib.BufferWrite
import Derived.Lib.UnsafeStr
import Derived.Laws.MakeOwn
import Derived.Laws.Strings3
import Derived.BigRegion
import Derived.Lib.Walk
namespace Go.Proofs.YtljhanhipmnioaaGreat
open Go.RowKit
set_option linter.unusedVariables false
set_option linter.unusedSimpArgs false
set_option maxRecDepth 100000

theorem cutL_len : ∀ l : List UInt8, (cutL l).1.length ≤ l.length ∧ (cutL l).2.1.length ≤ l.length
  | [] => ⟨Nat.le_refl _, Nat.le_refl _⟩
  | c :: r => by
    have ih := cutL_len r
    by_cases hc : c = 64
    · simp [cutL, hc]
    · simp only [cutL, hc, if_false, List.length_cons]; omega
theorem cut1_size (s : ByteArray) : (cut1 s).size ≤ s.size := by unfold cut1; rw [sB_size, Lib.size_eq]; exact (cutL_len _).1
theorem cut2_size (s : ByteArray) : (cut2 s).size ≤ s.size := by unfold cut2; rw [sB_size, Lib.size_eq]; exact (cutL_len _).2
set_option maxHeartbeats 1000000 in
theorem Snapshot_any (s : ByteArray) (hs : s.size ≤ 1000) (w : World) : Calls Tryz.prog 122 #[.string s] w fun e w' => e = .returned (.bool (snapS s)) ∧ Frm [] w w' := by
  rw [snap_eq]
  have HC := Lib.hid (Cut_any s hs w)
  unfold CutE at HC
  have HV := Lib.hid (fun W => Volume_any (cut1 s) W)
  have HP := Lib.hid (fun W => Part_any (cut2 s) W)
  generalize partS (cut1 s) = x at *
  generalize partS (cut2 s) = y at *
  generalize cut1 s = a at *
  generalize cut2 s = b at *
  generalize cutIs s = c at *
  clear hs
  cases x
  all_goals
    go_enter Tryz.func122, Tryz.ntmps122
    go_wp2_with (first
      | (go_at_call 178; refine HC.out.mono ?_; rintro e w1 ⟨rfl, f1⟩; have F1 := Lib.hid f1; clear f1)
      | (go_at_call 112; refine (HV.out _).mono ?_; rintro e w2 ⟨rfl, f2⟩; have F2 := Lib.hid (F1.out.trans f2 (by simp)); clear f2)
      | (go_at_call 173; refine (HP.out _).mono ?_; rintro e w3 ⟨rfl, f3⟩; have F3 := Lib.hid (F2.out.trans f3 (by simp)); clear f3))
    go_ret
  · exact ⟨by simp, F2.out⟩
  · exact ⟨by simp, F3.out⟩
def SplE (s : ByteArray) (e : Ending) : Prop := e = .returned (.tuple #[.string (spl1 s), .string (spl2 s), .bool (snapS s)])
set_option maxHeartbeats 1000000 in
theorem Split_any (s : ByteArray) (hs : s.size ≤ 1000) (w : World) : Calls Tryz.prog 116 #[.string s] w fun e w' => SplE s e ∧ Frm [] w w' := by
  have HS := Lib.hid (Snapshot_any s hs w)
  have HC := Lib.hid (fun W => Cut_any s hs W)
  unfold CutE at HC
  have H1 := Lib.hid (fun W => Clone_any (cut1 s) (Nat.le_trans (cut1_size s) hs) W)
  have H2 := Lib.hid (fun W => Clone_any (cut2 s) (Nat.le_trans (cut2_size s) hs) W)
  unfold SplE spl1 spl2
  generalize cut1 s = a at *
  generalize cut2 s = b at *
  generalize cutIs s = c at *
  generalize snapS s = x at *
  clear hs
  cases x
  · go_enter Tryz.func116, Tryz.ntmps116
    go_wp2_with (go_at_call 122; refine HS.out.mono ?_; rintro e w1 ⟨rfl, f1⟩; have F1 := Lib.hid f1; clear f1)
    go_ret3
    exact ⟨rfl, F1.out⟩
  · go_enter Tryz.func116, Tryz.ntmps116
    go_upto_region 3 with (go_at_call 122; refine HS.out.mono ?_; rintro e w1 ⟨rfl, f1⟩; have F1 := Lib.hid f1; clear f1)
    go_upto_region 4 with (go_at_call 178; refine (HC.out _).mono ?_; rintro e w2 ⟨rfl, f2⟩; have F2 := Lib.hid (F1.out.trans f2 (by simp)); clear f2)
    go_wp2_with (first
      | (go_at_call 170; refine (H1.out _).mono ?_; rintro e w3 ⟨rfl, f3⟩; have F3 := Lib.hid (F2.out.trans f3 (by simp)); clear f3; clear H1)
      | (go_at_call 170; refine (H2.out _).mono ?_; rintro e w4 ⟨rfl, f4⟩; have F4 := Lib.hid (F3.out.trans f4 (by simp)); clear f4))
    go_ret3
    exact ⟨rfl, F4.out⟩
end Go.Proofs.YtljhanhipmnioaaGreat

namespace Go.Proofs.YtljhanhipmnioaaGreat
open Go.RowKit
set_option linter.unusedVariables false
set_option linter.unusedSimpArgs false
set_option maxRecDepth 100000

theorem call42 (a b : ByteArray) (w : World) : (callFunc 254 #[.string a, .string b]).run Tryz.prog w = .ok (.value (.int .i64 (Lib.compareBytes a.data.toList b.data.toList))) w := by
  rw [run_callFunc_extern Tryz.func254 (by kernel_rfl) (by kernel_rfl) (by kernel_rfl) (by kernel_rfl)]
  rw [Lib.run_compareString]
  rfl
theorem CmpString_any (a b : ByteArray) (w : World) : Calls Tryz.prog 247 #[.string a, .string b] w fun r w' => r = .returned (.int .i64 (Lib.compareBytes a.data.toList b.data.toList)) ∧ w' = w := by
  have hc := call42 a b w
  go_enter Tryz.func247, Tryz.ntmps247
  go_wp2
  go_ret
  exact ⟨rfl, rfl⟩
theorem StrCmp_any (a b : ByteArray) (w : World) : Calls Tryz.prog 235 #[.string a, .string b] w fun r w' => r = .returned (.int .i64 (Lib.compareBytes a.data.toList b.data.toList)) ∧ w' = w := by
  go_enter Tryz.func235, Tryz.ntmps235
  go_wp2_with (go_at_call 247; refine (CmpString_any _ _ _).mono ?_; rintro r w' ⟨rfl, hw⟩; rw [hw])
  go_ret
  exact ⟨rfl, rfl⟩
theorem Or_1 (g : Nat) (a b c : Int) (w : World) (h0 : w.cell? ⟨g, 0, none⟩ = some (.int .i64 a)) (h1 : w.cell? ⟨g, 1, none⟩ = some (.int .i64 b)) (h2 : w.cell? ⟨g, 2, none⟩ = some (.int .i64 c)) (ha : a ≠ 0) :
    Calls Tryz.prog 181 #[.slice (some ⟨g, 0, none⟩) 3 3] w fun e w' => e = .returned (.int .i64 a) ∧ w' = w := by
  go_enter Tryz.func181, Tryz.ntmps181
  go_wp2
  refine wp_loop_rounds 1 ?_
  rw [rounds_succ]
  go_wp2
  go_ret
  exact ⟨rfl, rfl⟩
theorem Or_2 (g : Nat) (b c : Int) (w : World) (h0 : w.cell? ⟨g, 0, none⟩ = some (.int .i64 0)) (h1 : w.cell? ⟨g, 1, none⟩ = some (.int .i64 b)) (h2 : w.cell? ⟨g, 2, none⟩ = some (.int .i64 c)) (hb : b ≠ 0) :
    Calls Tryz.prog 181 #[.slice (some ⟨g, 0, none⟩) 3 3] w fun e w' => e = .returned (.int .i64 b) ∧ w' = w := by
  go_enter Tryz.func181, Tryz.ntmps181
  go_wp2
  refine wp_loop_rounds 2 ?_
  rw [rounds_succ]
  go_wp2
  rw [rounds_succ]
  go_wp2
  go_ret
  exact ⟨rfl, rfl⟩
theorem Or_3 (g : Nat) (c : Int) (w : World) (h0 : w.cell? ⟨g, 0, none⟩ = some (.int .i64 0)) (h1 : w.cell? ⟨g, 1, none⟩ = some (.int .i64 0)) (h2 : w.cell? ⟨g, 2, none⟩ = some (.int .i64 c)) :
    Calls Tryz.prog 181 #[.slice (some ⟨g, 0, none⟩) 3 3] w fun e w' => e = .returned (.int .i64 c) ∧ w' = w := by
  by_cases hc : c = 0
  · subst hc
    go_enter Tryz.func181, Tryz.ntmps181
    go_wp2
    refine wp_loop_rounds 4 ?_
    rw [rounds_succ]
    go_wp2
    rw [rounds_succ]
    go_wp2
    rw [rounds_succ]
    go_wp2
    rw [rounds_succ]
    go_wp2
    go_ret
    exact ⟨rfl, rfl⟩
  · go_enter Tryz.func181, Tryz.ntmps181
    go_wp2
    refine wp_loop_rounds 3 ?_
    rw [rounds_succ]
    go_wp2
    rw [rounds_succ]
    go_wp2
    rw [rounds_succ]
    go_wp2
    go_ret
    exact ⟨rfl, rfl⟩
theorem by_cell (W : World) (cs : Array Value) (g : Nat) (hg : g = W.heap.size) (i : Nat) : (W.alloc (.cells cs 210)).cell? ⟨g, i, none⟩ = cs[i]? := by
  subst hg
  rw [cell_of_heap (heap_alloc_new W _)]
set_option maxHeartbeats 4000000 in
theorem cmp_any (x0 x1 x2 y0 y1 y2 : ByteArray) (w : World) : Calls Tryz.prog 224 #[.agg #[.string x0, .string x1, .string x2], .agg #[.string y0, .string y1, .string y2]] w fun e w' => e = .returned (.int .i64 (cmp3 (x0.data.toList, x1.data.toList, x2.data.toList) (y0.data.toList, y1.data.toList, y2.data.toList))) ∧ Frm [] w w' := by
  have H0 := Lib.hid (fun W => StrCmp_any x0 y0 W)
  have H1 := Lib.hid (fun W => StrCmp_any x1 y1 W)
  have H2 := Lib.hid (fun W => StrCmp_any x2 y2 W)
  have T0 := cb_three x0.data.toList y0.data.toList
  have T1 := cb_three x1.data.toList y1.data.toList
  have T2 := cb_three x2.data.toList y2.data.toList
  unfold cmp3
  simp only
  generalize Lib.compareBytes x0.data.toList y0.data.toList = c0 at *
  generalize Lib.compareBytes x1.data.toList y1.data.toList = c1 at *
  generalize Lib.compareBytes x2.data.toList y2.data.toList = c2 at *
  rcases T0 with rfl | rfl | rfl
  · go_enter Tryz.func224, Tryz.ntmps224
    go_wp2_with fail
    go_step3
    go_wp2_with fail
    go_step3
    go_wp2_with fail
    refine wp_loop_rounds 4 ?_
    rw [rounds_succ]
    go_wp2_with fail
    refine wp_region_still_tail 9 (by kernel_rfl) (by kernel_rfl) ?_
    simp only [List.take_succ_cons, List.take_zero, List.drop_succ_cons, List.drop_zero]
    change wpStill _ _ (World.drew _) _ _ _
    iterate 7 still_step
    still_call (H0.out _)
    still_step
    refine wpStill_nil ?_
    change wpList _ _ _ _ _ (World.drew _)
    go_wp2_with fail
    refine (Or_1 (w.heap.size + 1 + 1) (-1) 0 0 _ (by simp only [World.cell?_drew]; exact by_cell _ _ _ (by simp) 0) (by simp only [World.cell?_drew]; exact by_cell _ _ _ (by simp) 1) (by simp only [World.cell?_drew]; exact by_cell _ _ _ (by simp) 2) (by decide)).mono ?_
    rintro r w1 ⟨rfl, rfl⟩
    go_wp2_with fail
    rw [Exit.noGoto_ret]
    go_ret
    exact ⟨by simp, ((((Frm.refl [] w).alloc _).alloc _).alloc _).drew⟩
  · rcases T1 with rfl | rfl | rfl
    · go_enter Tryz.func224, Tryz.ntmps224
      go_wp2_with fail
      go_step3
      go_wp2_with fail
      go_step3
      go_wp2_with fail
      refine wp_loop_rounds 4 ?_
      rw [rounds_succ]
      go_wp2_with fail
      refine wp_region_still_tail 9 (by kernel_rfl) (by kernel_rfl) ?_
      simp only [List.take_succ_cons, List.take_zero, List.drop_succ_cons, List.drop_zero]
      change wpStill _ _ (World.drew _) _ _ _
      iterate 7 still_step
      still_call (H0.out _)
      still_step
      refine wpStill_nil ?_
      change wpList _ _ _ _ _ (World.drew _)
      go_wp2_with fail
      rw [rounds_succ]
      go_wp2_with fail
      refine wp_region_still_tail 9 (by kernel_rfl) (by kernel_rfl) ?_
      simp only [List.take_succ_cons, List.take_zero, List.drop_succ_cons, List.drop_zero]
      change wpStill _ _ (World.drew _) _ _ _
      iterate 7 still_step
      still_call (H1.out _)
      still_step
      refine wpStill_nil ?_
      change wpList _ _ _ _ _ (World.drew _)
      go_wp2_with fail
      refine (Or_2 (w.heap.size + 1 + 1) (-1) 0 _ (by simp only [World.cell?_drew]; exact by_cell _ _ _ (by simp) 0) (by simp only [World.cell?_drew]; exact by_cell _ _ _ (by simp) 1) (by simp only [World.cell?_drew]; exact by_cell _ _ _ (by simp) 2) (by decide)).mono ?_
      rintro r w1 ⟨rfl, rfl⟩
      go_wp2_with fail
      rw [Exit.noGoto_ret]
      go_ret
      exact ⟨by simp, ((((Frm.refl [] w).alloc _).alloc _).alloc _).drew.drew⟩
    · rcases T2 with rfl | rfl | rfl
      · go_enter Tryz.func224, Tryz.ntmps224
        go_wp2_with fail
        go_step3
        go_wp2_with fail
        go_step3
        go_wp2_with fail
        refine wp_loop_rounds 4 ?_
        rw [rounds_succ]
        go_wp2_with fail
        refine wp_region_still_tail 9 (by kernel_rfl) (by kernel_rfl) ?_
        simp only [List.take_succ_cons, List.take_zero, List.drop_succ_cons, List.drop_zero]
        change wpStill _ _ (World.drew _) _ _ _
        iterate 7 still_step
        still_call (H0.out _)
        still_step
        refine wpStill_nil ?_
        change wpList _ _ _ _ _ (World.drew _)
        go_wp2_with fail
        rw [rounds_succ]
        go_wp2_with fail
        refine wp_region_still_tail 9 (by kernel_rfl) (by kernel_rfl) ?_
        simp only [List.take_succ_cons, List.take_zero, List.drop_succ_cons, List.drop_zero]
        change wpStill _ _ (World.drew _) _ _ _
        iterate 7 still_step
        still_call (H1.out _)
        still_step
        refine wpStill_nil ?_
        change wpList _ _ _ _ _ (World.drew _)
        go_wp2_with fail
        rw [rounds_succ]
        go_wp2_with fail
        refine wp_region_still_tail 9 (by kernel_rfl) (by kernel_rfl) ?_
        simp only [List.take_succ_cons, List.take_zero, List.drop_succ_cons, List.drop_zero]
        change wpStill _ _ (World.drew _) _ _ _
        iterate 7 still_step
        still_call (H2.out _)
        still_step
        refine wpStill_nil ?_
        change wpList _ _ _ _ _ (World.drew _)
        go_wp2_with fail
        refine (Or_3 (w.heap.size + 1 + 1) (-1) _ (by simp only [World.cell?_drew]; exact by_cell _ _ _ (by simp) 0) (by simp only [World.cell?_drew]; exact by_cell _ _ _ (by simp) 1) (by simp only [World.cell?_drew]; exact by_cell _ _ _ (by simp) 2)).mono ?_
        rintro r w1 ⟨rfl, rfl⟩
        go_wp2_with fail
        rw [Exit.noGoto_ret]
        go_ret
        exact ⟨by simp, ((((Frm.refl [] w).alloc _).alloc _).alloc _).drew.drew.drew⟩
      · go_enter Tryz.func224, Tryz.ntmps224
        go_wp2_with fail
        go_step3
        go_wp2_with fail
        go_step3
        go_wp2_with fail
        refine wp_loop_rounds 4 ?_
        rw [rounds_succ]
        go_wp2_with fail
        refine wp_region_still_tail 9 (by kernel_rfl) (by kernel_rfl) ?_
        simp only [List.take_succ_cons, List.take_zero, List.drop_succ_cons, List.drop_zero]
        change wpStill _ _ (World.drew _) _ _ _
        iterate 7 still_step
        still_call (H0.out _)
        still_step
        refine wpStill_nil ?_
        change wpList _ _ _ _ _ (World.drew _)
        go_wp2_with fail
        rw [rounds_succ]
        go_wp2_with fail
        refine wp_region_still_tail 9 (by kernel_rfl) (by kernel_rfl) ?_
        simp only [List.take_succ_cons, List.take_zero, List.drop_succ_cons, List.drop_zero]
        change wpStill _ _ (World.drew _) _ _ _
        iterate 7 still_step
        still_call (H1.out _)
        still_step
        refine wpStill_nil ?_
        change wpList _ _ _ _ _ (World.drew _)
        go_wp2_with fail
        rw [rounds_succ]
        go_wp2_with fail
        refine wp_region_still_tail 9 (by kernel_rfl) (by kernel_rfl) ?_
        simp only [List.take_succ_cons, List.take_zero, List.drop_succ_cons, List.drop_zero]
        change wpStill _ _ (World.drew _) _ _ _
        iterate 7 still_step
        still_call (H2.out _)
        still_step
        refine wpStill_nil ?_
        change wpList _ _ _ _ _ (World.drew _)
        go_wp2_with fail
        rw [rounds_succ]
        go_wp2_with fail
        refine (Or_3 (w.heap.size + 1 + 1) (0) _ (by simp only [World.cell?_drew]; exact by_cell _ _ _ (by simp) 0) (by simp only [World.cell?_drew]; exact by_cell _ _ _ (by simp) 1) (by simp only [World.cell?_drew]; exact by_cell _ _ _ (by simp) 2)).mono ?_
        rintro r w1 ⟨rfl, rfl⟩
        go_wp2_with fail
        rw [Exit.noGoto_ret]
        go_ret
        exact ⟨by simp, ((((Frm.refl [] w).alloc _).alloc _).alloc _).drew.drew.drew⟩
      · go_enter Tryz.func224, Tryz.ntmps224
        go_wp2_with fail
        go_step3
        go_wp2_with fail
        go_step3
        go_wp2_with fail
        refine wp_loop_rounds 4 ?_
        rw [rounds_succ]
        go_wp2_with fail
        refine wp_region_still_tail 9 (by kernel_rfl) (by kernel_rfl) ?_
        simp only [List.take_succ_cons, List.take_zero, List.drop_succ_cons, List.drop_zero]
        change wpStill _ _ (World.drew _) _ _ _
        iterate 7 still_step
        still_call (H0.out _)
        still_step
        refine wpStill_nil ?_
        change wpList _ _ _ _ _ (World.drew _)
        go_wp2_with fail
        rw [rounds_succ]
        go_wp2_with fail
        refine wp_region_still_tail 9 (by kernel_rfl) (by kernel_rfl) ?_
        simp only [List.take_succ_cons, List.take_zero, List.drop_succ_cons, List.drop_zero]
        change wpStill _ _ (World.drew _) _ _ _
        iterate 7 still_step
        still_call (H1.out _)
        still_step
        refine wpStill_nil ?_
        change wpList _ _ _ _ _ (World.drew _)
        go_wp2_with fail
        rw [rounds_succ]
        go_wp2_with fail
        refine wp_region_still_tail 9 (by kernel_rfl) (by kernel_rfl) ?_
        simp only [List.take_succ_cons, List.take_zero, List.drop_succ_cons, List.drop_zero]
        change wpStill _ _ (World.drew _) _ _ _
        iterate 7 still_step
        still_call (H2.out _)
        still_step
        refine wpStill_nil ?_
        change wpList _ _ _ _ _ (World.drew _)
        go_wp2_with fail
        refine (Or_3 (w.heap.size + 1 + 1) (1) _ (by simp only [World.cell?_drew]; exact by_cell _ _ _ (by simp) 0) (by simp only [World.cell?_drew]; exact by_cell _ _ _ (by simp) 1) (by simp only [World.cell?_drew]; exact by_cell _ _ _ (by simp) 2)).mono ?_
        rintro r w1 ⟨rfl, rfl⟩
        go_wp2_with fail
        rw [Exit.noGoto_ret]
        go_ret
        exact ⟨by simp, ((((Frm.refl [] w).alloc _).alloc _).alloc _).drew.drew.drew⟩
    · go_enter Tryz.func224, Tryz.ntmps224
      go_wp2_with fail
      go_step3
      go_wp2_with fail
      go_step3
      go_wp2_with fail
      refine wp_loop_rounds 4 ?_
      rw [rounds_succ]
      go_wp2_with fail
      refine wp_region_still_tail 9 (by kernel_rfl) (by kernel_rfl) ?_
      simp only [List.take_succ_cons, List.take_zero, List.drop_succ_cons, List.drop_zero]
      change wpStill _ _ (World.drew _) _ _ _
      iterate 7 still_step
      still_call (H0.out _)
      still_step
      refine wpStill_nil ?_
      change wpList _ _ _ _ _ (World.drew _)
      go_wp2_with fail
      rw [rounds_succ]
      go_wp2_with fail
      refine wp_region_still_tail 9 (by kernel_rfl) (by kernel_rfl) ?_
      simp only [List.take_succ_cons, List.take_zero, List.drop_succ_cons, List.drop_zero]
      change wpStill _ _ (World.drew _) _ _ _
      iterate 7 still_step
      still_call (H1.out _)
      still_step
      refine wpStill_nil ?_
      change wpList _ _ _ _ _ (World.drew _)
      go_wp2_with fail
      refine (Or_2 (w.heap.size + 1 + 1) 1 0 _ (by simp only [World.cell?_drew]; exact by_cell _ _ _ (by simp) 0) (by simp only [World.cell?_drew]; exact by_cell _ _ _ (by simp) 1) (by simp only [World.cell?_drew]; exact by_cell _ _ _ (by simp) 2) (by decide)).mono ?_
      rintro r w1 ⟨rfl, rfl⟩
      go_wp2_with fail
      rw [Exit.noGoto_ret]
      go_ret
      exact ⟨by simp, ((((Frm.refl [] w).alloc _).alloc _).alloc _).drew.drew⟩
  · go_enter Tryz.func224, Tryz.ntmps224
    go_wp2_with fail
    go_step3
    go_wp2_with fail
    go_step3
    go_wp2_with fail
    refine wp_loop_rounds 4 ?_
    rw [rounds_succ]
    go_wp2_with fail
    refine wp_region_still_tail 9 (by kernel_rfl) (by kernel_rfl) ?_
    simp only [List.take_succ_cons, List.take_zero, List.drop_succ_cons, List.drop_zero]
    change wpStill _ _ (World.drew _) _ _ _
    iterate 7 still_step
    still_call (H0.out _)
    still_step
    refine wpStill_nil ?_
    change wpList _ _ _ _ _ (World.drew _)
    go_wp2_with fail
    refine (Or_1 (w.heap.size + 1 + 1) 1 0 0 _ (by simp only [World.cell?_drew]; exact by_cell _ _ _ (by simp) 0) (by simp only [World.cell?_drew]; exact by_cell _ _ _ (by simp) 1) (by simp only [World.cell?_drew]; exact by_cell _ _ _ (by simp) 2) (by decide)).mono ?_
    rintro r w1 ⟨rfl, rfl⟩
    go_wp2_with fail
    rw [Exit.noGoto_ret]
    go_ret
    exact ⟨by simp, ((((Frm.refl [] w).alloc _).alloc _).alloc _).drew⟩
end Go.Proofs.YtljhanhipmnioaaGreat

namespace Go.Proofs.YtljhanhipmnioaaGreat
open Go.RowKit
set_option linter.unusedVariables false
set_option linter.unusedSimpArgs false
set_option maxRecDepth 100000

def mkS (s : ByteArray) : ByteArray := if cutIs s = true then ⟨#[64]⟩ else ⟨#[]⟩
def pvV (s : ByteArray) : Value := .agg #[.string (cut1 s), .string (mkS s), .string (cut2 s)]
theorem cut2_no {s : ByteArray} (h : cutIs s = false) : cut2 s = ⟨#[]⟩ := by unfold cut2; rw [cut_false h]; rfl
theorem lessS_eq (a b : ByteArray) : lessS a b = decide (cmp3 ((cut1 a).data.toList, (mkS a).data.toList, (cut2 a).data.toList) ((cut1 b).data.toList, (mkS b).data.toList, (cut2 b).data.toList) < 0) := by
  have h : ∀ s : ByteArray, pcs s.data.toList = ((cut1 s).data.toList, (mkS s).data.toList, (cut2 s).data.toList) := fun s => by
    unfold pcs cut1 cut2 mkS cutIs
    cases (cutL s.data.toList).2.2 <;> rfl
  unfold lessS lessL
  rw [h, h]
set_option maxHeartbeats 1000000 in
theorem pieces_any (s : ByteArray) (hs : s.size ≤ 1000) (w : World) : Calls Tryz.prog 225 #[.string s] w fun e w' => e = .returned (pvV s) ∧ Frm [] w w' := by
  have HC := Lib.hid (fun W => Cut_any s hs W)
  unfold CutE at HC
  have HN := Lib.hid (fun h => cut2_no (s := s) h)
  unfold pvV mkS
  generalize cut1 s = a at *
  generalize cut2 s = b at *
  generalize cutIs s = c at *
  clear hs
  cases c
  · have hb := HN.out rfl
    subst hb
    clear HN
    go_enter Tryz.func225, Tryz.ntmps225
    go_upto_region 1 with fail
    have B0 := heap_alloc_new w (.cells #[.string ⟨#[]⟩, .string ⟨#[]⟩, .string ⟨#[]⟩] 196)
    have F0 := Lib.hid (show Frm [] w (w.alloc (.cells #[.string ⟨#[]⟩, .string ⟨#[]⟩, .string ⟨#[]⟩] 196)) from (Frm.refl [] w).alloc _)
    generalize w.alloc (.cells #[.string ⟨#[]⟩, .string ⟨#[]⟩, .string ⟨#[]⟩] 196) = w0 at *
    obtain ⟨g, hg⟩ : ∃ g, w.heap.size = g := ⟨_, rfl⟩
    rw [hg] at B0 ⊢
    have HG := Lib.hid hg
    clear hg
    go_upto_region 2 with (go_at_call 178; refine (HC.out _).mono ?_; rintro e w1 ⟨rfl, f1⟩)
    have B1 := f1.heap B0 (by simp)
    have F1 := Lib.hid (F0.out.trans f1 (by simp))
    have c0 := cell_of_heap B1 0
    have c1 := cell_of_heap B1 1
    have c2 := cell_of_heap B1 2
    have z0 := frozen_of_heap B1 0
    have z1 := frozen_of_heap B1 1
    have z2 := frozen_of_heap B1 2
    simp at c0 c1 c2
    have HB := Lib.hid B1
    clear B0 f1 B1
    go_wp2_with fail
    exact bodyPost_ret (v := .agg #[.string a, .string ⟨#[]⟩, .string ⟨#[]⟩]) (results_cell_row rfl _ _ g 196 _ (0, 0) _ rfl (heap_setCell_same _ (heap_setCell_same _ (heap_setCell_same _ HB.out))) Tryz.underlying196 rfl (by kernel_rfl)) rfl ⟨rfl, ((F1.out.setCell _ _ (.inr (by have := HG.out; show _ ≤ g; omega))).setCell _ _ (.inr (by have := HG.out; show _ ≤ g; omega))).setCell _ _ (.inr (by have := HG.out; show _ ≤ g; omega))⟩
  · clear HN
    go_enter Tryz.func225, Tryz.ntmps225
    go_upto_region 1 with fail
    have B0 := heap_alloc_new w (.cells #[.string ⟨#[]⟩, .string ⟨#[]⟩, .string ⟨#[]⟩] 196)
    have F0 := Lib.hid (show Frm [] w (w.alloc (.cells #[.string ⟨#[]⟩, .string ⟨#[]⟩, .string ⟨#[]⟩] 196)) from (Frm.refl [] w).alloc _)
    generalize w.alloc (.cells #[.string ⟨#[]⟩, .string ⟨#[]⟩, .string ⟨#[]⟩] 196) = w0 at *
    obtain ⟨g, hg⟩ : ∃ g, w.heap.size = g := ⟨_, rfl⟩
    rw [hg] at B0 ⊢
    have HG := Lib.hid hg
    clear hg
    go_upto_region 2 with (go_at_call 178; refine (HC.out _).mono ?_; rintro e w1 ⟨rfl, f1⟩)
    have B1 := f1.heap B0 (by simp)
    have F1 := Lib.hid (F0.out.trans f1 (by simp))
    have c0 := cell_of_heap B1 0
    have c1 := cell_of_heap B1 1
    have c2 := cell_of_heap B1 2
    have z0 := frozen_of_heap B1 0
    have z1 := frozen_of_heap B1 1
    have z2 := frozen_of_heap B1 2
    simp at c0 c1 c2
    have HB := Lib.hid B1
    clear B0 f1 B1
    go_wp2_with fail
    exact bodyPost_ret (v := .agg #[.string a, .string ⟨#[64]⟩, .string b]) (results_cell_row rfl _ _ g 196 _ (0, 0) _ rfl (heap_setCell_same _ (heap_setCell_same _ (heap_setCell_same _ HB.out))) Tryz.underlying196 rfl (by kernel_rfl)) rfl ⟨rfl, ((F1.out.setCell _ _ (.inr (by have := HG.out; show _ ≤ g; omega))).setCell _ _ (.inr (by have := HG.out; show _ ≤ g; omega))).setCell _ _ (.inr (by have := HG.out; show _ ≤ g; omega))⟩
theorem Less_any (a b : ByteArray) (ha : a.size ≤ 1000) (hb : b.size ≤ 1000) (w : World) : Calls Tryz.prog 193 #[.string a, .string b] w fun e w' => e = .returned (.bool (lessS a b)) ∧ Frm [] w w' := by
  have HA := Lib.hid (fun W => pieces_any a ha W)
  have HB := Lib.hid (fun W => pieces_any b hb W)
  have HC := Lib.hid (fun W => cmp_any (cut1 a) (mkS a) (cut2 a) (cut1 b) (mkS b) (cut2 b) W)
  rw [lessS_eq]
  generalize cmp3 ((cut1 a).data.toList, (mkS a).data.toList, (cut2 a).data.toList) ((cut1 b).data.toList, (mkS b).data.toList, (cut2 b).data.toList) = k at *
  unfold pvV at HA HB
  generalize cut1 a = a1 at *
  generalize mkS a = a2 at *
  generalize cut2 a = a3 at *
  generalize cut1 b = b1 at *
  generalize mkS b = b2 at *
  generalize cut2 b = b3 at *
  clear ha hb
  go_enter Tryz.func193, Tryz.ntmps193
  go_wp2_with (first
    | (go_at_call 224; refine (HC.out _).mono ?_; rintro e w3 ⟨rfl, f3⟩; have F3 := Lib.hid (F2.out.trans f3 (by simp)); clear f3)
    | (go_at_call 225; refine (HA.out _).mono ?_; rintro e w1 ⟨rfl, f1⟩; have F1 := Lib.hid f1; clear f1 HA)
    | (go_at_call 225; refine (HB.out _).mono ?_; rintro e w2 ⟨rfl, f2⟩; have F2 := Lib.hid (F1.out.trans f2 (by simp)); clear f2))
  go_ret
  exact ⟨rfl, F3.out⟩
end Go.Proofs.YtljhanhipmnioaaGreat

namespace Go.Proofs.YtljhanhipmnioaaGreat.Rd
open Go.RowKit
set_option linter.unusedVariables false
set_option linter.unusedSimpArgs false
set_option maxRecDepth 100000

open Pt (Pt may enc zeroPt be4 be1 pc pv PtV SlA OwnA BT wpList_load_g heap_alloc_at Ext Grew)
open Kr (OwnE SlE Enco RowTys)

set_option maxHeartbeats 1000000 in
theorem wrongNumbers_any (u : Value) (x : Rec) (w : World) (h : RecV w u x) : Calls Tryz.prog 133 #[u] w fun e w' => e = .returned (.bool (!(wi x.id 1 2147483647 && (wi x.size 1 64 && wi x.made 1 2147483648)))) ∧ Frm [] w w' := by
  obtain ⟨v, rfl, hs, _, _⟩ := h.box
  have f0 : Frm [] w (w.alloc (.cells (rc v x).toArray 56)) := (Frm.refl [] w).alloc _
  have G := (RB.new (w := w) (v := v) hs).gets
  have c0 := G.id
  have c3 := G.size
  have c5 := G.made
  generalize hA : (rc v x).toArray = A at *
  clear hA h G hs
  go_enter Tryz.func133, Tryz.ntmps133
  go_upto_region 1 with (fail)
  generalize w.alloc (.cells A 56) = W at *
  have F := Lib.hid f0
  clear f0
  go_wp2_with (go_at_call 129; refine (within_pr _ _ _ _).mono ?_; rintro e w1 ⟨rfl, rfl⟩)
  all_goals go_ret
  all_goals refine ⟨?_, F.out⟩
  all_goals simp_all [bne]

def wrRoot (x : Rec) : Bool := !(Pt.hole x.root) && (!(Pt.chk x.root == 0) || (!(x.root.l == 3) || (x.kind == 2 && decide (x.made < x.root.b))))
set_option maxHeartbeats 4000000 in
theorem wrongRoot_any (u : Value) (x : Rec) (w : World) (h : RecV w u x) (hf : FitR x) : Calls Tryz.prog 134 #[u] w fun e w' => e = .returned (.bool (wrRoot x)) ∧ Frm [] w w' := by
  obtain ⟨v, rfl, hs, hp, _⟩ := h.box
  have f0 : Frm [] w (w.alloc (.cells (rc v x).toArray 56)) := (Frm.refl [] w).alloc _
  have B := Lib.hid (RB.new (w := w) (v := v) hs)
  have HH := Lib.hid (fun z (f : Frm [] w z) => Pt.Hole_any _ x.root z (hp.keep0 f) hf.ads)
  have HK := Lib.hid (fun z (f : Frm [] w z) => Pt.Check_any _ x.root z (hp.keep0 f) hf.ads)
  unfold wrRoot
  generalize Pt.hole x.root = ho at *
  generalize Pt.chk x.root = ck at *
  generalize hA : (rc v x).toArray = A at *
  clear hA h hs hp
  go_enter Tryz.func134, Tryz.ntmps134
  go_upto_region 1 with (fail)
  generalize hg : w.heap.size = g at *
  generalize w.alloc (.cells A 56) = W at *
  have F := Lib.hid f0
  have R0 := Lib.hid B.out.gets.root
  clear f0 hg
  have HN := Lib.hid (fun z (f : Frm [] W z) => F.out.trans f (by simp))
  cases ho with
  | true =>
    go_wp2_with (first
      | ((with_reducible (show wpList _ _ _ (Oper.mk _ (Op.load 54 _) _ _ _ _ :: _) _ _)); refine wpList_load_g (by rfl) 54 _ rfl _ rfl R0.out ?_)
      | (go_at_call 184; refine (HH.out _ F.out).mono ?_; rintro e w1 ⟨rfl, f1⟩))
    go_ret
    exact ⟨by simp, HN.out _ f1⟩
  | false =>
    go_upto_region 3 with (first
      | ((with_reducible (show wpList _ _ _ (Oper.mk _ (Op.load 54 _) _ _ _ _ :: _) _ _)); refine wpList_load_g (by rfl) 54 _ rfl _ rfl R0.out ?_)
      | (go_at_call 184; refine (HH.out _ F.out).mono ?_; rintro e w1 ⟨rfl, f1⟩))
    have F1 := Lib.hid (F.out.trans f1 (by simp))
    have G1 := (B.out.keep0 f1).gets
    have R1 := Lib.hid G1.root
    have c2 := G1.kind
    have c5 := G1.birth
    have c6 := G1.level
    have c39 := G1.made
    clear G1 f1 B F R0 HN
    go_wp2_with (first
      | ((with_reducible (show wpList _ _ _ (Oper.mk _ (Op.load 54 _) _ _ _ _ :: _) _ _)); refine wpList_load_g (by rfl) 54 _ rfl _ rfl R1.out ?_)
      | (go_at_call 185; refine (HK.out _ F1.out).mono ?_; rintro e w2 ⟨rfl, f2⟩; have q6 := f2.cell c6 (by simp)))
    all_goals go_ret
    all_goals refine ⟨?_, F1.out.trans f2 (by simp)⟩
    all_goals simp_all [bne]

def snpK (x : Rec) : Bool := snapS x.name && (wi x.of 1 2147483647 && (x.origin == 0 && (x.quota == 0 && x.reserve == 0)))
def wrKind (x : Rec) : Bool := if x.kind = 1 then !volR x else if x.kind = 2 then !snpK x else true
set_option maxHeartbeats 4000000 in
theorem wrongKind_any (u : Value) (x : Rec) (w : World) (h : RecV w u x) (hf : FitR x) : Calls Tryz.prog 135 #[u] w fun e w' => e = .returned (.bool (wrKind x)) ∧ Frm [] w w' := by
  obtain ⟨v, rfl, hs, hp, _⟩ := h.box
  have f0 : Frm [] w (w.alloc (.cells (rc v x).toArray 56)) := (Frm.refl [] w).alloc _
  have B := Lib.hid (RB.new (w := w) (v := v) hs)
  have HV := Lib.hid (fun z => Volume_any x.name z)
  have HS := Lib.hid (fun z => Snapshot_any x.name hf.name z)
  unfold wrKind volR snpK
  generalize partS x.name = pn at *
  generalize snapS x.name = sn at *
  have c0 := B.out.gets.name
  have c2 := B.out.gets.kind
  generalize hA : (rc v x).toArray = A at *
  clear hA h hs hp
  have F := Lib.hid f0
  generalize hg : w.heap.size = g at *
  have HB := Lib.hid (fun z (f : Frm [] (w.alloc (.cells A 56)) z) => (B.out.keep0 f).gets)
  have en : ∀ W : World, W = w.alloc (.cells A 56) → True := fun _ _ => trivial
  clear f0 en
  by_cases k1 : x.kind = 1
  · rw [if_pos k1]
    rw [k1] at c2
    clear k1
    go_enter Tryz.func135, Tryz.ntmps135
    go_upto_region 1 with (fail)
    generalize w.alloc (.cells A 56) = W at *
    clear hg
    go_wp2_with (first
      | (go_at_call 112; refine (HV.out _).mono ?_; rintro e w1 ⟨rfl, f1⟩; have d40 := (HB.out _ f1).of; have d41 := (HB.out _ f1).origin; have d42 := (HB.out _ f1).quota; have d43 := (HB.out _ f1).reserve)
      | (go_at_call 129; refine (within_pr _ _ _ _).mono ?_; rintro e w2 ⟨rfl, rfl⟩))
    all_goals go_ret
    all_goals refine ⟨?_, F.out.trans f1 (by simp)⟩
    all_goals simp_all [bne]
  · rw [if_neg k1]
    by_cases k2 : x.kind = 2
    · rw [if_pos k2]
      rw [k2] at c2
      clear k1 k2
      go_enter Tryz.func135, Tryz.ntmps135
      go_upto_region 1 with (fail)
      generalize w.alloc (.cells A 56) = W at *
      clear hg
      go_wp2_with (first
        | (go_at_call 122; refine (HS.out _).mono ?_; rintro e w1 ⟨rfl, f1⟩; have d40 := (HB.out _ f1).of; have d41 := (HB.out _ f1).origin; have d42 := (HB.out _ f1).quota; have d43 := (HB.out _ f1).reserve)
        | (go_at_call 129; refine (within_pr _ _ _ _).mono ?_; rintro e w2 ⟨rfl, rfl⟩))
      all_goals go_ret
      all_goals refine ⟨?_, F.out.trans f1 (by simp)⟩
      all_goals simp_all [bne]
    · rw [if_neg k2]
      have e1 : (x.kind == 1) = false := by simpa using k1
      have e2 : (x.kind == 2) = false := by simpa using k2
      clear k1 k2
      go_enter Tryz.func135, Tryz.ntmps135
      go_upto_region 1 with (fail)
      generalize w.alloc (.cells A 56) = W at *
      clear hg
      go_wp2_with fail
      go_ret
      exact ⟨rfl, F.out⟩
def byN (x y : Rec) : Int := if lessS x.name y.name = true then -1 else if lessS y.name x.name = true then 1 else 0
set_option maxHeartbeats 4000000 in
theorem byName_any (u v : Value) (x y : Rec) (w : World) (h : RecV w u x) (k : RecV w v y) (hf : FitR x) (kf : FitR y) : Calls Tryz.prog 137 #[u, v] w fun e w' => e = .returned (.int .i64 (byN x y)) ∧ Frm [] w w' := by
  obtain ⟨a, rfl, hs, _, _⟩ := h.box
  obtain ⟨b, rfl, ks, _, _⟩ := k.box
  have HL := Lib.hid (fun z => Less_any x.name y.name hf.name kf.name z)
  have HM := Lib.hid (fun z => Less_any y.name x.name kf.name hf.name z)
  unfold byN
  generalize lessS x.name y.name = lb at *
  generalize lessS y.name x.name = mb at *
  have f0 : Frm [] w (w.alloc (.cells (rc a x).toArray 56)) := (Frm.refl [] w).alloc _
  have B := Lib.hid (RB.new (w := w) (v := a) hs)
  generalize (rc a x).toArray = A at *
  clear hs h
  go_enter Tryz.func137, Tryz.ntmps137
  have f1 : Frm [] w ((w.alloc (.cells A 56)).alloc (.cells (rc b y).toArray 56)) := f0.alloc _
  have B1 := Lib.hid (B.out.keep0 ((Frm.refl [] _).alloc (.cells (rc b y).toArray 56)))
  have B2 := Lib.hid (RB.new (w := w.alloc (.cells A 56)) (v := b) ks)
  rw [show (w.alloc (.cells A 56)).heap.size = w.heap.size + 1 by simp] at B2
  generalize (rc b y).toArray = A2 at *
  clear ks k B f0
  go_upto_region 1 with (fail)
  generalize (w.alloc (.cells A 56)).alloc (.cells A2 56) = W at *
  generalize hg : w.heap.size = g at *
  have F := Lib.hid f1
  have c0 := B1.out.gets.name
  have c1 := B2.out.gets.name
  clear f1 hg
  go_wp2_with (first
    | (go_at_call 193; refine (HL.out _).mono ?_; rintro e w1 ⟨rfl, f1⟩; have d0 := f1.cell c0 (by simp); have d1 := f1.cell c1 (by simp); clear HL)
    | (go_at_call 193; refine (HM.out _).mono ?_; rintro e w2 ⟨rfl, f2⟩; clear HM))
  all_goals go_ret
  all_goals first
    | exact ⟨by simp_all, (F.out.trans f1 (by simp)).trans f2 (by simp)⟩
    | exact ⟨by simp_all, F.out.trans f1 (by simp)⟩

end Go.Proofs.YtljhanhipmnioaaGreat.Rd

namespace Go.Proofs.YtljhanhipmnioaaGreat.Rd
open Go.RowKit
set_option linter.unusedVariables false
set_option linter.unusedSimpArgs false
set_option maxRecDepth 100000

open Pt (Pt may enc zeroPt be4 be1 pc pv PtV SlA OwnA BT wpList_load_g heap_alloc_at Ext Grew)
open Kr (OwnE SlE Enco RowTys)

theorem twice_any (vr vl : Value) (t : Tab) (w : World) : Calls Tryz.prog 138 #[tv vr vl t] w fun e w' => e = .returned (.func (.func 194) #[] #[.pointer (some ⟨w.heap.size, 0, none⟩)]) ∧ TB w' w.heap.size vr vl t ∧ Frm [] w w' := by
  unfold tv
  have f0 : Frm [] w (w.alloc (.cells (tc vr vl t).toArray 27)) := (Frm.refl [] w).alloc _
  have T0 := Lib.hid (TB.new w vr vl t)
  generalize (tc vr vl t).toArray = A at *
  go_enter Tryz.func138, Tryz.ntmps138
  go_upto_region 1 with (fail)
  generalize w.alloc (.cells A 27) = W at *
  go_wp2_with fail
  go_ret
  exact ⟨rfl, T0.out, f0⟩

theorem beyond_any (vr vl : Value) (t : Tab) (w : World) : Calls Tryz.prog 139 #[tv vr vl t] w fun e w' => e = .returned (.func (.func 196) #[] #[.pointer (some ⟨w.heap.size, 0, none⟩)]) ∧ TB w' w.heap.size vr vl t ∧ Frm [] w w' := by
  unfold tv
  have f0 : Frm [] w (w.alloc (.cells (tc vr vl t).toArray 27)) := (Frm.refl [] w).alloc _
  have T0 := Lib.hid (TB.new w vr vl t)
  generalize (tc vr vl t).toArray = A at *
  go_enter Tryz.func139, Tryz.ntmps139
  go_upto_region 1 with (fail)
  generalize w.alloc (.cells A 27) = W at *
  go_wp2_with fail
  go_ret
  exact ⟨rfl, T0.out, f0⟩

theorem orphan_any (vr vl : Value) (t : Tab) (w : World) : Calls Tryz.prog 140 #[tv vr vl t] w fun e w' => e = .returned (.func (.func 197) #[] #[.pointer (some ⟨w.heap.size, 0, none⟩)]) ∧ TB w' w.heap.size vr vl t ∧ Frm [] w w' := by
  unfold tv
  have f0 : Frm [] w (w.alloc (.cells (tc vr vl t).toArray 27)) := (Frm.refl [] w).alloc _
  have T0 := Lib.hid (TB.new w vr vl t)
  generalize (tc vr vl t).toArray = A at *
  go_enter Tryz.func140, Tryz.ntmps140
  go_upto_region 1 with (fail)
  generalize w.alloc (.cells A 27) = W at *
  go_wp2_with fail
  go_ret
  exact ⟨rfl, T0.out, f0⟩

theorem stray_any (vr vl : Value) (t : Tab) (w : World) : Calls Tryz.prog 141 #[tv vr vl t] w fun e w' => e = .returned (.func (.func 198) #[] #[.pointer (some ⟨w.heap.size, 0, none⟩)]) ∧ TB w' w.heap.size vr vl t ∧ Frm [] w w' := by
  unfold tv
  have f0 : Frm [] w (w.alloc (.cells (tc vr vl t).toArray 27)) := (Frm.refl [] w).alloc _
  have T0 := Lib.hid (TB.new w vr vl t)
  generalize (tc vr vl t).toArray = A at *
  go_enter Tryz.func141, Tryz.ntmps141
  go_upto_region 1 with (fail)
  generalize w.alloc (.cells A 27) = W at *
  go_wp2_with fail
  go_ret
  exact ⟨rfl, T0.out, f0⟩

def alikeB (x o : Rec) : Bool := o.id == x.id || (o.name.toList == x.name.toList)
set_option maxHeartbeats 1000000 in
theorem alike_any (u v : Value) (o x : Rec) (g : Nat) (w : World) (h : RecV w u o) (hg : RB w g v x) : Calls Tryz.prog 195 #[u, .pointer (some ⟨g, 0, none⟩)] w fun e w' => e = .returned (.bool (alikeB x o)) ∧ Frm [] w w' := by
  obtain ⟨a, rfl, hs, _, _⟩ := h.box
  have f0 : Frm [] w (w.alloc (.cells (rc a o).toArray 56)) := (Frm.refl [] w).alloc _
  have G := (RB.new (w := w) (v := a) hs).gets
  have c0 := G.id
  have c1 := G.name
  have K := (hg.keep0 f0).gets
  have k0 := K.id
  have k1 := K.name
  unfold alikeB
  generalize (rc a o).toArray = A at *
  clear h hs hg G K
  go_enter Tryz.func195, Tryz.ntmps195
  go_upto_region 1 with (fail)
  generalize w.alloc (.cells A 56) = W at *
  go_wp2_with fail
  all_goals go_ret
  all_goals refine ⟨?_, f0⟩
  all_goals simp_all
def twB (rs : List Rec) (x : Rec) : Bool := (rs.drop (idx (alikeB x) rs + 1).toNat).any (alikeB x)
set_option maxHeartbeats 2000000 in
theorem twice1_any (u : Value) (x : Rec) (g : Nat) (vr vl : Value) (t : Tab) (w : World) (h : RecV w u x) (hg : TB w g vr vl t) (hR : Rs w vr t.recs) (hl : t.recs.length ≤ 1000) : Calls Tryz.prog 194 #[u, .pointer (some ⟨g, 0, none⟩)] w fun e w' => e = .returned (.bool (twB t.recs x)) ∧ Frm [] w w' := by
  obtain ⟨v, rfl, hs, _, _⟩ := h.box
  have f0 : Frm [] w (w.alloc (.cells (rc v x).toArray 56)) := (Frm.refl [] w).alloc _
  have B := Lib.hid (RB.new (w := w) (v := v) hs)
  have TBh := Lib.hid (hg.keep0 f0)
  have c1 := TBh.out.gets.recs
  have HR := Lib.hid (hR.keep0 f0)
  have F := Lib.hid f0
  generalize hgg : w.heap.size = gr at *
  generalize (rc v x).toArray = A at *
  clear h hs hg hR f0
  obtain ⟨va, vc, rfl⟩ := HR.out.form
  have hvc := Rs.caps HR.out
  have hck : ∀ z rs, Frm [] (w.alloc (.cells A 56)) z → Chk z rs 195 #[.pointer (some ⟨gr, 0, none⟩)] (alikeB x) := fun z rs f => ⟨fun u z => enter_of Tryz.func195 (by kernel_rfl) (by kernel_rfl) _ z, fun u o z' f' _ hv => alike_any u v o x gr z' hv (B.out.keep0 (f.trans f' (by simp)))⟩
  have HCK := Lib.hid hck
  clear hck
  obtain ⟨hi1, hi2⟩ := idx_lo (alikeB x) t.recs
  have HIX := Lib.hid (fun z (f : Frm [] (w.alloc (.cells A 56)) z) => IndexFunc_any 195 #[.pointer (some ⟨gr, 0, none⟩)] (alikeB x) _ t.recs z (HR.out.keep0 f) hl (HCK.out z _ f))
  unfold twB
  obtain ⟨k, hk⟩ : ∃ k : Nat, idx (alikeB x) t.recs = (k : Int) - 1 := ⟨(idx (alikeB x) t.recs + 1).toNat, by omega⟩
  rw [hk] at HIX hi1 hi2 ⊢
  have hkl : k ≤ t.recs.length := by omega
  have HD := Lib.hid (fun z (f : Frm [] (w.alloc (.cells A 56)) z) => (HR.out.keep0 f).drop k hkl)
  have HI2 := Lib.hid (fun z (f : Frm [] (w.alloc (.cells A 56)) z) => IndexFunc_any 195 #[.pointer (some ⟨gr, 0, none⟩)] (alikeB x) _ _ z (HD.out z f) (by simp only [List.length_drop]; omega) (HCK.out z _ f))
  have HAN := Lib.hid (idx_any (alikeB x) (t.recs.drop k))
  rw [show (((k : Int) - 1) + 1).toNat = k by omega]
  generalize (t.recs.drop k).any (alikeB x) = pb at *
  generalize idx (alikeB x) (t.recs.drop k) = ix2 at *
  have hw1 : wrap64 (k : Int) = (k : Int) := IntWalk.wrap64_in _ (by omega)
  have hb1 : (k : Int) ≤ (t.recs.length : Int) := by omega
  have hb2 : (t.recs.length : Int) ≤ (vc : Int) := by omega
  have hb3 : (k : Int) ≤ (vc : Int) := by omega
  clear hk HCK HD hkl hi1 hi2 hvc
  by_cases hvk : vc = k
  · rw [if_pos hvk] at HI2
    subst hvk
    rw [Nat.sub_self] at HI2
    go_enter Tryz.func194, Tryz.ntmps194
    go_upto_region 1 with (fail)
    generalize w.alloc (.cells A 56) = W at *
    go_upto_region 3 with (go_at_call 66; refine (HIX.out _ (Frm.refl _ _)).mono ?_; rintro e w1 ⟨rfl, f1⟩)
    have d1 := f1.cell c1 (by simp)
    have F1 := Lib.hid f1
    clear c1 f1
    go_wp2_with (first
      | (go_at_call 66; refine (HI2.out _ F1.out).mono ?_; rintro e w2 ⟨rfl, f2⟩))
    go_ret
    refine ⟨?_, (F.out.trans F1.out (by simp)).trans f2 (by simp)⟩
    rw [← HAN.out]
    rfl
  · rw [if_neg hvk] at HI2
    go_enter Tryz.func194, Tryz.ntmps194
    go_upto_region 1 with (fail)
    generalize w.alloc (.cells A 56) = W at *
    go_upto_region 3 with (go_at_call 66; refine (HIX.out _ (Frm.refl _ _)).mono ?_; rintro e w1 ⟨rfl, f1⟩)
    have d1 := f1.cell c1 (by simp)
    have F1 := Lib.hid f1
    clear c1 f1
    go_wp2_with (first
      | (go_at_call 66; refine (HI2.out _ F1.out).mono ?_; rintro e w2 ⟨rfl, f2⟩))
    go_ret
    refine ⟨?_, (F.out.trans F1.out (by simp)).trans f2 (by simp)⟩
    rw [← HAN.out]
    rfl
set_option maxHeartbeats 1000000 in
theorem beyond1_any (u : Value) (x : Rec) (g : Nat) (vr vl : Value) (t : Tab) (w : World) (h : RecV w u x) (hg : TB w g vr vl t) : Calls Tryz.prog 196 #[u, .pointer (some ⟨g, 0, none⟩)] w fun e w' => e = .returned (.bool (decide (t.next ≤ x.id))) ∧ Frm [] w w' := by
  obtain ⟨v, rfl, hs, _, _⟩ := h.box
  have f0 : Frm [] w (w.alloc (.cells (rc v x).toArray 56)) := (Frm.refl [] w).alloc _
  have c0 := (RB.new (w := w) (v := v) hs).gets.id
  have c1 := (hg.keep0 f0).gets.next
  generalize (rc v x).toArray = A at *
  clear h hs hg
  go_enter Tryz.func196, Tryz.ntmps196
  go_upto_region 1 with (fail)
  generalize w.alloc (.cells A 56) = W at *
  go_wp2_with fail
  go_ret
  exact ⟨rfl, f0⟩
def origB (x o : Rec) : Bool := o.kind == 2 && o.id == x.origin
set_option maxHeartbeats 1000000 in
theorem orig_any (u v : Value) (o x : Rec) (g : Nat) (w : World) (h : RecV w u o) (hg : RB w g v x) : Calls Tryz.prog 199 #[u, .pointer (some ⟨g, 0, none⟩)] w fun e w' => e = .returned (.bool (origB x o)) ∧ Frm [] w w' := by
  obtain ⟨a, rfl, hs, _, _⟩ := h.box
  have f0 : Frm [] w (w.alloc (.cells (rc a o).toArray 56)) := (Frm.refl [] w).alloc _
  have G := (RB.new (w := w) (v := a) hs).gets
  have c0 := G.id
  have c1 := G.kind
  have k0 := (hg.keep0 f0).gets.origin
  unfold origB
  generalize (rc a o).toArray = A at *
  clear h hs hg G
  go_enter Tryz.func199, Tryz.ntmps199
  go_upto_region 1 with (fail)
  generalize w.alloc (.cells A 56) = W at *
  go_wp2_with fail
  all_goals go_ret
  all_goals refine ⟨?_, f0⟩
  all_goals simp_all
def stB (rs : List Rec) (x : Rec) : Bool := !(x.origin == 0) && !(rs.any (origB x))
set_option maxHeartbeats 2000000 in
theorem stray1_any (u : Value) (x : Rec) (g : Nat) (vr vl : Value) (t : Tab) (w : World) (h : RecV w u x) (hg : TB w g vr vl t) (hR : Rs w vr t.recs) (hl : t.recs.length ≤ 1000) : Calls Tryz.prog 198 #[u, .pointer (some ⟨g, 0, none⟩)] w fun e w' => e = .returned (.bool (stB t.recs x)) ∧ Frm [] w w' := by
  obtain ⟨v, rfl, hs, _, _⟩ := h.box
  have f0 : Frm [] w (w.alloc (.cells (rc v x).toArray 56)) := (Frm.refl [] w).alloc _
  have B := Lib.hid (RB.new (w := w) (v := v) hs)
  have c0 := B.out.gets.origin
  have c1 := (hg.keep0 f0).gets.recs
  have HR := Lib.hid (hR.keep0 f0)
  have F := Lib.hid f0
  generalize hgg : w.heap.size = gr at *
  generalize (rc v x).toArray = A at *
  clear h hs hg hR f0
  have HIX := Lib.hid (IndexFunc_any 199 #[.pointer (some ⟨gr, 0, none⟩)] (origB x) _ t.recs (w.alloc (.cells A 56)) HR.out hl ⟨fun u z => enter_of Tryz.func199 (by kernel_rfl) (by kernel_rfl) _ z, fun u o z' f' _ hv => orig_any u v o x gr z' hv (B.out.keep0 f')⟩)
  have HAN := Lib.hid (idx_any (origB x) t.recs)
  unfold stB
  generalize t.recs.any (origB x) = pb at *
  generalize idx (origB x) t.recs = ix at *
  go_enter Tryz.func198, Tryz.ntmps198
  go_upto_region 1 with (fail)
  generalize w.alloc (.cells A 56) = W at *
  go_wp2_with (go_at_call 66; refine HIX.out.mono ?_; rintro e w1 ⟨rfl, f1⟩)
  all_goals go_ret
  · exact ⟨by simp_all [bne], F.out⟩
  · have e : decide (ix < 0) = !pb := by rw [← HAN.out]; by_cases h : ix < 0 <;> simp [h] <;> omega
    exact ⟨by simp_all [bne], F.out.trans f1 (by simp)⟩
end Go.Proofs.YtljhanhipmnioaaGreat.Rd

namespace Go.Proofs.YtljhanhipmnioaaGreat.Rd
open Go.RowKit
set_option linter.unusedVariables false
set_option linter.unusedSimpArgs false
set_option maxRecDepth 100000

open Pt (Pt may enc zeroPt be4 be1 pc pv PtV SlA OwnA BT wpList_load_g heap_alloc_at Ext Grew)
open Kr (OwnE SlE Enco RowTys)

def orB (rs : List Rec) (x : Rec) : Bool := snapS x.name && (match fnd (spl1 x.name) rs with | some i => (match rs[i]? with | some y => !(y.id == x.of) | none => true) | none => true)
set_option maxHeartbeats 2000000 in
theorem orphan1_any (u : Value) (x : Rec) (g : Nat) (vr vl : Value) (t : Tab) (w : World) (h : RecV w u x) (hf : FitR x) (hg : TB w g vr vl t) (hR : Rs w vr t.recs) (hl : t.recs.length ≤ 1000) : Calls Tryz.prog 197 #[u, .pointer (some ⟨g, 0, none⟩)] w fun e w' => e = .returned (.bool (orB t.recs x)) ∧ Frm [] w w' := by
  obtain ⟨v, rfl, hs, _, _⟩ := h.box
  have f0 : Frm [] w (w.alloc (.cells (rc v x).toArray 56)) := (Frm.refl [] w).alloc _
  have B := Lib.hid (RB.new (w := w) (v := v) hs)
  have TBh := Lib.hid (hg.keep0 f0)
  have c0 := B.out.gets.name
  have HR := Lib.hid (hR.keep0 f0)
  have F := Lib.hid f0
  have HSP := Lib.hid (fun z => Split_any x.name hf.name z)
  have HFI := Lib.hid (fun z (f : Frm [] (w.alloc (.cells (rc v x).toArray 56)) z) => FindP_any vr vl t (spl1 x.name) z (HR.out.keep0 f) hl)
  unfold SplE at HSP
  unfold orB
  generalize hgg : w.heap.size = gr at *
  generalize (rc v x).toArray = A at *
  clear h hs hg hR f0
  unfold fndV at HFI
  have HL := Lib.hid (fun i (hq : fnd (spl1 x.name) t.recs = some i) => fnd_lt hq)
  generalize spl1 x.name = s1 at *
  generalize spl2 x.name = s2 at *
  generalize snapS x.name = sn at *
  cases hq : fnd s1 t.recs with
  | none =>
    rw [hq] at HFI
    clear HL hq
    go_enter Tryz.func197, Tryz.ntmps197
    go_upto_region 1 with (fail)
    generalize w.alloc (.cells A 56) = W at *
    have HA := Lib.hid (fun z (f : Frm [] W z) => (TBh.out.keep0 f).gets.all)
    go_upto_region 3 with (first
      | (go_at_call 116; refine (HSP.out _).mono ?_; rintro e w1 ⟨rfl, f1⟩; have A1 := Lib.hid (HA.out _ f1))
      | ((with_reducible (show wpList _ _ _ (Oper.mk _ (Op.load 27 _) _ _ _ _ :: _) _ _)); refine wpList_load_g (by rfl) 27 _ rfl _ rfl A1.out ?_)
      | (go_at_call 19; refine (HFI.out _ f1).mono ?_; rintro e w2 ⟨rfl, f2⟩))
    have F2 := Lib.hid (f1.trans f2 (by simp))
    clear f1 f2 A1
    have k0 := (TBh.out.keep0 F2.out).gets.recs
    have k1 := (B.out.keep0 F2.out).gets.of
    cases sn with
    | true =>
      go_quiet (fail)
      all_goals go_wp2_with fail
      all_goals go_ret
      all_goals refine ⟨?_, (F.out.trans F2.out (by simp)).drewN _⟩
      all_goals simp_all [bne]
    | false =>
      go_quiet (fail)
      all_goals go_wp2_with fail
      all_goals go_ret
      all_goals refine ⟨?_, (F.out.trans F2.out (by simp)).drewN _⟩
      all_goals simp_all [bne]
  | some i =>
    rw [hq] at HFI
    have hi := HL.out i hq
    have hi9 : (i : Int) < (t.recs.length : Int) := by omega
    obtain ⟨b, off, cp, e⟩ := HR.out.at (by omega)
    subst e
    simp only [List.getElem?_eq_getElem hi]
    have HG := Lib.hid (fun z (f : Frm [] (w.alloc (.cells A 56)) z) => (HR.out.keep0 f).gets i hi)
    clear HL hq
    generalize t.recs[i] = y at *
    go_enter Tryz.func197, Tryz.ntmps197
    go_upto_region 1 with (fail)
    generalize w.alloc (.cells A 56) = W at *
    have HA := Lib.hid (fun z (f : Frm [] W z) => (TBh.out.keep0 f).gets.all)
    go_upto_region 3 with (first
      | (go_at_call 116; refine (HSP.out _).mono ?_; rintro e w1 ⟨rfl, f1⟩; have A1 := Lib.hid (HA.out _ f1))
      | ((with_reducible (show wpList _ _ _ (Oper.mk _ (Op.load 27 _) _ _ _ _ :: _) _ _)); refine wpList_load_g (by rfl) 27 _ rfl _ rfl A1.out ?_)
      | (go_at_call 19; refine (HFI.out _ f1).mono ?_; rintro e w2 ⟨rfl, f2⟩))
    have F2 := Lib.hid (f1.trans f2 (by simp))
    clear f1 f2 A1
    have k0 := (TBh.out.keep0 F2.out).gets.recs
    have k1 := (B.out.keep0 F2.out).gets.of
    obtain ⟨ya, yc, G, _⟩ := HG.out _ F2.out
    have k2 := G.id
    clear G
    cases sn with
    | true =>
      go_quiet (fail)
      all_goals go_wp2_with fail
      all_goals go_ret
      all_goals refine ⟨?_, (F.out.trans F2.out (by simp)).drewN _⟩
      all_goals simp_all [bne]
    | false =>
      go_quiet (fail)
      all_goals go_wp2_with fail
      all_goals go_ret
      all_goals refine ⟨?_, (F.out.trans F2.out (by simp)).drewN _⟩
      all_goals simp_all [bne]
end Go.Proofs.YtljhanhipmnioaaGreat.Rd

namespace Go.Proofs.YtljhanhipmnioaaGreat.Rd
open Go.RowKit
set_option linter.unusedVariables false
set_option linter.unusedSimpArgs false
set_option maxRecDepth 100000

open Pt (Pt may enc zeroPt be4 be1 pc pv PtV SlA OwnA BT wpList_load_g heap_alloc_at Ext Grew)
open Kr (OwnE SlE Enco RowTys)

/-- Are two records the same? -/
def sameR (x y : Rec) : Bool := x.id == y.id && ((x.name.toList == y.name.toList) && (x.kind == y.kind && (x.size == y.size && (Pt.same x.root y.root && (x.made == y.made && (x.of == y.of && (x.origin == y.origin && (x.quota == y.quota && x.reserve == y.reserve))))))))

set_option maxHeartbeats 8000000 in
theorem sameRecord_any (u v : Value) (x y : Rec) (w : World) (h : RecV w u x) (k : RecV w v y) (hf : FitR x) : Calls Tryz.prog 73 #[u, v] w fun e w' => e = .returned (.bool (sameR x y)) ∧ Frm [] w w' := by
  obtain ⟨a, rfl, hs, hp, _⟩ := h.box
  obtain ⟨b, rfl, ks, kp, _⟩ := k.box
  have HS := Lib.hid (fun z (f : Frm [] w z) => Pt.Same_any _ _ x.root y.root z (hp.keep0 f) (kp.keep0 f) hf.ads)
  unfold sameR
  generalize Pt.same x.root y.root = sm at *
  have f0 : Frm [] w (w.alloc (.cells (rc a x).toArray 56)) := (Frm.refl [] w).alloc _
  have B := Lib.hid (RB.new (w := w) (v := a) hs)
  generalize (rc a x).toArray = A at *
  have f1 : Frm [] w ((w.alloc (.cells A 56)).alloc (.cells (rc b y).toArray 56)) := f0.alloc _
  have B1 := Lib.hid (B.out.keep0 ((Frm.refl [] _).alloc (.cells (rc b y).toArray 56)))
  have B2 := Lib.hid (RB.new (w := w.alloc (.cells A 56)) (v := b) ks)
  rw [show (w.alloc (.cells A 56)).heap.size = w.heap.size + 1 by simp] at B2
  generalize (rc b y).toArray = A2 at *
  have G1 := B1.out.gets
  have G2 := B2.out.gets
  have a0 := G1.id
  have a1 := G1.name
  have a2 := G1.kind
  have a3 := G1.size
  have b0 := G2.id
  have b1 := G2.name
  have b2 := G2.kind
  have b3 := G2.size
  have RA := Lib.hid G1.root
  have RB' := Lib.hid G2.root
  have HB1 := Lib.hid (fun z (f : Frm [] ((w.alloc (.cells A 56)).alloc (.cells A2 56)) z) => (B1.out.keep0 f).gets)
  have HB2 := Lib.hid (fun z (f : Frm [] ((w.alloc (.cells A 56)).alloc (.cells A2 56)) z) => (B2.out.keep0 f).gets)
  have F := Lib.hid f1
  clear ks k h hs B f0 G1 G2 B1 B2 f1 hp kp
  go_enter Tryz.func73, Tryz.ntmps73
  go_upto_region 1 with (fail)
  simp only [List.append_eq, List.cons_append, List.nil_append]
  go_wp2_with (first
    | ((with_reducible (show wpList _ _ _ (Oper.mk (some 33) (Op.load 54 _) _ _ _ _ :: _) _ _)); refine wpList_load_g (by rfl) 54 _ rfl _ rfl RA.out ?_)
    | ((with_reducible (show wpList _ _ _ (Oper.mk (some 35) (Op.load 54 _) _ _ _ _ :: _) _ _)); refine wpList_load_g (by rfl) 54 _ rfl _ rfl RB'.out ?_)
    | (go_at_call 145; refine (HS.out _ F.out).mono ?_; rintro e w1 ⟨rfl, f1⟩; have c39 := (HB1.out _ f1).made; have c40 := (HB1.out _ f1).of; have c41 := (HB1.out _ f1).origin; have c42 := (HB1.out _ f1).quota; have c43 := (HB1.out _ f1).reserve; have d39 := (HB2.out _ f1).made; have d40 := (HB2.out _ f1).of; have d41 := (HB2.out _ f1).origin; have d42 := (HB2.out _ f1).quota; have d43 := (HB2.out _ f1).reserve))
  all_goals go_ret
  all_goals first
    | exact ⟨by simp_all, F.out.trans f1 (by simp)⟩
    | exact ⟨by simp_all, F.out⟩

set_option maxHeartbeats 8000000 in
theorem SameRecord_any (u v : Value) (x y : Rec) (w : World) (h : RecV w u x) (k : RecV w v y) (hf : FitR x) : Calls Tryz.prog 57 #[u, v] w fun e w' => e = .returned (.bool (sameR x y)) ∧ Frm [] w w' := by
  obtain ⟨a, rfl, hs, hp, _⟩ := h.box
  obtain ⟨b, rfl, ks, kp, _⟩ := k.box
  have HS := Lib.hid (fun z (f : Frm [] w z) => Pt.SamePointer_any _ _ x.root y.root z (hp.keep0 f) (kp.keep0 f) hf.ads)
  unfold sameR
  generalize Pt.same x.root y.root = sm at *
  have f0 : Frm [] w (w.alloc (.cells (rc a x).toArray 56)) := (Frm.refl [] w).alloc _
  have B := Lib.hid (RB.new (w := w) (v := a) hs)
  generalize (rc a x).toArray = A at *
  have f1 : Frm [] w ((w.alloc (.cells A 56)).alloc (.cells (rc b y).toArray 56)) := f0.alloc _
  have B1 := Lib.hid (B.out.keep0 ((Frm.refl [] _).alloc (.cells (rc b y).toArray 56)))
  have B2 := Lib.hid (RB.new (w := w.alloc (.cells A 56)) (v := b) ks)
  rw [show (w.alloc (.cells A 56)).heap.size = w.heap.size + 1 by simp] at B2
  generalize (rc b y).toArray = A2 at *
  have G1 := B1.out.gets
  have G2 := B2.out.gets
  have a0 := G1.id
  have a1 := G1.name
  have a2 := G1.kind
  have a3 := G1.size
  have b0 := G2.id
  have b1 := G2.name
  have b2 := G2.kind
  have b3 := G2.size
  have RA := Lib.hid G1.root
  have RB' := Lib.hid G2.root
  have HB1 := Lib.hid (fun z (f : Frm [] ((w.alloc (.cells A 56)).alloc (.cells A2 56)) z) => (B1.out.keep0 f).gets)
  have HB2 := Lib.hid (fun z (f : Frm [] ((w.alloc (.cells A 56)).alloc (.cells A2 56)) z) => (B2.out.keep0 f).gets)
  have F := Lib.hid f1
  clear ks k h hs B f0 G1 G2 B1 B2 f1 hp kp
  go_enter Tryz.func57, Tryz.ntmps57
  go_upto_region 1 with (fail)
  simp only [List.append_eq, List.cons_append, List.nil_append]
  go_wp2_with (first
    | ((with_reducible (show wpList _ _ _ (Oper.mk (some 33) (Op.load 54 _) _ _ _ _ :: _) _ _)); refine wpList_load_g (by rfl) 54 _ rfl _ rfl RA.out ?_)
    | ((with_reducible (show wpList _ _ _ (Oper.mk (some 35) (Op.load 54 _) _ _ _ _ :: _) _ _)); refine wpList_load_g (by rfl) 54 _ rfl _ rfl RB'.out ?_)
    | (go_at_call 45; refine (HS.out _ F.out).mono ?_; rintro e w1 ⟨rfl, f1⟩; have c39 := (HB1.out _ f1).made; have c40 := (HB1.out _ f1).of; have c41 := (HB1.out _ f1).origin; have c42 := (HB1.out _ f1).quota; have c43 := (HB1.out _ f1).reserve; have d39 := (HB2.out _ f1).made; have d40 := (HB2.out _ f1).of; have d41 := (HB2.out _ f1).origin; have d42 := (HB2.out _ f1).quota; have d43 := (HB2.out _ f1).reserve))
  all_goals go_ret
  all_goals first
    | exact ⟨by simp_all, F.out.trans f1 (by simp)⟩
    | exact ⟨by simp_all, F.out⟩
end Go.Proofs.YtljhanhipmnioaaGreat.Rd

namespace Go.Proofs.YtljhanhipmnioaaGreat.Rd
open Go.RowKit
set_option linter.unusedVariables false
set_option linter.unusedSimpArgs false
set_option maxRecDepth 100000

open Pt (Pt may enc zeroPt be4 be1 pc pv PtV SlA OwnA BT wpList_load_g heap_alloc_at Ext Grew)
open Kr (OwnE SlE Enco RowTys)

def curEq (a b : Cur) : Bool := a.kind == b.kind && (a.dev == b.dev && (a.at_ == b.at_ && a.txg == b.txg))
theorem cur_eql (a b : Cur) : (binOp .eql 24 (cv a) (cv b)).run Tryz.prog = fun W => .ok (.bool (curEq a b)) W := by
  funext W
  unfold cv curEq
  go_simp
  repeat' split
  all_goals simp_all
theorem cur_neq (a b : Cur) : (binOp .neq 24 (cv a) (cv b)).run Tryz.prog = fun W => .ok (.bool (!(curEq a b))) W := by
  funext W
  unfold cv curEq
  go_simp
  repeat' split
  all_goals simp_all
theorem cur_guard (op : BinOp) (x y : Operand) (a b : Cur) (W : World) : (eqGuard op 24 x y (cv a) (cv b)).run Tryz.prog W = .ok () W := Pt.guard_agg op 24 x y _ _ (by kernel_rfl) W
theorem bld24z (W : World) : (Instr.build 24 #[]).run Tryz.prog W = .ok (cv zeroC) W := by kernel_rfl
def all2 {α : Type} (f : α → α → Bool) : List α → List α → Bool
  | [], [] => true
  | x :: l, y :: m => f x y && all2 f l m
  | _, _ => false
theorem all2_len {α : Type} {f : α → α → Bool} : ∀ {l m : List α}, l.length ≠ m.length → all2 f l m = false
  | [], [], h => absurd rfl h
  | [], _ :: _, _ => rfl
  | _ :: _, [], _ => rfl
  | x :: l, y :: m, h => by unfold all2; rw [all2_len (by simpa using h)]; simp
theorem all2_no {α : Type} {f : α → α → Bool} : ∀ {l m : List α} {k : Nat} (h : k < l.length) (h2 : k < m.length), f l[k] m[k] = false → all2 f l m = false
  | x :: l, y :: m, 0, _, _, h => by
    have h' : f x y = false := h
    unfold all2; rw [h']; rfl
  | x :: l, y :: m, k + 1, h1, h2, h => by
    unfold all2; rw [all2_no (k := k) (by simpa using h1) (by simpa using h2) h]; simp
theorem all2_yes {α : Type} {f : α → α → Bool} : ∀ {l m : List α}, l.length = m.length → (∀ k (h : k < l.length) (h2 : k < m.length), f l[k] m[k] = true) → all2 f l m = true
  | [], [], _, _ => rfl
  | x :: l, y :: m, h, hk => by
    have h' : f x y = true := hk 0 (by simp) (by simp)
    unfold all2; rw [h', all2_yes (by simpa using h) (fun k h1 h2 => hk (k + 1) (by simpa using h1) (by simpa using h2))]; rfl
theorem all2_beq : ∀ l m : List Int, all2 (· == ·) l m = (l == m)
  | [], [] => rfl
  | [], _ :: _ => rfl
  | _ :: _, [] => rfl
  | x :: l, y :: m => by unfold all2; rw [all2_beq l m]; rfl
def A2Rel {α : Type} (f : α → α → Bool) (l m : List α) (w0 : World) (cv : Value) (wr : World) : Prop := ∃ k : Nat, k ≤ l.length ∧ cv = .int .i64 k ∧ (∀ j (h : j < l.length) (h2 : j < m.length), j < k → f l[j] m[j] = true) ∧ Frm [] w0 wr
theorem a2_more {α : Type} {f : α → α → Bool} {l m : List α} {k : Nat} (h : ∀ j (h : j < l.length) (h2 : j < m.length), j < k → f l[j] m[j] = true) (hk : k < l.length) (hm : k < m.length) (hf : f l[k] m[k] = true) : ∀ j (h : j < l.length) (h2 : j < m.length), j < k + 1 → f l[j] m[j] = true := by
  intro j h1 h2 hj
  by_cases e : j = k
  · subst e; exact hf
  · exact h j h1 h2 (by omega)
theorem cellI {w : World} {b off n cap : Nat} {l : List Int} {sp : List Value} (h : SlE eI 1 w (.slice (some ⟨b, off, none⟩) n cap) l sp) (i : Nat) (hi : i < l.length) : w.cell? ⟨b, off + i, none⟩ = some (.int .i64 l[i]) := by
  have := SlE.cell encI h i hi 0 (u := .int .i64 l[i]) rfl
  simpa using this

set_option maxHeartbeats 4000000 in
theorem SameInts_any (v x : Value) (l m : List Int) (sp sp2 : List Value) (w : World) (h1 : SlE eI 1 w v l sp) (h2 : SlE eI 1 w x m sp2) (hl : l.length ≤ 1000000) :
    Calls Tryz.prog 76 #[v, x] w fun e w' => e = .returned (.bool (l == m)) ∧ Frm [] w w' := by
  rw [← all2_beq]
  obtain ⟨a, c1, rfl, _, _⟩ := h1.form
  obtain ⟨b, c2, rfl, _, _⟩ := h2.form
  have H1 := Lib.hid h1
  have H2 := Lib.hid h2
  have hl9 : (l.length : Int) ≤ 1000000 := by omega
  clear h1 h2 hl
  by_cases hn : l.length = m.length
  · have hn9 : (m.length : Int) = (l.length : Int) := by omega
    have HN := Lib.hid hn
    clear hn
    go_enter Tryz.func76, Tryz.ntmps76
    go_upto_region 4 with (fail)
    go_loopw [5] (A2Rel (· == ·) l m w) (fun c _ => l.length - (intOf c).toNat)
    case atStart => exact ⟨0, Nat.zero_le _, rfl, fun j _ _ hj => by omega, Frm.refl _ _⟩
    case round =>
      obtain ⟨k, hk, rfl, hz, f⟩ := hrel
      have HZ := Lib.hid hz
      have FW := Lib.hid f
      clear hz f
      by_cases hkl : k < l.length
      · have hkm : k < m.length := by have := HN.out; omega
        have hkl9 : (k : Int) < (l.length : Int) := by omega
        obtain ⟨b1, o1, rfl⟩ := H1.out.at (by omega)
        obtain ⟨b2, o2, rfl⟩ := H2.out.at (by omega)
        have k1 := cellI (H1.out.keep0 FW.out) k hkl
        have k2 := cellI (H2.out.keep0 FW.out) k hkm
        have HM := Lib.hid (fun (hb : l[k] = m[k]) => a2_more HZ.out hkl hkm (by simpa using hb))
        have HNO := Lib.hid (fun (hb : ¬ l[k] = m[k]) => all2_no (f := (· == ·)) hkl hkm (by simpa using hb))
        generalize l[k] = x at *
        generalize m[k] = y at *
        go_wp2_with fail
        go_quiet (fail)
        by_cases hxy : x = y
        · have e : (x != y) = false := by simp [hxy]
          go_wp2_with fail
          go_roundw
          case rel => exact ⟨k + 1, by omega, by go_num, HM.out hxy, FW.out.drewN _⟩
          case measure => simp [intOf]; omega
        · have e : (x != y) = true := by simp [hxy]
          go_wp2_with fail
          go_ret
          exact ⟨by rw [HNO.out hxy]; rfl, FW.out.drewN _⟩
      · obtain rfl : k = l.length := by omega
        have e := all2_yes HN.out (fun j hj h2 => HZ.out j hj h2 hj)
        go_wp2_with fail
        go_ret
        exact ⟨by first | rfl | (rw [e]; rfl), FW.out⟩
  · have e := all2_len (f := (fun a b : Int => a == b)) hn
    have hn9 : ((l.length : Int) == (m.length : Int)) = false := by simp; omega
    have hn8 : ((l.length : Int) != (m.length : Int)) = true := by simp; omega
    have hn7 : ¬ (l.length : Int) = (m.length : Int) := by omega
    rw [e]
    clear e hn
    go_enter Tryz.func76, Tryz.ntmps76
    go_wp2_with fail
    go_ret
    exact ⟨rfl, Frm.refl _ _⟩

set_option maxHeartbeats 4000000 in
theorem EqualI_any (v x : Value) (l m : List Int) (sp sp2 : List Value) (w : World) (h1 : SlE eI 1 w v l sp) (h2 : SlE eI 1 w x m sp2) (hl : l.length ≤ 1000000) :
    Calls Tryz.prog 74 #[v, x] w fun e w' => e = .returned (.bool (l == m)) ∧ Frm [] w w' := by
  rw [← all2_beq]
  obtain ⟨a, c1, rfl, _, _⟩ := h1.form
  obtain ⟨b, c2, rfl, _, _⟩ := h2.form
  have H1 := Lib.hid h1
  have H2 := Lib.hid h2
  have hl9 : (l.length : Int) ≤ 1000000 := by omega
  clear h1 h2 hl
  by_cases hn : l.length = m.length
  · have hn9 : (m.length : Int) = (l.length : Int) := by omega
    have HN := Lib.hid hn
    clear hn
    go_enter Tryz.func74, Tryz.ntmps74
    go_upto_region 4 with (fail)
    go_loopw [13] (A2Rel (· == ·) l m w) (fun c _ => l.length - (intOf c).toNat)
    case atStart => exact ⟨0, Nat.zero_le _, rfl, fun j _ _ hj => by omega, Frm.refl _ _⟩
    case round =>
      obtain ⟨k, hk, rfl, hz, f⟩ := hrel
      have HZ := Lib.hid hz
      have FW := Lib.hid f
      clear hz f
      by_cases hkl : k < l.length
      · have hkm : k < m.length := by have := HN.out; omega
        have hkl9 : (k : Int) < (l.length : Int) := by omega
        obtain ⟨b1, o1, rfl⟩ := H1.out.at (by omega)
        obtain ⟨b2, o2, rfl⟩ := H2.out.at (by omega)
        have k1 := cellI (H1.out.keep0 FW.out) k hkl
        have k2 := cellI (H2.out.keep0 FW.out) k hkm
        have HM := Lib.hid (fun (hb : l[k] = m[k]) => a2_more HZ.out hkl hkm (by simpa using hb))
        have HNO := Lib.hid (fun (hb : ¬ l[k] = m[k]) => all2_no (f := (· == ·)) hkl hkm (by simpa using hb))
        generalize l[k] = x at *
        generalize m[k] = y at *
        go_wp2_with fail
        go_quiet (fail)
        by_cases hxy : x = y
        · have e : (x != y) = false := by simp [hxy]
          go_wp2_with fail
          go_roundw
          case rel => exact ⟨k + 1, by omega, by go_num, HM.out hxy, FW.out.drewN _⟩
          case measure => simp [intOf]; omega
        · have e : (x != y) = true := by simp [hxy]
          go_wp2_with fail
          go_ret
          exact ⟨by rw [HNO.out hxy]; rfl, FW.out.drewN _⟩
      · obtain rfl : k = l.length := by omega
        have e := all2_yes HN.out (fun j hj h2 => HZ.out j hj h2 hj)
        go_wp2_with fail
        go_ret
        exact ⟨by first | rfl | (rw [e]; rfl), FW.out⟩
  · have e := all2_len (f := (fun a b : Int => a == b)) hn
    have hn9 : ((l.length : Int) == (m.length : Int)) = false := by simp; omega
    have hn8 : ((l.length : Int) != (m.length : Int)) = true := by simp; omega
    have hn7 : ¬ (l.length : Int) = (m.length : Int) := by omega
    rw [e]
    clear e hn
    go_enter Tryz.func74, Tryz.ntmps74
    go_wp2_with fail
    go_ret
    exact ⟨rfl, Frm.refl _ _⟩
end Go.Proofs.YtljhanhipmnioaaGreat.Rd

namespace Go.Proofs.YtljhanhipmnioaaGreat.Rd
open Go.RowKit
set_option linter.unusedVariables false
set_option linter.unusedSimpArgs false
set_option maxRecDepth 100000

open Pt (Pt may enc zeroPt be4 be1 pc pv PtV SlA OwnA BT wpList_load_g heap_alloc_at Ext Grew)
open Kr (OwnE SlE Enco RowTys)

theorem alloc56 (W : World) : (Instr.alloc 56 true (.tuple #[])).run Tryz.prog W = .ok (.pointer (some ⟨W.heap.size, 0, none⟩)) (W.alloc (.cells (rc nilS zeroR).toArray 56)) := by kernel_rfl
theorem exec_alloc56 {o : Oper} {a : Act} (hop : o.op = Op.alloc 56) (W : World) : (execOp a.eval o).run Tryz.prog W = .ok (.value (.pointer (some ⟨W.heap.size, 0, none⟩))) (W.alloc (.cells (rc nilS zeroR).toArray 56)) := by
  have h := alloc56 W
  generalize W.alloc (.cells (rc nilS zeroR).toArray 56) = W2 at *
  simp only [execOp, hop, Sem.run_bind, Sem.run_pure, h, Result.andThen_ok]
theorem zeroR_s : zeroR.root.s.length = 32 := by kernel_rfl
theorem rc_all (v : Value) (hv : v.oneCell' = true) (x : Rec) : (rc v x).toArray.all (·.oneCell') = true := all_oneCell_toArray (rc_one v hv x)
/-- A record is stored over another one. -/
theorem wpList_store56 {ops : Array Oper} {rest : List Oper} {o3 : Oper} {a : Act} {W : World} {Q : Exit → Act → World → Prop} (g3 : o3.guard = none)
    (p x : Operand) (h3 : o3.op = .store 56 p x) {v v0 : Value} (hv : v.oneCell' = true) {u u0 : Rec} {g : Nat} (h0 : RB W g v0 u0) (hl : u.root.s.length = 32)
    (e1 : a.eval p = .pointer (some ⟨g, 0, none⟩)) (e2 : a.eval x = rv v u)
    (k : ∀ V, RB V g v u → Frm [g] W V → wpList Tryz.prog ops Q rest (a.put o3.dst undef) V) :
    wpList Tryz.prog ops Q (o3 :: rest) a W := by
  refine wpList_store_row g3 56 p x h3 g (rc v u).toArray e1 e2 56 _ h0.1 (by rw [i56]; simp [rc_length hl]) (by simp [rc_length hl, rc_length h0.2]) (rc_all v hv u) ?_
  exact k _ ⟨setRow_heap W g _ _ 56 (0, 0) h0.1, hl⟩ ⟨rfl, rfl, rfl, by simp [World.setRow], fun k hk hn => setRow_other _ _ k _ (by simpa using hn)⟩
theorem wpList_lay56 {ops : Array Oper} {rest : List Oper} {o1 o3 : Oper} {a : Act} {W : World} {Q : Exit → Act → World → Prop} (g1 : o1.guard = none) (g3 : o3.guard = none)
    (h1 : o1.op = .alloc 56) (p x : Operand) (h3 : o3.op = .store 56 p x) {v : Value} (hv : v.oneCell' = true) {u : Rec} (hl : u.root.s.length = 32)
    (e1 : (a.put o1.dst (.pointer (some ⟨W.heap.size, 0, none⟩))).eval p = .pointer (some ⟨W.heap.size, 0, none⟩))
    (e2 : (a.put o1.dst (.pointer (some ⟨W.heap.size, 0, none⟩))).eval x = rv v u)
    (k : wpList Tryz.prog ops Q rest ((a.put o1.dst (.pointer (some ⟨W.heap.size, 0, none⟩))).put o3.dst undef) (W.alloc (.cells (rc v u).toArray 56))) :
    wpList Tryz.prog ops Q (o1 :: o3 :: rest) a W := by
  refine wpList_val g1 (exec_alloc56 h1 _) ?_
  refine wpList_store_row g3 56 p x h3 W.heap.size (rc v u).toArray e1 e2 56 _ (heap_alloc_new _ _) (by rw [i56]; simp [rc_length hl]) (by simp [rc_length hl, rc_length zeroR_s]) (rc_all v hv u) ?_
  rw [World.setRow_alloc_new]
  exact k
theorem alloc27 (W : World) : (Instr.alloc 27 true (.tuple #[])).run Tryz.prog W = .ok (.pointer (some ⟨W.heap.size, 0, none⟩)) (W.alloc (.cells (tc nilS nilS zeroT).toArray 27)) := by kernel_rfl
theorem exec_alloc27 {o : Oper} {a : Act} (hop : o.op = Op.alloc 27) (W : World) : (execOp a.eval o).run Tryz.prog W = .ok (.value (.pointer (some ⟨W.heap.size, 0, none⟩))) (W.alloc (.cells (tc nilS nilS zeroT).toArray 27)) := by
  have h := alloc27 W
  generalize W.alloc (.cells (tc nilS nilS zeroT).toArray 27) = W2 at *
  simp only [execOp, hop, Sem.run_bind, Sem.run_pure, h, Result.andThen_ok]
theorem bld27z (W : World) : (Instr.build 27 #[]).run Tryz.prog W = .ok (tv nilS nilS zeroT) W := by kernel_rfl
theorem exec_bld27z {o : Oper} {a : Act} (hop : o.op = Op.build 27 #[]) (W : World) : (execOp a.eval o).run Tryz.prog W = .ok (.value (tv nilS nilS zeroT)) W := by
  have hb := bld27z W
  simp only [execOp, hop, List.map_toArray, List.map_nil, Sem.run_bind, Sem.run_pure, hb, Result.andThen_ok]
theorem bld56z (W : World) : (Instr.build 56 #[]).run Tryz.prog W = .ok (rv nilS zeroR) W := by kernel_rfl
theorem exec_bld56z {o : Oper} {a : Act} (hop : o.op = Op.build 56 #[]) (W : World) : (execOp a.eval o).run Tryz.prog W = .ok (.value (rv nilS zeroR)) W := by
  have hb := bld56z W
  simp only [execOp, hop, List.map_toArray, List.map_nil, Sem.run_bind, Sem.run_pure, hb, Result.andThen_ok]
theorem tc_all {vr vl : Value} (h1 : vr.oneCell' = true) (h2 : vl.oneCell' = true) (t : Tab) : (tc vr vl t).toArray.all (·.oneCell') = true := all_oneCell_toArray (fun u hu => by
  simp only [tc, List.mem_cons, List.not_mem_nil, or_false] at hu
  rcases hu with rfl | rfl | rfl | rfl | rfl | rfl | rfl <;> first | rfl | assumption)
theorem wpList_store27 {ops : Array Oper} {rest : List Oper} {o3 : Oper} {a : Act} {W : World} {Q : Exit → Act → World → Prop} (g3 : o3.guard = none)
    (p x : Operand) (h3 : o3.op = .store 27 p x) {vr vl vr0 vl0 : Value} (h1 : vr.oneCell' = true) (h2 : vl.oneCell' = true) {t t0 : Tab} {g : Nat} (h0 : TB W g vr0 vl0 t0)
    (e1 : a.eval p = .pointer (some ⟨g, 0, none⟩)) (e2 : a.eval x = tv vr vl t)
    (k : ∀ V, TB V g vr vl t → Frm [g] W V → wpList Tryz.prog ops Q rest (a.put o3.dst undef) V) :
    wpList Tryz.prog ops Q (o3 :: rest) a W := by
  refine wpList_store_row g3 27 p x h3 g (tc vr vl t).toArray e1 e2 27 _ h0 (by rw [i27]; simp [tc]) (by simp [tc]) (tc_all h1 h2 t) ?_
  exact k _ (setRow_heap W g _ _ 27 (0, 0) h0) ⟨rfl, rfl, rfl, by simp [World.setRow], fun k hk hn => setRow_other _ _ k _ (by simpa using hn)⟩
end Go.Proofs.YtljhanhipmnioaaGreat.Rd

namespace Go.Proofs.YtljhanhipmnioaaGreat.Rd
open Go.RowKit
set_option linter.unusedVariables false
set_option linter.unusedSimpArgs false
set_option maxRecDepth 100000

open Pt (Pt may enc zeroPt be4 be1 pc pv PtV SlA OwnA BT wpList_load_g heap_alloc_at Ext Grew)
open Kr (OwnE SlE Enco RowTys)

theorem Rs.getsF {w : World} {b off n cap : Nat} {l : List Rec} (h : Rs w (.slice (some ⟨b, off, none⟩) n cap) l) (i : Nat) (hi : i < l.length) :
    ∃ a c, ∀ z, Frm [] w z → GetsR z b (off + i * 44) (.slice a (l[i]).root.ads.length c) l[i] ∧ RecV z (rv (.slice a (l[i]).root.ads.length c) l[i]) l[i] := by
  obtain ⟨rs, sp, hs, hl, hr⟩ := h
  have hi2 : i < rs.length := by omega
  obtain ⟨a, c, s, e, hA, hw⟩ := hr i rs[i] l[i] (List.getElem?_eq_getElem _) (List.getElem?_eq_getElem _)
  refine ⟨a, c, fun z f => ⟨gets_of hw fun j u hu => ?_, a, c, s, rfl, hA.keep f (by simp), hw⟩⟩
  have := SlE.cell encRow (hs.keep0 f) i hi2 j (u := u) (by rw [show eR rs[i] = (rs[i]).1 from rfl, e]; exact hu)
  rw [Nat.add_assoc]; exact this
theorem frm_own {w w1 w2 : World} {o : Obj} (h1 : w1 = w.alloc o) (f : Frm [w.heap.size] w1 w2) : Frm [] w w2 := by
  subst h1
  exact ((Frm.refl [] w).alloc o).trans f (by simp)

def sameT (a b : Tab) : Bool := a.next == b.next && (all2 sameR a.recs b.recs && (curEq a.cur b.cur && a.lives == b.lives))

set_option maxHeartbeats 4000000 in
theorem EqualFunc_any (v x : Value) (l m : List Rec) (w : World) (h1 : Rs w v l) (h2 : Rs w x m) (hl : l.length ≤ 1000) (hf : ∀ x ∈ l, FitR x) :
    Calls Tryz.prog 72 #[v, x, .func (.func 73) #[] #[]] w fun e w' => e = .returned (.bool (all2 sameR l m)) ∧ Frm [] w w' := by
  obtain ⟨a, c1, rfl⟩ := h1.form
  obtain ⟨b, c2, rfl⟩ := h2.form
  have H1 := Lib.hid h1
  have H2 := Lib.hid h2
  have HF := Lib.hid hf
  have hl9 : (l.length : Int) ≤ 1000 := by omega
  clear h1 h2 hl hf
  by_cases hn : l.length = m.length
  · have hn9 : (m.length : Int) = (l.length : Int) := by omega
    have HN := Lib.hid hn
    clear hn
    go_enter Tryz.func72, Tryz.ntmps72
    go_upto_region 4 with (fail)
    go_loopw [17] (A2Rel sameR l m w) (fun c _ => l.length - (intOf c).toNat)
    case atStart => exact ⟨0, Nat.zero_le _, rfl, fun j _ _ hj => by omega, Frm.refl _ _⟩
    case round =>
      obtain ⟨k, hk, rfl, hz, f⟩ := hrel
      have HZ := Lib.hid hz
      have FW := Lib.hid f
      clear hz f
      by_cases hkl : k < l.length
      · have hkm : k < m.length := by have := HN.out; omega
        have hkl9 : (k : Int) < (l.length : Int) := by omega
        obtain ⟨b1, o1, c1', e1⟩ := H1.out.at (by omega)
        obtain ⟨b2, o2, c2', e2⟩ := H2.out.at (by omega)
        cases e1
        cases e2
        obtain ⟨xa, xc, GV1⟩ := (H1.out.keep0 FW.out).getsF k hkl
        obtain ⟨ya, yc, GV2⟩ := (H2.out.keep0 FW.out).getsF k hkm
        have V1 := (GV1 wr (Frm.refl _ _)).2
        have V2 := (GV2 wr (Frm.refl _ _)).2
        have s1 : (l[k]).root.s.length = 32 := by obtain ⟨_, _, _, _, _, h⟩ := V1; exact h
        have s2 : (m[k]).root.s.length = 32 := by obtain ⟨_, _, _, _, _, h⟩ := V2; exact h
        have L1 := Lib.hid (GV1 wr (Frm.refl _ _)).1.all
        have L2 := Lib.hid (fun z (f : Frm [] wr z) => (GV2 z f).1.all)
        have HC := Lib.hid (fun z (f : Frm [] wr z) => sameRecord_any _ _ _ _ z (V1.keep0 f) (V2.keep0 f) (HF.out _ (List.getElem_mem hkl)))
        have HM := Lib.hid (fun (hb : sameR l[k] m[k] = true) => a2_more HZ.out hkl hkm hb)
        have HNO := Lib.hid (fun (hb : sameR l[k] m[k] = false) => all2_no (f := sameR) hkl hkm hb)
        generalize sameR l[k] m[k] = sb at *
        clear GV1 GV2 V1 V2
        generalize l[k] = x at *
        generalize m[k] = y at *
        generalize hvx : (Value.slice xa x.root.ads.length xc) = vx at *
        generalize hvy : (Value.slice ya y.root.ads.length yc) = vy at *
        have o1' : vx.oneCell' = true := by rw [← hvx]; rfl
        have o2' : vy.oneCell' = true := by rw [← hvy]; rfl
        have O1 := Lib.hid o1'
        have O2 := Lib.hid o2'
        have S1 := Lib.hid s1
        have S2 := Lib.hid s2
        clear hvx hvy o1' o2' s1 s2
        go_upto_region 6 with (first
          | ((with_reducible (show wpList _ _ _ (Oper.mk _ (Op.load 56 _) _ _ _ _ :: _) _ _)); refine wpList_load_g (by rfl) 56 _ rfl _ rfl L1.out ?_)
          | ((with_reducible (show wpList _ _ _ (Oper.mk _ (Op.alloc 56) _ _ _ _ :: _) _ _)); refine wpList_val rfl (exec_alloc56 rfl _) ?_; have n1 := Lib.hid (RB.new (w := wr) (v := nilS) zeroR_s); have hA1 := Lib.hid (Eq.refl (wr.alloc (.cells (rc nilS zeroR).toArray 56))); obtain ⟨g1, hg1⟩ : ∃ g1, wr.heap.size = g1 := ⟨_, rfl⟩; have HG1 := Lib.hid hg1; rw [hg1] at n1 ⊢; clear hg1; obtain ⟨A1, hA1'⟩ : ∃ A1, wr.alloc (.cells (rc nilS zeroR).toArray 56) = A1 := ⟨_, rfl⟩; have HA1 := Lib.hid hA1'; rw [hA1'] at n1 ⊢; clear hA1' hA1)
          | ((with_reducible (show wpList _ _ _ (Oper.mk _ (Op.store 56 _ _) _ _ _ _ :: _) _ _)); refine wpList_store56 rfl (.tmp 8) (.tmp 21) rfl O1.out n1.out S1.out rfl rfl ?_; intro V1 B1 F1))
        have f1 : Frm [] wr V1 := by rw [← HG1.out] at F1; exact frm_own HA1.out.symm F1
        have B1h := Lib.hid B1
        have F1h := Lib.hid f1
        have L2v := Lib.hid (L2.out V1 f1)
        clear B1 F1 f1 n1 HA1 HG1
        go_upto_region 7 with (first
          | ((with_reducible (show wpList _ _ _ (Oper.mk _ (Op.load 56 _) _ _ _ _ :: _) _ _)); refine wpList_load_g (by rfl) 56 _ rfl _ rfl L2v.out ?_)
          | ((with_reducible (show wpList _ _ _ (Oper.mk _ (Op.alloc 56) _ _ _ _ :: _) _ _)); refine wpList_val rfl (exec_alloc56 rfl _) ?_; have n1 := Lib.hid (RB.new (w := V1) (v := nilS) zeroR_s); obtain ⟨g2, hg2⟩ : ∃ g2, V1.heap.size = g2 := ⟨_, rfl⟩; have HG2 := Lib.hid hg2; rw [hg2] at n1 ⊢; clear hg2; obtain ⟨A2, hA2'⟩ : ∃ A2, V1.alloc (.cells (rc nilS zeroR).toArray 56) = A2 := ⟨_, rfl⟩; have HA2 := Lib.hid hA2'; rw [hA2'] at n1 ⊢; clear hA2')
          | ((with_reducible (show wpList _ _ _ (Oper.mk _ (Op.store 56 _ _) _ _ _ _ :: _) _ _)); refine wpList_store56 rfl (.tmp 9) (.tmp 25) rfl O2.out n1.out S2.out rfl rfl ?_; intro V2 B2 F2))
        have f2 : Frm [] V1 V2 := by rw [← HG2.out] at F2; exact frm_own HA2.out.symm F2
        have LA := Lib.hid (B1h.out.keep0 f2).gets.all
        have LB := Lib.hid B2.gets.all
        have F2h := Lib.hid (F1h.out.trans f2 (by simp))
        clear B2 F2 f2 n1 HA2 HG2 B1h F1h L2v
        cases sb with
        | true =>
          go_wp2_with (first
            | ((with_reducible (show wpList _ _ _ (Oper.mk (some 27) (Op.load 56 _) _ _ _ _ :: _) _ _)); refine wpList_load_g (by rfl) 56 _ rfl _ rfl LA.out ?_)
            | ((with_reducible (show wpList _ _ _ (Oper.mk (some 28) (Op.load 56 _) _ _ _ _ :: _) _ _)); refine wpList_load_g (by rfl) 56 _ rfl _ rfl LB.out ?_)
            | (go_at_call 73; refine (HC.out _ F2h.out).mono ?_; rintro e V3 ⟨rfl, f3⟩))
          go_roundw
          case rel => exact ⟨k + 1, by omega, by go_num, HM.out (by simp), (FW.out.trans F2h.out (by simp)).trans f3 (by simp)⟩
          case measure => simp [intOf]; omega
        | false =>
          go_wp2_with (first
            | ((with_reducible (show wpList _ _ _ (Oper.mk (some 27) (Op.load 56 _) _ _ _ _ :: _) _ _)); refine wpList_load_g (by rfl) 56 _ rfl _ rfl LA.out ?_)
            | ((with_reducible (show wpList _ _ _ (Oper.mk (some 28) (Op.load 56 _) _ _ _ _ :: _) _ _)); refine wpList_load_g (by rfl) 56 _ rfl _ rfl LB.out ?_)
            | (go_at_call 73; refine (HC.out _ F2h.out).mono ?_; rintro e V3 ⟨rfl, f3⟩))
          go_ret
          exact ⟨by rw [HNO.out (by simp)]; rfl, (FW.out.trans F2h.out (by simp)).trans f3 (by simp)⟩
      · obtain rfl : k = l.length := by omega
        have e := all2_yes HN.out (fun j hj h2 => HZ.out j hj h2 hj)
        go_wp2_with fail
        go_ret
        exact ⟨by first | rfl | (rw [e]; rfl), FW.out⟩
  · have e := all2_len (f := sameR) hn
    have hn9 : ((l.length : Int) == (m.length : Int)) = false := by simp; omega
    have hn8 : ((l.length : Int) != (m.length : Int)) = true := by simp; omega
    have hn7 : ¬ (l.length : Int) = (m.length : Int) := by omega
    rw [e]
    clear e hn
    go_enter Tryz.func72, Tryz.ntmps72
    go_wp2_with fail
    go_ret
    exact ⟨rfl, Frm.refl _ _⟩
end Go.Proofs.YtljhanhipmnioaaGreat.Rd

namespace Go.Proofs.YtljhanhipmnioaaGreat.Rd
open Go.RowKit
set_option linter.unusedVariables false
set_option linter.unusedSimpArgs false
set_option maxRecDepth 100000

open Pt (Pt may enc zeroPt be4 be1 pc pv PtV SlA OwnA BT wpList_load_g heap_alloc_at Ext Grew yieldsIf_ld)
open Kr (OwnE SlE Enco RowTys)

def sortB : List Rec → Bool
  | x :: y :: r => !(lessS y.name x.name) && sortB (y :: r)
  | _ => true
theorem sortB_no : ∀ {l : List Rec} {j : Nat} (h : j + 1 < l.length), lessS (l[j + 1]).name (l[j]).name = true → sortB l = false
  | x :: y :: r, 0, _, h => by
    have h' : lessS y.name x.name = true := h
    unfold sortB; rw [h']; rfl
  | x :: y :: r, j + 1, hj, h => by
    unfold sortB
    rw [sortB_no (l := y :: r) (j := j) (by simpa using hj) h]; simp
theorem sortB_yes : ∀ {l : List Rec}, (∀ j (h : j + 1 < l.length), lessS (l[j + 1]).name (l[j]).name = false) → sortB l = true
  | [], _ => rfl
  | [_], _ => rfl
  | x :: y :: r, h => by
    have h' : lessS y.name x.name = false := h 0 (by simp)
    unfold sortB
    rw [h', sortB_yes (l := y :: r) (fun j hj => h (j + 1) (by simpa using hj))]; rfl
theorem byN_lt (x y : Rec) : decide (byN x y < 0) = lessS x.name y.name := by
  unfold byN
  by_cases h : lessS x.name y.name = true
  · rw [if_pos h, h]; rfl
  · rw [if_neg h]
    have h' : lessS x.name y.name = false := by simpa using h
    rw [h']
    split <;> rfl
def SortRel (l : List Rec) (w0 : World) (cv : Value) (wr : World) : Prop := ∃ m : Nat, m ≤ l.length ∧ cv = .int .i64 ((m : Int) - 1) ∧ (∀ j (h : j + 1 < l.length), m ≤ j + 1 → lessS (l[j + 1]).name (l[j]).name = false) ∧ Frm [] w0 wr
set_option maxHeartbeats 4000000 in
theorem IsSorted_any (v : Value) (l : List Rec) (w : World) (h : Rs w v l) (hl : l.length ≤ 1000) (hf : ∀ x ∈ l, FitR x) :
    Calls Tryz.prog 136 #[v, .func (.func 137) #[] #[]] w fun e w' => e = .returned (.bool (sortB l)) ∧ Frm [] w w' := by
  obtain ⟨va, vc, rfl⟩ := h.form
  have H := Lib.hid h
  have HF := Lib.hid hf
  have hl9 : (l.length : Int) ≤ 1000 := by omega
  have hw0 : wrap64 ((l.length : Int) - 1) = (l.length : Int) - 1 := IntWalk.wrap64_in _ (by omega)
  have hw1 : IntKind.i64.wrap ((l.length : Int) - 1) = (l.length : Int) - 1 := IntWalk.i64_in _ (by omega)
  clear h hl hf
  go_enter Tryz.func136, Tryz.ntmps136
  go_upto_region 2 with (fail)
  clear hw0 hw1
  go_loopw [5] (SortRel l w) (fun c _ => (intOf c + 1).toNat)
  case atStart => exact ⟨l.length, Nat.le_refl _, rfl, fun j hj hm => by omega, Frm.refl _ _⟩
  case round =>
    obtain ⟨m, hm, rfl, hz, f⟩ := hrel
    have HZ := Lib.hid hz
    have FW := Lib.hid f
    clear hz f
    by_cases hkl : 1 < m
    · obtain ⟨q, rfl⟩ : ∃ q, m = q + 1 := ⟨m - 1, by omega⟩
      obtain ⟨k, hqk⟩ : ∃ k, q = k + 1 := ⟨q - 1, by omega⟩
      have e9 : ((q + 1 : Nat) : Int) - 1 = (q : Int) := by omega
      rw [e9]
      have hp : (0 : Int) < (q : Int) := by omega
      have h1 : q < l.length := by omega
      have h0 : k < l.length := by omega
      have h19 : (q : Int) < (l.length : Int) := by omega
      have h09 : (k : Int) < (l.length : Int) := by omega
      have hws : wrap64 ((q : Int) - 1) = (k : Int) := by rw [IntWalk.wrap64_in _ (by omega)]; omega
      have hws1 : IntKind.i64.wrap ((q : Int) - 1) = (k : Int) := by rw [IntWalk.i64_in _ (by omega)]; omega
      obtain ⟨b, off, cp, e⟩ := H.out.at (by omega)
      cases e
      obtain ⟨xa, xc, GV1⟩ := (H.out.keep0 FW.out).getsF q h1
      obtain ⟨ya, yc, GV2⟩ := (H.out.keep0 FW.out).getsF k h0
      have L1 := Lib.hid (fun z (f : Frm [] wr z) => (GV1 z f).1.all)
      have L2 := Lib.hid (fun z (f : Frm [] wr z) => (GV2 z f).1.all)
      have HC := Lib.hid (fun z (f : Frm [] wr z) => byName_any _ _ _ _ z (GV1 z f).2 (GV2 z f).2 (HF.out _ (List.getElem_mem h1)) (HF.out _ (List.getElem_mem h0)))
      have HB := Lib.hid (byN_lt l[q] l[k])
      have HN := Lib.hid (show lessS (l[q]).name (l[k]).name = false → ∀ j (h : j + 1 < l.length), q ≤ j + 1 → lessS (l[j + 1]).name (l[j]).name = false from fun hb j hj hjk => by
        subst hqk
        by_cases e : j = k
        · subst e; exact hb
        · exact HZ.out j hj (by omega))
      have HR := Lib.hid (show lessS (l[q]).name (l[k]).name = true → sortB l = false from fun hb => by
        subst hqk
        exact sortB_no h1 hb)
      generalize lessS (l[q]).name (l[k]).name = sb at *
      generalize byN l[q] l[k] = nb at *
      clear GV1 GV2 HZ e9
      generalize l[q] = x at *
      generalize l[k] = y at *
      generalize rv (.slice xa x.root.ads.length xc) x = ux at *
      generalize rv (.slice ya y.root.ads.length yc) y = uy at *
      have HP := Lib.hid (show ((q : Int) - 1 = (k : Int)) ∧ q ≤ l.length by omega)
      have HQ := Lib.hid hqk
      clear hqk hkl hm
      go_wp2_with fail
      refine wp_region_held_drew (S := fun z => Frm [] wr z) (by kernel_rfl) ((Frm.refl [] wr).drew) (fun hHeld => ?_)
      refine wpAnyH_take (i := 0) (oi := ⟨some 13, .move (.tmp 1), _, _, _, none⟩) (v := ?_) rfl (by kernel_rfl) (by kernel_rfl) (by kernel_rfl) (fun _ _ _ h => h) (Or.inl ⟨by rfl, ?_⟩) hHeld ?_
      rotate_left
      focus (intro z hSw; clear hSw; go_simp; try with_reducible rfl)
      try simp only [Act.put, List.setIfInBounds_toArray, List.set_cons_zero, List.set_cons_succ]
      refine wpAnyH_take (i := 1) (oi := ⟨some 14, .move (.tmp 0), _, _, _, none⟩) (v := ?_) rfl (by kernel_rfl) (by kernel_rfl) (by kernel_rfl) (fun _ _ _ h => h) (Or.inl ⟨by rfl, ?_⟩) hHeld ?_
      rotate_left
      focus (intro z hSw; clear hSw; go_simp; try with_reducible rfl)
      try simp only [Act.put, List.setIfInBounds_toArray, List.set_cons_zero, List.set_cons_succ]
      refine wpAnyH_take (i := 2) (oi := ⟨some 15, .move (.tmp 5), _, _, _, none⟩) (v := ?_) rfl (by kernel_rfl) (by kernel_rfl) (by kernel_rfl) (fun _ _ _ h => h) (Or.inl ⟨by rfl, ?_⟩) hHeld ?_
      rotate_left
      focus (intro z hSw; clear hSw; go_simp; try with_reducible rfl)
      try simp only [Act.put, List.setIfInBounds_toArray, List.set_cons_zero, List.set_cons_succ]
      refine wpAnyH_take (i := 3) (oi := ⟨some 16, .indexAddr 22 (.tmp 14) (.tmp 15), _, _, _, none⟩) (v := ?_) rfl (by kernel_rfl) (by kernel_rfl) (by kernel_rfl) (fun _ _ _ h => h) (Or.inl ⟨by rfl, ?_⟩) hHeld ?_
      rotate_left
      focus (intro z hSw; clear hSw; go_simp; try with_reducible rfl)
      try simp only [Act.put, List.setIfInBounds_toArray, List.set_cons_zero, List.set_cons_succ]
      refine wpAnyH_take (i := 4) (oi := ⟨some 17, .load 56 (.tmp 16), _, _, _, none⟩) rfl (by kernel_rfl) (by kernel_rfl) (by kernel_rfl) (fun _ _ _ h => h) (yieldsIf_ld (by rfl) 56 _ rfl _ rfl (fun z hSw => L1.out z hSw)) hHeld ?_
      try simp only [Act.put, List.setIfInBounds_toArray, List.set_cons_zero, List.set_cons_succ]
      refine wpAnyH_take (i := 5) (oi := ⟨some 18, .move (.tmp 0), _, _, _, none⟩) (v := ?_) rfl (by kernel_rfl) (by kernel_rfl) (by kernel_rfl) (fun _ _ _ h => h) (Or.inl ⟨by rfl, ?_⟩) hHeld ?_
      rotate_left
      focus (intro z hSw; clear hSw; go_simp; try with_reducible rfl)
      try simp only [Act.put, List.setIfInBounds_toArray, List.set_cons_zero, List.set_cons_succ]
      refine wpAnyH_take (i := 6) (oi := ⟨some 19, .move (.tmp 5), _, _, _, none⟩) (v := ?_) rfl (by kernel_rfl) (by kernel_rfl) (by kernel_rfl) (fun _ _ _ h => h) (Or.inl ⟨by rfl, ?_⟩) hHeld ?_
      rotate_left
      focus (intro z hSw; clear hSw; go_simp; try with_reducible rfl)
      try simp only [Act.put, List.setIfInBounds_toArray, List.set_cons_zero, List.set_cons_succ]
      refine wpAnyH_take (i := 7) (oi := ⟨some 20, .binOp .sub 3 (.tmp 19) (.const (.int .i64 1)) 3, _, _, _, none⟩) (v := ?_) rfl (by kernel_rfl) (by kernel_rfl) (by kernel_rfl) (fun _ _ _ h => h) (Or.inl ⟨by rfl, ?_⟩) hHeld ?_
      rotate_left
      focus (intro z hSw; clear hSw; go_simp; try with_reducible rfl)
      try simp only [Act.put, List.setIfInBounds_toArray, List.set_cons_zero, List.set_cons_succ]
      refine wpAnyH_take (i := 8) (oi := ⟨some 21, .indexAddr 22 (.tmp 18) (.tmp 20), _, _, _, none⟩) (v := ?_) rfl (by kernel_rfl) (by kernel_rfl) (by kernel_rfl) (fun _ _ _ h => h) (Or.inl ⟨by rfl, ?_⟩) hHeld ?_
      rotate_left
      focus (intro z hSw; clear hSw; go_simp; try with_reducible rfl)
      try simp only [Act.put, List.setIfInBounds_toArray, List.set_cons_zero, List.set_cons_succ]
      refine wpAnyH_take (i := 9) (oi := ⟨some 22, .load 56 (.tmp 21), _, _, _, none⟩) rfl (by kernel_rfl) (by kernel_rfl) (by kernel_rfl) (fun _ _ _ h => h) (yieldsIf_ld (by rfl) 56 _ rfl _ rfl (fun z hSw => L2.out z hSw)) hHeld ?_
      try simp only [Act.put, List.setIfInBounds_toArray, List.set_cons_zero, List.set_cons_succ]
      refine wpAnyH_ready (rs := [10]) (by kernel_rfl) (by simp) ?_
      refine AllReadyH.cons (o := ⟨some 23, .call { callee := .value (.tmp 13), args := #[.tmp 17, .tmp 22], argTypes := #[56, 56] }, _, _, _, none⟩) rfl (fun K hK => ?_) AllReadyH.nil
      go_simp
      refine (HC.out _ hHeld).mono ?_
      rintro r wn ⟨rfl, fn⟩
      refine hK.out _ _ ?_ (fun hNext => ?_)
      · exact hHeld.trans fn (by simp)
      clear hK K hHeld
      have hHeld := hNext
      clear hNext
      try simp only [Act.put, List.setIfInBounds_toArray, List.set_cons_zero, List.set_cons_succ]
      refine wpAnyH_take (i := 11) (oi := ⟨some 24, .binOp .lss 3 (.tmp 23) (.const (.int .i64 0)) 3, _, _, _, none⟩) (v := ?_) rfl (by kernel_rfl) (by kernel_rfl) (by kernel_rfl) (fun _ _ _ h => h) (Or.inl ⟨by rfl, ?_⟩) hHeld ?_
      rotate_left
      focus (intro z hSw; clear hSw; go_simp; try with_reducible rfl)
      try simp only [Act.put, List.setIfInBounds_toArray, List.set_cons_zero, List.set_cons_succ]
      refine wpAnyH_done (by kernel_rfl) ?_ _
      cases sb with
      | true =>
        have hd : nb < 0 := by simpa using HB.out
        have en := HR.out (by simp)
        go_wp2_with fail
        go_ret
        exact ⟨by first | rfl | (rw [en]; rfl) | (simp [en]), FW.out.trans hHeld (by simp)⟩
      | false =>
        have hd : ¬ nb < 0 := by simpa using HB.out
        go_wp2_with fail
        go_roundw
        case rel => exact ⟨q, HP.out.2, by first | (congr 1; have := HP.out; omega) | go_num, HN.out (by simp), FW.out.trans hHeld (by simp)⟩
        case measure => simp [intOf]; have := HQ.out; omega
    · have hn : ¬ (0 : Int) < (m : Int) - 1 := by omega
      have e := sortB_yes (l := l) (fun j hj => HZ.out j hj (by omega))
      go_wp2_with fail
      go_ret
      exact ⟨by first | rfl | (rw [e]; rfl), FW.out⟩
end Go.Proofs.YtljhanhipmnioaaGreat.Rd

namespace Go.Proofs.YtljhanhipmnioaaGreat.Rd
open Go.RowKit
set_option linter.unusedVariables false
set_option linter.unusedSimpArgs false
set_option maxRecDepth 100000

open Pt (Pt may enc zeroPt be4 be1 pc pv PtV SlA OwnA BT wpList_load_g heap_alloc_at Ext Grew yieldsIf_ld)
open Kr (OwnE SlE Enco RowTys)

theorem exec_bld24z {o : Oper} {a : Act} (hop : o.op = Op.build 24 #[]) (W : World) : (execOp a.eval o).run Tryz.prog W = .ok (.value (cv zeroC)) W := by
  have hb := bld24z W
  simp only [execOp, hop, List.map_toArray, List.map_nil, Sem.run_bind, Sem.run_pure, hb, Result.andThen_ok]
theorem life_any (n : Int) (w : World) : Calls Tryz.prog 191 #[.int .i64 n] w fun e w' => e = .returned (.bool (!(wi n 0 2147483647))) ∧ w' = w := by
  go_enter Tryz.func191, Tryz.ntmps191
  go_wp2_with (go_at_call 129; refine (within_pr _ _ _ _).mono ?_; rintro e w1 ⟨rfl, rfl⟩)
  go_ret
  exact ⟨rfl, rfl⟩
def okL (l : List Int) : Bool := l.all fun n => wi n 0 2147483647
def LifeP (l : List Int) (w : World) (e : Ending) (w' : World) : Prop := (∃ k : Int, e = .returned (.int .i64 k) ∧ decide (k < 0) = okL l) ∧ Frm [] w w'
def LifeRel (l : List Int) (w0 : World) (cv : Value) (wr : World) : Prop := ∃ k : Nat, k ≤ l.length ∧ cv = .int .i64 k ∧ (∀ j (h : j < l.length), j < k → wi l[j] 0 2147483647 = true) ∧ Frm [] w0 wr
set_option maxHeartbeats 1000000 in
theorem IndexI_any (v : Value) (l : List Int) (sp : List Value) (w : World) (h : SlE eI 1 w v l sp) (hl : l.length ≤ 1000) : Calls Tryz.prog 192 #[v, .func (.func 191) #[] #[]] w (LifeP l w) := by
  obtain ⟨va, vc, rfl, _, _⟩ := h.form
  have H := Lib.hid h
  have hl9 : (l.length : Int) ≤ 1000 := by omega
  clear h hl
  go_enter Tryz.func192, Tryz.ntmps192
  go_wp2_with fail
  go_loopw [8] (LifeRel l w) (fun c _ => l.length - (intOf c).toNat)
  case atStart => exact ⟨0, Nat.zero_le _, rfl, fun j _ hj => by omega, Frm.refl _ _⟩
  case round =>
    obtain ⟨k, hk, rfl, hz, f⟩ := hrel
    have HZ := Lib.hid hz
    have FW := Lib.hid f
    clear hz f
    by_cases hkl : k < l.length
    · have hkl9 : (k : Int) < (l.length : Int) := by omega
      obtain ⟨b, off, rfl⟩ := H.out.at (by omega)
      have c0 := cellI (H.out.keep0 FW.out) k hkl
      have HN := Lib.hid (show wi l[k] 0 2147483647 = true → ∀ j (h : j < l.length), j < k + 1 → wi l[j] 0 2147483647 = true from fun hb j hj hjk => if e : j = k then by subst e; exact hb else HZ.out j hj (by omega))
      have HR := Lib.hid (show wi l[k] 0 2147483647 = false → okL l = false from fun hb => by unfold okL; rw [List.all_eq_false]; exact ⟨l[k], List.getElem_mem hkl, by rw [hb]; simp⟩)
      cases hb : wi l[k] 0 2147483647 with
      | true =>
        go_wp2_with (go_at_call 191; refine (life_any _ _).mono ?_; rintro e w1 ⟨rfl, rfl⟩)
        go_roundw
        case rel => exact ⟨k + 1, by omega, by go_num, HN.out hb, FW.out⟩
        case measure => simp [intOf]; omega
      | false =>
        go_wp2_with (go_at_call 191; refine (life_any _ _).mono ?_; rintro e w1 ⟨rfl, rfl⟩)
        go_ret
        exact ⟨⟨_, rfl, by rw [HR.out hb]; simp⟩, FW.out⟩
    · obtain rfl : k = l.length := by omega
      have e : okL l = true := by
        unfold okL; rw [List.all_eq_true]
        intro n hn
        obtain ⟨i, hi, rfl⟩ := List.getElem_of_mem hn
        exact HZ.out i hi hi
      have EH := Lib.hid e
      clear e
      go_wp2_with fail
      go_ret
      exact ⟨⟨_, rfl, by rw [EH.out]; rfl⟩, FW.out⟩
def livB (l : List Int) : Bool := wi l.length 2 8 && okL l
set_option maxHeartbeats 1000000 in
theorem mayBeLives_any (v : Value) (l : List Int) (sp : List Value) (w : World) (h : SlE eI 1 w v l sp) (hl : l.length ≤ 1000) : Calls Tryz.prog 130 #[v] w fun e w' => e = .returned (.bool (livB l)) ∧ Frm [] w w' := by
  obtain ⟨va, vc, rfl, _, _⟩ := h.form
  have HI := Lib.hid (IndexI_any _ l sp w h hl)
  unfold livB
  clear h
  go_enter Tryz.func130, Tryz.ntmps130
  go_wp2_with (first
    | (go_at_call 129; refine (within_pr _ _ _ _).mono ?_; rintro e w1 ⟨rfl, rfl⟩)
    | (go_at_call 192; refine HI.out.mono ?_; rintro e w1 ⟨⟨k, rfl, hk⟩, f1⟩; have HK := Lib.hid hk; clear hk))
  all_goals go_ret
  all_goals first
    | exact ⟨by rw [← HK.out]; simp_all, f1⟩
    | exact ⟨by simp_all, Frm.refl _ _⟩
def curP (c : Cur) (devs : Int) : Bool := if c.kind = 0 then curEq c zeroC else if c.kind = 1 then wi c.dev 0 0 && (wi c.at_ 0 2147483647 && wi c.txg 1 2147483648) else if c.kind = 2 then wi c.dev 0 (devs - 1) && (wi c.at_ 0 2147483647 && wi c.txg 1 2147483648) else false
set_option maxHeartbeats 4000000 in
theorem mayBeCursor_any (c : Cur) (devs : Int) (w : World) (hd : 0 ≤ devs ∧ devs ≤ 1000) : Calls Tryz.prog 131 #[cv c, .int .i64 devs] w fun e w' => e = .returned (.bool (curP c devs)) ∧ Frm [] w w' := by
  have hs : IntKind.i64.wrap (devs - 1) = devs - 1 := IntWalk.i64_in _ (by omega)
  have hs2 : wrap64 (devs - 1) = devs - 1 := IntWalk.wrap64_in _ (by omega)
  have hq := cur_eql c zeroC
  have hg := cur_guard .eql
  unfold curP
  have f0 : Frm [] w (w.alloc (.cells #[.int .i64 c.kind, .int .i64 c.dev, .int .i64 c.at_, .int .i64 c.txg] 24)) := (Frm.refl [] w).alloc _
  have hb : (w.alloc (.cells #[.int .i64 c.kind, .int .i64 c.dev, .int .i64 c.at_, .int .i64 c.txg] 24)).heap[w.heap.size]? = some (.cells #[.int .i64 c.kind, .int .i64 c.dev, .int .i64 c.at_, .int .i64 c.txg] 24 (0, 0)) := heap_alloc_new _ _
  have c0 : (w.alloc (.cells #[.int .i64 c.kind, .int .i64 c.dev, .int .i64 c.at_, .int .i64 c.txg] 24)).cell? ⟨w.heap.size, 0, none⟩ = some (.int .i64 c.kind) := cell_of_heap hb 0
  have c1 : (w.alloc (.cells #[.int .i64 c.kind, .int .i64 c.dev, .int .i64 c.at_, .int .i64 c.txg] 24)).cell? ⟨w.heap.size, 1, none⟩ = some (.int .i64 c.dev) := cell_of_heap hb 1
  have c2 : (w.alloc (.cells #[.int .i64 c.kind, .int .i64 c.dev, .int .i64 c.at_, .int .i64 c.txg] 24)).cell? ⟨w.heap.size, 2, none⟩ = some (.int .i64 c.at_) := cell_of_heap hb 2
  have c3 : (w.alloc (.cells #[.int .i64 c.kind, .int .i64 c.dev, .int .i64 c.at_, .int .i64 c.txg] 24)).cell? ⟨w.heap.size, 3, none⟩ = some (.int .i64 c.txg) := cell_of_heap hb 3
  obtain ⟨d2, h3, h4⟩ := Option.map_eq_some_iff.1 d24
  have LC := Lib.hid (show (Instr.loadAt 24 (.pointer (some ⟨w.heap.size, 0, none⟩))).run Tryz.prog _ = .ok (cv c) _ from run_loadAt_mid _ w.heap.size 0 24 [.int .i64 c.kind, .int .i64 c.dev, .int .i64 c.at_, .int .i64 c.txg] d2 (fun j u hu => by rw [Nat.zero_add, cell_of_heap hb]; simpa using hu) h3 h4 (by rw [i24]; rfl))
  have F := Lib.hid f0
  clear hb h3 h4 f0
  show Calls Tryz.prog 131 #[.agg #[.int .i64 c.kind, .int .i64 c.dev, .int .i64 c.at_, .int .i64 c.txg], .int .i64 devs] w _
  generalize (#[.int .i64 c.kind, .int .i64 c.dev, .int .i64 c.at_, .int .i64 c.txg] : Array Value) = A at *
  generalize curEq c zeroC = sz at *
  generalize hgz : w.heap.size = g at *
  by_cases k0 : c.kind = 0
  · rw [if_pos k0]
    rw [k0] at c0
    clear k0
    go_enter Tryz.func131, Tryz.ntmps131
    go_upto_region 1 with (fail)
    generalize w.alloc (.cells A 24) = W at *
    go_wp2_with (first
      | ((with_reducible (show wpList _ _ _ (Oper.mk _ (Op.load 24 _) _ _ _ _ :: _) _ _)); refine wpList_load_g (by rfl) 24 _ rfl _ rfl LC.out ?_)
      | ((with_reducible (show wpList _ _ _ (Oper.mk _ (Op.build 24 _) _ _ _ _ :: _) _ _)); refine wpList_val rfl (exec_bld24z rfl _) ?_))
    go_ret
    exact ⟨rfl, F.out⟩
  · rw [if_neg k0]
    by_cases k1 : c.kind = 1
    · rw [if_pos k1]
      rw [k1] at c0
      clear k0 k1
      go_enter Tryz.func131, Tryz.ntmps131
      go_upto_region 1 with (fail)
      generalize w.alloc (.cells A 24) = W at *
      go_wp2_with (go_at_call 129; refine (within_pr _ _ _ _).mono ?_; rintro e w1 ⟨rfl, rfl⟩)
      all_goals go_ret
      all_goals exact ⟨by simp_all, F.out⟩
    · rw [if_neg k1]
      by_cases k2 : c.kind = 2
      · rw [if_pos k2]
        rw [k2] at c0
        clear k0 k1 k2
        go_enter Tryz.func131, Tryz.ntmps131
        go_upto_region 1 with (fail)
        generalize w.alloc (.cells A 24) = W at *
        go_wp2_with (go_at_call 129; refine (within_pr _ _ _ _).mono ?_; rintro e w1 ⟨rfl, rfl⟩)
        all_goals go_ret
        all_goals exact ⟨by simp_all, F.out⟩
      · rw [if_neg k2]
        have e0 : (c.kind == 0) = false := by simpa using k0
        have e1 : (c.kind == 1) = false := by simpa using k1
        have e2 : (c.kind == 2) = false := by simpa using k2
        clear k0 k1 k2
        go_enter Tryz.func131, Tryz.ntmps131
        go_upto_region 1 with (fail)
        generalize w.alloc (.cells A 24) = W at *
        go_wp2_with fail
        go_ret
        exact ⟨rfl, F.out⟩
end Go.Proofs.YtljhanhipmnioaaGreat.Rd
