/-
  Dir, the laws: DirKnown. No conditions but those that each theorem names.
-/
import Derived.Test.YtljhanhipmnioaaGreatDKa1
import Derived.Test.YtljhanhipmnioaaGreatDKa2
import Derived.Test.YtljhanhipmnioaaGreatDKa3
import Derived.Test.YtljhanhipmnioaaGreatDKa4
import Derived.Test.YtljhanhipmnioaaGreatDKa5
import Derived.Test.YtljhanhipmnioaaGreatDKa6
import Derived.Test.YtljhanhipmnioaaGreatDKa7
import Derived.Test.YtljhanhipmnioaaGreatDKa8
import Derived.Test.YtljhanhipmnioaaGreatDKa9
import Derived.Test.YtljhanhipmnioaaGreatDKa10
import Derived.Test.YtljhanhipmnioaaGreatDKa11
import Derived.WalkKit
import Derived.WalkSpells
import Derived.WalkLawsBesides
import Derived.Deep.AppendSrc
import Derived.Laws.CopyOwn
import Derived.Laws.BytesArg
import Derived.Carry
import Derived.Laws.BytesString
import Derived.Deep.SlicePairs
import Derived.Deep.Cut
import Derived.Lib.Hide
import Derived.Test.YtljhanhipmnioaaGreatChecked
import Derived.ChangeKeysEq
import Derived.Deep.MidRow
import Derived.Deep.RegionHeld3
import Derived.OpenShut
import Derived.WalkHide
import Derived.IntWalk
import Derived.StillTailTactics
import Derived.Deep.RegionLaw
import Derived.Deep.RegionWith
import Derived.Deep.QuietTactic
import Derived.BigQuiet
import Derived.OrdersHeld
import Derived.Deep.CutBlock
import Derived.Deep.DeepCutAuto
import Derived.Deep.Slices
import Derived.Defers
import Derived.Recover
import Derived.Deep.WholeRow
import Derived.Deep.Strs
import Derived.ChangeSame
import Derived.Lib.Bytealg
import Derived.Lib.TrimUEq
import Derived.Lib.MinMaxS
import Derived.LaidEqlPtr
import Derived.Lib.OthersKept
import Derived.Deep.Draws
import Derived.WalkMore
import Derived.Deep.LoopGhost
import Derived.Lib.BufferWrite
import Derived.Lib.UnsafeStr
import Derived.Laws.MakeOwn
import Derived.Laws.Strings3
import Derived.BigRegion
import Derived.Lib.Walk
import Derived.Great.Walk
import Derived.Lib.SliceRun
import Derived.Deep.RegionHeld
import Derived.Laws.OwnMore
import Derived.Lib.AppendZerosOnto
import Derived.Lib.Overlaps
namespace Go.Proofs.YtljhanhipmnioaaGreat.Rd
open Go.RowKit
set_option linter.unusedVariables false
set_option linter.unusedSimpArgs false
set_option maxRecDepth 100000

open Pt (Pt may enc zeroPt be4 be1 pc pv PtV SlA OwnA BT wpList_load_g heap_alloc_at Ext Grew yieldsIf_ld)
open Kr (OwnE SlE Enco RowTys)
def tu : Tab := (renameT ta3 { data := #[97] } { data := #[99] }).1
def tv4 : Tab := (snapT ta3 { data := #[97, 64, 121] } 4).1
def tw4 : Tab := (rollT tv4 { data := #[97, 64, 121] }).1
theorem kc1 : renameT ta3 { data := #[97] } { data := #[99] } = (tu, 0) := by kernel_rfl
theorem kc2 : renameT ta3 { data := #[97] } { data := #[98] } = (zeroT, 7) := by kernel_rfl
theorem kc3 : renameT ta3 { data := #[97, 64, 120] } { data := #[98, 64, 120] } = (zeroT, 2) := by kernel_rfl
theorem kc4 : renameT ta3 { data := #[97] } { data := #[97] } = (zeroT, 7) := by kernel_rfl
theorem kc5 : namesB tu [{ data := #[98] }, { data := #[99] }, { data := #[99, 64, 120] }] = true := by kernel_rfl
theorem kc6 : sizeT ta3 { data := #[97, 64, 120] } 5 = (zeroT, 18) := by kernel_rfl
theorem kc7 : limT ta3 { data := #[97] } 65 0 = (zeroT, 2) := by kernel_rfl
theorem kc8 : makeT ta3 { data := #[97, 64, 98] } 1 1 = (zeroT, 2) := by kernel_rfl
theorem kc9 : snapT ta3 { data := #[122, 64, 120] } 1 = (zeroT, 6) := by kernel_rfl
theorem kc10 : makeT ta3 { data := #[98] } 4 4 = (zeroT, 7) := by kernel_rfl
theorem kc11 : snapT ta3 { data := #[97, 64, 121] } 4 = (tv4, 0) := by kernel_rfl
theorem kc12 : rollT tv4 { data := #[97, 64, 120] } = (zeroT, 17) := by kernel_rfl
theorem kc13 : rollT tv4 { data := #[97, 64, 121] } = (tw4, 0) := by kernel_rfl
theorem fv4 : FitT tv4 := fit_of (by kernel_rfl)
set_option maxHeartbeats 16000000 in
theorem knownD_any (w : World) : Calls Tryz.prog 10 #[] w (YesD w) := by
  go_enter Tryz.func10, Tryz.ntmps10
  go_upto_region 2 with (first
    | (go_at_call 46; refine (sample_any w).mono ?_; intro r w1 hr; obtain ⟨vr, vl, rfl, o1, f1⟩ := hr)
    | ((with_reducible (show wpList _ _ _ (Oper.mk _ (Op.alloc 27) _ _ _ _ :: _) _ _)); refine wpList_val rfl (exec_alloc27 rfl _) ?_)
    | ((with_reducible (show wpList _ _ _ (Oper.mk _ (Op.store 27 _ _) _ _ _ _ :: _) _ _)); refine wpList_store27 rfl (.tmp 1) (.tmp 31) rfl o1.ones.1 o1.ones.2 (TB.new w1 nilS nilS zeroT) rfl rfl ?_; intro W b2 f2))
  have f12 : Frm [] w1 W := ((Frm.refl [] w1).alloc _).trans f2 (fun i hi => .inr (by simp at hi; omega))
  have B := Lib.hid b2
  have F := Lib.hid (show Frm [] w W from f1.trans f12 (by simp))
  have O := Lib.hid (o1.keep0 f12)
  clear b2 f2 o1 f1 f12
  generalize w1.heap.size = g at *
  have F0 := Lib.hid (Frm.refl [] W)
  go_upto_region 4 with (fail)
  go_upto_region 5 with (first
    | ((with_reducible (show wpList _ _ _ (Oper.mk _ (Op.load 27 _) _ _ _ _ :: _) _ _)); refine wpList_load_g (by rfl) 27 _ rfl _ rfl (B.out.keep0 F0.out).gets.all ?_)
    | (go_at_call 47; refine (Rename_any _ _ ta3 { data := #[97] } { data := #[99] } W (O.out.v.keep0 F0.out) fa3 (by decide) (by decide)).mono ?_; intro r x1 hr; obtain ⟨vr1, vl1, rfl, o1, f1⟩ := hr.is kc1)
    | ((with_reducible (show wpList _ _ _ (Oper.mk _ (Op.alloc 27) _ _ _ _ :: _) _ _)); refine wpList_val rfl (exec_alloc27 rfl _) ?_)
    | ((with_reducible (show wpList _ _ _ (Oper.mk _ (Op.store 27 _ _) _ _ _ _ :: _) _ _)); refine wpList_store27 rfl (.tmp 3) (.tmp 38) rfl o1.ones.1 o1.ones.2 (TB.new x1 nilS nilS zeroT) rfl rfl ?_; intro w1 b2 f2))
  have f12 : Frm [] x1 w1 := ((Frm.refl [] x1).alloc _).trans f2 (fun i hi => .inr (by simp at hi; omega))
  have B1 := Lib.hid b2
  have O1 := Lib.hid (o1.keep0 f12)
  have F1 := Lib.hid (show Frm [] W w1 from (F0.out.trans f1 (by simp)).trans f12 (by simp))
  have G1 := Lib.hid (show Frm [] W w1 from f1.trans f12 (by simp))
  clear b2 f2 o1 f1 f12 hr
  generalize x1.heap.size = g1 at *
  go_upto_region 6 with (first
    | ((with_reducible (show wpList _ _ _ (Oper.mk _ (Op.load 27 _) _ _ _ _ :: _) _ _)); refine wpList_load_g (by rfl) 27 _ rfl _ rfl (B.out.keep0 F1.out).gets.all ?_)
    | (go_at_call 47; refine (Rename_any _ _ ta3 { data := #[97] } { data := #[98] } w1 (O.out.v.keep0 F1.out) fa3 (by decide) (by decide)).mono ?_; intro r x2 hr; obtain ⟨vr2, vl2, rfl, o1, f1⟩ := hr.is kc2)
    | ((with_reducible (show wpList _ _ _ (Oper.mk _ (Op.alloc 27) _ _ _ _ :: _) _ _)); refine wpList_val rfl (exec_alloc27 rfl _) ?_)
    | ((with_reducible (show wpList _ _ _ (Oper.mk _ (Op.store 27 _ _) _ _ _ _ :: _) _ _)); refine wpList_store27 rfl (.tmp 5) (.tmp 43) rfl o1.ones.1 o1.ones.2 (TB.new x2 nilS nilS zeroT) rfl rfl ?_; intro w2 b2 f2))
  have f12 : Frm [] x2 w2 := ((Frm.refl [] x2).alloc _).trans f2 (fun i hi => .inr (by simp at hi; omega))
  have B2 := Lib.hid b2
  have O2 := Lib.hid (o1.keep0 f12)
  have F2 := Lib.hid (show Frm [] W w2 from (F1.out.trans f1 (by simp)).trans f12 (by simp))
  have G2 := Lib.hid (show Frm [] w1 w2 from f1.trans f12 (by simp))
  clear b2 f2 o1 f1 f12 hr
  generalize x2.heap.size = g2 at *
  go_upto_region 7 with (first
    | ((with_reducible (show wpList _ _ _ (Oper.mk _ (Op.load 27 _) _ _ _ _ :: _) _ _)); refine wpList_load_g (by rfl) 27 _ rfl _ rfl (B.out.keep0 F2.out).gets.all ?_)
    | (go_at_call 47; refine (Rename_any _ _ ta3 { data := #[97, 64, 120] } { data := #[98, 64, 120] } w2 (O.out.v.keep0 F2.out) fa3 (by decide) (by decide)).mono ?_; intro r x3 hr; obtain ⟨vr3, vl3, rfl, o1, f1⟩ := hr.is kc3)
    | ((with_reducible (show wpList _ _ _ (Oper.mk _ (Op.alloc 27) _ _ _ _ :: _) _ _)); refine wpList_val rfl (exec_alloc27 rfl _) ?_)
    | ((with_reducible (show wpList _ _ _ (Oper.mk _ (Op.store 27 _ _) _ _ _ _ :: _) _ _)); refine wpList_store27 rfl (.tmp 7) (.tmp 48) rfl o1.ones.1 o1.ones.2 (TB.new x3 nilS nilS zeroT) rfl rfl ?_; intro w3 b2 f2))
  have f12 : Frm [] x3 w3 := ((Frm.refl [] x3).alloc _).trans f2 (fun i hi => .inr (by simp at hi; omega))
  have B3 := Lib.hid b2
  have O3 := Lib.hid (o1.keep0 f12)
  have F3 := Lib.hid (show Frm [] W w3 from (F2.out.trans f1 (by simp)).trans f12 (by simp))
  have G3 := Lib.hid (show Frm [] w2 w3 from f1.trans f12 (by simp))
  clear b2 f2 o1 f1 f12 hr
  generalize x3.heap.size = g3 at *
  go_upto_region 8 with (first
    | ((with_reducible (show wpList _ _ _ (Oper.mk _ (Op.load 27 _) _ _ _ _ :: _) _ _)); refine wpList_load_g (by rfl) 27 _ rfl _ rfl (B.out.keep0 F3.out).gets.all ?_)
    | (go_at_call 47; refine (Rename_any _ _ ta3 { data := #[97] } { data := #[97] } w3 (O.out.v.keep0 F3.out) fa3 (by decide) (by decide)).mono ?_; intro r x4 hr; obtain ⟨vr4, vl4, rfl, o1, f1⟩ := hr.is kc4)
    | ((with_reducible (show wpList _ _ _ (Oper.mk _ (Op.alloc 27) _ _ _ _ :: _) _ _)); refine wpList_val rfl (exec_alloc27 rfl _) ?_)
    | ((with_reducible (show wpList _ _ _ (Oper.mk _ (Op.store 27 _ _) _ _ _ _ :: _) _ _)); refine wpList_store27 rfl (.tmp 9) (.tmp 53) rfl o1.ones.1 o1.ones.2 (TB.new x4 nilS nilS zeroT) rfl rfl ?_; intro w4 b2 f2))
  have f12 : Frm [] x4 w4 := ((Frm.refl [] x4).alloc _).trans f2 (fun i hi => .inr (by simp at hi; omega))
  have B4 := Lib.hid b2
  have O4 := Lib.hid (o1.keep0 f12)
  have F4 := Lib.hid (show Frm [] W w4 from (F3.out.trans f1 (by simp)).trans f12 (by simp))
  have G4 := Lib.hid (show Frm [] w3 w4 from f1.trans f12 (by simp))
  clear b2 f2 o1 f1 f12 hr
  generalize x4.heap.size = g4 at *
  have BU := Lib.hid ((B1.out.keep0 ((G2.out.trans G3.out (by simp)).trans G4.out (by simp))).gets.all)
  have OU := Lib.hid (O1.out.v.keep0 ((G2.out.trans G3.out (by simp)).trans G4.out (by simp)))
  have SA := Lib.hid (sle_newS w4 [{ data := #[98] }, { data := #[99] }, { data := #[99, 64, 120] }] #[.string { data := #[98] }, .string { data := #[99] }, .string { data := #[99, 64, 120] }] 9 rfl (by decide))
  have NA := Lib.hid (names_any vr1 vl1 (.slice (some ⟨w4.heap.size, 0, none⟩) 3 3) tu [{ data := #[98] }, { data := #[99] }, { data := #[99, 64, 120] }] [] (w4.alloc (.cells #[.string { data := #[98] }, .string { data := #[99] }, .string { data := #[99, 64, 120] }] 9)) (OU.out.keep0 ((Frm.refl [] w4).alloc _)) SA.out (by decide) (by decide))
  rw [kc5] at NA
  go_upto_region 9 with (first
    | ((with_reducible (show wpList _ _ _ (Oper.mk _ (Op.load 27 _) _ _ _ _ :: _) _ _)); refine wpList_load_g (by rfl) 27 _ rfl _ rfl BU.out ?_)
    | (go_at_call 48; refine NA.out.mono ?_; rintro r w5 ⟨rfl, fn⟩))
  have F5 := Lib.hid (F4.out.trans (((Frm.refl [] w4).alloc _).trans fn (by simp)) (by simp))
  clear fn
  go_upto_region 10 with (first
    | ((with_reducible (show wpList _ _ _ (Oper.mk _ (Op.load 27 _) _ _ _ _ :: _) _ _)); refine wpList_load_g (by rfl) 27 _ rfl _ rfl (B.out.keep0 F5.out).gets.all ?_)
    | (go_at_call 49; refine (Resize_any _ _ ta3 { data := #[97, 64, 120] } 5 w5 (O.out.v.keep0 F5.out) fa3 (by decide)).mono ?_; intro r x6 hr; obtain ⟨vr6, vl6, rfl, o1, f1⟩ := hr.is kc6)
    | ((with_reducible (show wpList _ _ _ (Oper.mk _ (Op.alloc 27) _ _ _ _ :: _) _ _)); refine wpList_val rfl (exec_alloc27 rfl _) ?_)
    | ((with_reducible (show wpList _ _ _ (Oper.mk _ (Op.store 27 _ _) _ _ _ _ :: _) _ _)); refine wpList_store27 rfl (.tmp 12) (.tmp 77) rfl o1.ones.1 o1.ones.2 (TB.new x6 nilS nilS zeroT) rfl rfl ?_; intro w6 b2 f2))
  have f12 : Frm [] x6 w6 := ((Frm.refl [] x6).alloc _).trans f2 (fun i hi => .inr (by simp at hi; omega))
  have B6 := Lib.hid b2
  have O6 := Lib.hid (o1.keep0 f12)
  have F6 := Lib.hid (show Frm [] W w6 from (F5.out.trans f1 (by simp)).trans f12 (by simp))
  have G6 := Lib.hid (show Frm [] w5 w6 from f1.trans f12 (by simp))
  clear b2 f2 o1 f1 f12 hr
  generalize x6.heap.size = g6 at *
  go_upto_region 11 with (first
    | ((with_reducible (show wpList _ _ _ (Oper.mk _ (Op.load 27 _) _ _ _ _ :: _) _ _)); refine wpList_load_g (by rfl) 27 _ rfl _ rfl (B.out.keep0 F6.out).gets.all ?_)
    | (go_at_call 50; refine (Limit_any _ _ ta3 { data := #[97] } 65 0 w6 (O.out.v.keep0 F6.out) fa3 (by decide)).mono ?_; intro r x7 hr; obtain ⟨vr7, vl7, rfl, o1, f1⟩ := hr.is kc7)
    | ((with_reducible (show wpList _ _ _ (Oper.mk _ (Op.alloc 27) _ _ _ _ :: _) _ _)); refine wpList_val rfl (exec_alloc27 rfl _) ?_)
    | ((with_reducible (show wpList _ _ _ (Oper.mk _ (Op.store 27 _ _) _ _ _ _ :: _) _ _)); refine wpList_store27 rfl (.tmp 14) (.tmp 82) rfl o1.ones.1 o1.ones.2 (TB.new x7 nilS nilS zeroT) rfl rfl ?_; intro w7 b2 f2))
  have f12 : Frm [] x7 w7 := ((Frm.refl [] x7).alloc _).trans f2 (fun i hi => .inr (by simp at hi; omega))
  have B7 := Lib.hid b2
  have O7 := Lib.hid (o1.keep0 f12)
  have F7 := Lib.hid (show Frm [] W w7 from (F6.out.trans f1 (by simp)).trans f12 (by simp))
  have G7 := Lib.hid (show Frm [] w6 w7 from f1.trans f12 (by simp))
  clear b2 f2 o1 f1 f12 hr
  generalize x7.heap.size = g7 at *
  go_upto_region 12 with (first
    | ((with_reducible (show wpList _ _ _ (Oper.mk _ (Op.load 27 _) _ _ _ _ :: _) _ _)); refine wpList_load_g (by rfl) 27 _ rfl _ rfl (B.out.keep0 F7.out).gets.all ?_)
    | (go_at_call 51; refine (Make_any _ _ ta3 { data := #[97, 64, 98] } 1 1 w7 (O.out.v.keep0 F7.out) fa3 (by decide)).mono ?_; intro r x8 hr; obtain ⟨vr8, vl8, rfl, o1, f1⟩ := hr.is kc8)
    | ((with_reducible (show wpList _ _ _ (Oper.mk _ (Op.alloc 27) _ _ _ _ :: _) _ _)); refine wpList_val rfl (exec_alloc27 rfl _) ?_)
    | ((with_reducible (show wpList _ _ _ (Oper.mk _ (Op.store 27 _ _) _ _ _ _ :: _) _ _)); refine wpList_store27 rfl (.tmp 16) (.tmp 87) rfl o1.ones.1 o1.ones.2 (TB.new x8 nilS nilS zeroT) rfl rfl ?_; intro w8 b2 f2))
  have f12 : Frm [] x8 w8 := ((Frm.refl [] x8).alloc _).trans f2 (fun i hi => .inr (by simp at hi; omega))
  have B8 := Lib.hid b2
  have O8 := Lib.hid (o1.keep0 f12)
  have F8 := Lib.hid (show Frm [] W w8 from (F7.out.trans f1 (by simp)).trans f12 (by simp))
  have G8 := Lib.hid (show Frm [] w7 w8 from f1.trans f12 (by simp))
  clear b2 f2 o1 f1 f12 hr
  generalize x8.heap.size = g8 at *
  go_upto_region 13 with (first
    | ((with_reducible (show wpList _ _ _ (Oper.mk _ (Op.load 27 _) _ _ _ _ :: _) _ _)); refine wpList_load_g (by rfl) 27 _ rfl _ rfl (B.out.keep0 F8.out).gets.all ?_)
    | (go_at_call 52; refine (Snap_any _ _ ta3 { data := #[122, 64, 120] } 1 w8 (O.out.v.keep0 F8.out) fa3 (by decide)).mono ?_; intro r x9 hr; obtain ⟨vr9, vl9, rfl, o1, f1⟩ := hr.is kc9)
    | ((with_reducible (show wpList _ _ _ (Oper.mk _ (Op.alloc 27) _ _ _ _ :: _) _ _)); refine wpList_val rfl (exec_alloc27 rfl _) ?_)
    | ((with_reducible (show wpList _ _ _ (Oper.mk _ (Op.store 27 _ _) _ _ _ _ :: _) _ _)); refine wpList_store27 rfl (.tmp 18) (.tmp 92) rfl o1.ones.1 o1.ones.2 (TB.new x9 nilS nilS zeroT) rfl rfl ?_; intro w9 b2 f2))
  have f12 : Frm [] x9 w9 := ((Frm.refl [] x9).alloc _).trans f2 (fun i hi => .inr (by simp at hi; omega))
  have B9 := Lib.hid b2
  have O9 := Lib.hid (o1.keep0 f12)
  have F9 := Lib.hid (show Frm [] W w9 from (F8.out.trans f1 (by simp)).trans f12 (by simp))
  have G9 := Lib.hid (show Frm [] w8 w9 from f1.trans f12 (by simp))
  clear b2 f2 o1 f1 f12 hr
  generalize x9.heap.size = g9 at *
  go_upto_region 14 with (first
    | ((with_reducible (show wpList _ _ _ (Oper.mk _ (Op.load 27 _) _ _ _ _ :: _) _ _)); refine wpList_load_g (by rfl) 27 _ rfl _ rfl (B.out.keep0 F9.out).gets.all ?_)
    | (go_at_call 51; refine (Make_any _ _ ta3 { data := #[98] } 4 4 w9 (O.out.v.keep0 F9.out) fa3 (by decide)).mono ?_; intro r x10 hr; obtain ⟨vr10, vl10, rfl, o1, f1⟩ := hr.is kc10)
    | ((with_reducible (show wpList _ _ _ (Oper.mk _ (Op.alloc 27) _ _ _ _ :: _) _ _)); refine wpList_val rfl (exec_alloc27 rfl _) ?_)
    | ((with_reducible (show wpList _ _ _ (Oper.mk _ (Op.store 27 _ _) _ _ _ _ :: _) _ _)); refine wpList_store27 rfl (.tmp 20) (.tmp 97) rfl o1.ones.1 o1.ones.2 (TB.new x10 nilS nilS zeroT) rfl rfl ?_; intro w10 b2 f2))
  have f12 : Frm [] x10 w10 := ((Frm.refl [] x10).alloc _).trans f2 (fun i hi => .inr (by simp at hi; omega))
  have B10 := Lib.hid b2
  have O10 := Lib.hid (o1.keep0 f12)
  have F10 := Lib.hid (show Frm [] W w10 from (F9.out.trans f1 (by simp)).trans f12 (by simp))
  have G10 := Lib.hid (show Frm [] w9 w10 from f1.trans f12 (by simp))
  clear b2 f2 o1 f1 f12 hr
  generalize x10.heap.size = g10 at *
  go_upto_region 15 with (fail)
  go_upto_region 16 with (first
    | ((with_reducible (show wpList _ _ _ (Oper.mk _ (Op.load 27 _) _ _ _ _ :: _) _ _)); refine wpList_load_g (by rfl) 27 _ rfl _ rfl (B.out.keep0 F10.out).gets.all ?_)
    | (go_at_call 52; refine (Snap_any _ _ ta3 { data := #[97, 64, 121] } 4 w10 (O.out.v.keep0 F10.out) fa3 (by decide)).mono ?_; intro r x11 hr; obtain ⟨vr11, vl11, rfl, o1, f1⟩ := hr.is kc11)
    | ((with_reducible (show wpList _ _ _ (Oper.mk _ (Op.alloc 27) _ _ _ _ :: _) _ _)); refine wpList_val rfl (exec_alloc27 rfl _) ?_)
    | ((with_reducible (show wpList _ _ _ (Oper.mk _ (Op.store 27 _ _) _ _ _ _ :: _) _ _)); refine wpList_store27 rfl (.tmp 23) (.tmp 120) rfl o1.ones.1 o1.ones.2 (TB.new x11 nilS nilS zeroT) rfl rfl ?_; intro w11 b2 f2))
  have f12 : Frm [] x11 w11 := ((Frm.refl [] x11).alloc _).trans f2 (fun i hi => .inr (by simp at hi; omega))
  have B11 := Lib.hid b2
  have O11 := Lib.hid (o1.keep0 f12)
  have F11 := Lib.hid (show Frm [] W w11 from (F10.out.trans f1 (by simp)).trans f12 (by simp))
  have G11 := Lib.hid (show Frm [] w10 w11 from f1.trans f12 (by simp))
  clear b2 f2 o1 f1 f12 hr
  generalize x11.heap.size = g11 at *
  go_upto_region 17 with (first
    | ((with_reducible (show wpList _ _ _ (Oper.mk _ (Op.load 27 _) _ _ _ _ :: _) _ _)); refine wpList_load_g (by rfl) 27 _ rfl _ rfl (B11.out).gets.all ?_)
    | (go_at_call 53; refine (Rollback_any _ _ tv4 { data := #[97, 64, 120] } w11 O11.out.v fv4 (by decide)).mono ?_; intro r x12 hr; obtain ⟨vr12, vl12, rfl, o1, f1⟩ := hr.is kc12)
    | ((with_reducible (show wpList _ _ _ (Oper.mk _ (Op.alloc 27) _ _ _ _ :: _) _ _)); refine wpList_val rfl (exec_alloc27 rfl _) ?_)
    | ((with_reducible (show wpList _ _ _ (Oper.mk _ (Op.store 27 _ _) _ _ _ _ :: _) _ _)); refine wpList_store27 rfl (.tmp 25) (.tmp 125) rfl o1.ones.1 o1.ones.2 (TB.new x12 nilS nilS zeroT) rfl rfl ?_; intro w12 b2 f2))
  have f12 : Frm [] x12 w12 := ((Frm.refl [] x12).alloc _).trans f2 (fun i hi => .inr (by simp at hi; omega))
  have B12 := Lib.hid b2
  have O12 := Lib.hid (o1.keep0 f12)
  have F12 := Lib.hid (show Frm [] W w12 from (F11.out.trans f1 (by simp)).trans f12 (by simp))
  have G12 := Lib.hid (show Frm [] w11 w12 from f1.trans f12 (by simp))
  clear b2 f2 o1 f1 f12 hr
  generalize x12.heap.size = g12 at *
  go_upto_region 18 with (first
    | ((with_reducible (show wpList _ _ _ (Oper.mk _ (Op.load 27 _) _ _ _ _ :: _) _ _)); refine wpList_load_g (by rfl) 27 _ rfl _ rfl (B11.out.keep0 G12.out).gets.all ?_)
    | (go_at_call 53; refine (Rollback_any _ _ tv4 { data := #[97, 64, 121] } w12 (O11.out.v.keep0 G12.out) fv4 (by decide)).mono ?_; intro r x13 hr; obtain ⟨vr13, vl13, rfl, o1, f1⟩ := hr.is kc13)
    | ((with_reducible (show wpList _ _ _ (Oper.mk _ (Op.alloc 27) _ _ _ _ :: _) _ _)); refine wpList_val rfl (exec_alloc27 rfl _) ?_)
    | ((with_reducible (show wpList _ _ _ (Oper.mk _ (Op.store 27 _ _) _ _ _ _ :: _) _ _)); refine wpList_store27 rfl (.tmp 27) (.tmp 130) rfl o1.ones.1 o1.ones.2 (TB.new x13 nilS nilS zeroT) rfl rfl ?_; intro w13 b2 f2))
  have f12 : Frm [] x13 w13 := ((Frm.refl [] x13).alloc _).trans f2 (fun i hi => .inr (by simp at hi; omega))
  have B13 := Lib.hid b2
  have O13 := Lib.hid (o1.keep0 f12)
  have F13 := Lib.hid (show Frm [] W w13 from (F12.out.trans f1 (by simp)).trans f12 (by simp))
  have G13 := Lib.hid (show Frm [] w12 w13 from f1.trans f12 (by simp))
  clear b2 f2 o1 f1 f12 hr
  generalize x13.heap.size = g13 at *
  go_wp2_with (go_at_call 39; refine (awakeD_any w13).mono ?_; rintro r w14 ⟨rfl, f14⟩)
  go_ret
  exact ⟨rfl, (F.out.trans F13.out (by simp)).trans f14 (by simp)⟩
end Go.Proofs.YtljhanhipmnioaaGreat.Rd
