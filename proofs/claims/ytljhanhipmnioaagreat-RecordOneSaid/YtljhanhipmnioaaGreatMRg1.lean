/-
  Tells. No conditions but those that each theorem names.
-/
import Derived.Test.YtljhanhipmnioaaGreatMRa1
import Derived.Test.YtljhanhipmnioaaGreatMRa2
import Derived.Test.YtljhanhipmnioaaGreatMRa3
import Derived.Test.YtljhanhipmnioaaGreatMRa4
import Derived.Test.YtljhanhipmnioaaGreatMRa5
import Derived.Test.YtljhanhipmnioaaGreatMRa6
import Derived.Test.YtljhanhipmnioaaGreatMRa7
import Derived.Test.YtljhanhipmnioaaGreatMRa8
import Derived.Test.YtljhanhipmnioaaGreatMRa9
import Derived.Test.YtljhanhipmnioaaGreatMRa10
import Derived.Test.YtljhanhipmnioaaGreatMRb1
import Derived.Test.YtljhanhipmnioaaGreatMRd1
import Derived.OrdersHeld
import Derived.WalkKit
import Derived.WalkSpells
import Derived.WalkLawsBesides
import Derived.Deep.AppendSrc
import Derived.Laws.CopyOwn
import Derived.Laws.BytesArg
import Derived.Carry
import Derived.Laws.BytesString
import Derived.Deep.SlicePairs
import Derived.Deep.Cut
import Derived.Lib.Hide
import Derived.Test.YtljhanhipmnioaaGreatChecked
import Derived.ChangeKeysEq
import Derived.Deep.MidRow
import Derived.Deep.RegionHeld3
import Derived.OpenShut
import Derived.WalkHide
import Derived.IntWalk
import Derived.StillTailTactics
import Derived.Deep.RegionLaw
import Derived.Deep.RegionWith
import Derived.Deep.QuietTactic
import Derived.BigQuiet
import Derived.Deep.CutBlock
import Derived.Deep.DeepCutAuto
import Derived.Deep.Slices
import Derived.Defers
import Derived.Recover
import Derived.Deep.WholeRow
import Derived.Lib.Bytealg
import Derived.Lib.TrimUEq
import Derived.Lib.MinMaxS
import Derived.LaidEqlPtr
import Derived.Lib.OthersKept
import Derived.Deep.Draws
import Derived.WalkMore
import Derived.Deep.LoopGhost
import Derived.Lib.BufferWrite
import Derived.Lib.UnsafeStr
import Derived.Laws.MakeOwn
import Derived.Laws.Strings3
import Derived.BigRegion
import Derived.Lib.Walk
import Derived.Great.Walk
namespace Go.Proofs.YtljhanhipmnioaaGreat.Rd
open Go.RowKit
set_option linter.unusedVariables false
set_option linter.unusedSimpArgs false
set_option maxRecDepth 100000

open Pt (Pt may enc readPt readE zeroPt be4 be1 pc pv PtV SlA OwnA BT wpList_load_g heap_alloc_at lst_slB one_slB Ext Grew exec_slice_lh yieldsIf_ld)
open Kr (OwnE SlE Enco RowTys)

/-- A table by value, laid into a variable behind another one. -/
theorem wpList_lay27 {ops : Array Oper} {rest : List Oper} {o1 o3 : Oper} {a : Act} {W : World} {Q : Exit → Act → World → Prop} (g1 : o1.guard = none) (g3 : o3.guard = none)
    (h1 : o1.op = .alloc 27) (p x : Operand) (h3 : o3.op = .store 27 p x) {vr vl : Value} {t : Tab} (k1 : vr.oneCell' = true) (k2 : vl.oneCell' = true)
    (e1 : (a.put o1.dst (.pointer (some ⟨W.heap.size, 0, none⟩))).eval p = .pointer (some ⟨W.heap.size, 0, none⟩))
    (e2 : (a.put o1.dst (.pointer (some ⟨W.heap.size, 0, none⟩))).eval x = tv vr vl t)
    (k : ∀ V, TB V W.heap.size vr vl t → Frm [] W V → wpList Tryz.prog ops Q rest ((a.put o1.dst (.pointer (some ⟨W.heap.size, 0, none⟩))).put o3.dst undef) V) :
    wpList Tryz.prog ops Q (o1 :: o3 :: rest) a W := by
  refine wpList_val g1 (exec_alloc27 h1 _) ?_
  refine wpList_store27 g3 p x h3 k1 k2 (TB.new W nilS nilS zeroT) e1 e2 ?_
  intro V b f
  exact k V b (((Frm.refl [] W).alloc _).trans f (fun i hi => by simp at hi; omega))
end Go.Proofs.YtljhanhipmnioaaGreat.Rd
