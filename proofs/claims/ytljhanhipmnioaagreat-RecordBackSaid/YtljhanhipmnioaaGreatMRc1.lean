/-
  Boxes of records, field by field. No conditions but those that each theorem names.
-/
import Derived.Test.YtljhanhipmnioaaGreatMRa1
import Derived.Test.YtljhanhipmnioaaGreatMRa2
import Derived.Test.YtljhanhipmnioaaGreatMRa3
import Derived.Test.YtljhanhipmnioaaGreatMRa4
import Derived.Test.YtljhanhipmnioaaGreatMRa5
import Derived.Test.YtljhanhipmnioaaGreatMRa6
import Derived.Test.YtljhanhipmnioaaGreatMRa7
import Derived.Test.YtljhanhipmnioaaGreatMRa8
import Derived.Test.YtljhanhipmnioaaGreatMRa9
import Derived.Test.YtljhanhipmnioaaGreatMRa10
import Derived.OrdersHeld
import Derived.WalkKit
import Derived.WalkSpells
import Derived.WalkLawsBesides
import Derived.Deep.AppendSrc
import Derived.Laws.CopyOwn
import Derived.Laws.BytesArg
import Derived.Carry
import Derived.Laws.BytesString
import Derived.Deep.SlicePairs
import Derived.Deep.Cut
import Derived.Lib.Hide
import Derived.Test.YtljhanhipmnioaaGreatChecked
import Derived.ChangeKeysEq
import Derived.Deep.MidRow
import Derived.Deep.RegionHeld3
import Derived.OpenShut
import Derived.WalkHide
import Derived.IntWalk
import Derived.StillTailTactics
import Derived.Deep.RegionLaw
import Derived.Deep.RegionWith
import Derived.Deep.QuietTactic
import Derived.BigQuiet
import Derived.Deep.CutBlock
import Derived.Deep.DeepCutAuto
import Derived.Deep.Slices
import Derived.Defers
import Derived.Recover
import Derived.Deep.WholeRow
import Derived.Lib.Bytealg
import Derived.Lib.TrimUEq
import Derived.Lib.MinMaxS
import Derived.LaidEqlPtr
import Derived.Lib.OthersKept
import Derived.Deep.Draws
import Derived.WalkMore
import Derived.Deep.LoopGhost
import Derived.Lib.BufferWrite
import Derived.Lib.UnsafeStr
import Derived.Laws.MakeOwn
import Derived.Laws.Strings3
import Derived.BigRegion
import Derived.Lib.Walk
import Derived.Great.Walk
namespace Go.Proofs.YtljhanhipmnioaaGreat.Rd
open Go.RowKit
set_option linter.unusedVariables false
set_option linter.unusedSimpArgs false
set_option maxRecDepth 100000

open Pt (Pt may enc readPt readE zeroPt be4 be1 pc pv PtV SlA OwnA BT wpList_load_g heap_alloc_at lst_slB one_slB Ext Grew exec_slice_lh yieldsIf_ld)
open Kr (OwnE SlE Enco RowTys)
section
variable {w w' : World} {g : Nat} {T : TypeId} {cs pre row post : List Value} {o : Nat} {L : List Nat}
end

theorem RB.setc {w : World} {g i : Nat} {v u : Value} {x x' : Rec} (h : RB w g v x) (hr : x'.root = x.root) (he : rc v x' = (rc v x).set i u) : RB (w.setCell ⟨g, i, none⟩ u) g v x' := by
  refine ⟨?_, by rw [hr]; exact h.2⟩
  rw [heap_setCell_same u h.1, List.setIfInBounds_toArray, he]
theorem RB.setSize {w : World} {g : Nat} {v : Value} {x : Rec} (h : RB w g v x) (n : Int) : RB (w.setCell ⟨g, 3, none⟩ (.int .i64 n)) g v (withSize x n) := h.setc rfl (rfl)
theorem RB.setName {w : World} {g : Nat} {v : Value} {x : Rec} (h : RB w g v x) (s : ByteArray) : RB (w.setCell ⟨g, 1, none⟩ (.string s)) g v (withName x s) := h.setc rfl rfl
end Go.Proofs.YtljhanhipmnioaaGreat.Rd
