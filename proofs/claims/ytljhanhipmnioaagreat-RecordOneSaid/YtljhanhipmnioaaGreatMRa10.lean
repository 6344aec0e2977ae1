/-
  Reads. No conditions but those that each theorem names. Which tables are too long. No conditions but those that each theorem names. Tells. No conditions but those that each theorem names.
-/
import Derived.Test.YtljhanhipmnioaaGreatMRa1
import Derived.Test.YtljhanhipmnioaaGreatMRa2
import Derived.Test.YtljhanhipmnioaaGreatMRa3
import Derived.Test.YtljhanhipmnioaaGreatMRa4
import Derived.Test.YtljhanhipmnioaaGreatMRa5
import Derived.Test.YtljhanhipmnioaaGreatMRa6
import Derived.Test.YtljhanhipmnioaaGreatMRa7
import Derived.Test.YtljhanhipmnioaaGreatMRa8
import Derived.Test.YtljhanhipmnioaaGreatMRa9
import Derived.OrdersHeld
import Derived.WalkKit
import Derived.WalkSpells
import Derived.WalkLawsBesides
import Derived.Deep.AppendSrc
import Derived.Laws.CopyOwn
import Derived.Laws.BytesArg
import Derived.Carry
import Derived.Laws.BytesString
import Derived.Deep.SlicePairs
import Derived.Deep.Cut
import Derived.Lib.Hide
import Derived.Test.YtljhanhipmnioaaGreatChecked
import Derived.ChangeKeysEq
import Derived.Deep.MidRow
import Derived.Deep.RegionHeld3
import Derived.OpenShut
import Derived.WalkHide
import Derived.IntWalk
import Derived.StillTailTactics
import Derived.Deep.RegionLaw
import Derived.Deep.RegionWith
import Derived.Deep.QuietTactic
import Derived.BigQuiet
import Derived.Deep.CutBlock
import Derived.Deep.DeepCutAuto
import Derived.Deep.Slices
import Derived.Defers
import Derived.Recover
import Derived.Deep.WholeRow
import Derived.Lib.Bytealg
import Derived.Lib.TrimUEq
import Derived.Lib.MinMaxS
import Derived.LaidEqlPtr
import Derived.Lib.OthersKept
import Derived.Deep.Draws
import Derived.WalkMore
import Derived.Deep.LoopGhost
import Derived.Lib.BufferWrite
import Derived.Lib.UnsafeStr
import Derived.Laws.MakeOwn
import Derived.Laws.Strings3
import Derived.BigRegion
import Derived.Lib.Walk
import Derived.Great.Walk
namespace Go.Proofs.YtljhanhipmnioaaGreat.Rd
open Go.RowKit
set_option linter.unusedVariables false
set_option linter.unusedSimpArgs false
set_option maxRecDepth 100000

open Pt (Pt may enc readPt readE zeroPt be4 be1 pc pv PtV SlA OwnA BT wpList_load_g heap_alloc_at lst_slB one_slB Ext Grew exec_slice_lh yieldsIf_ld)
open Kr (OwnE SlE Enco RowTys)

theorem ReadO.own {l : List UInt8} {w w' : World} {r : Ending} (h : ReadO l w r w') : ∃ vr vl, r = .returned (.tuple #[tv vr vl (readT l).1, .agg #[.int .i64 (readT l).2.1, .int .i64 (readT l).2.2]]) ∧ OwnTb w w' vr vl (readT l).1 ∧ FitT (readT l).1 ∧ Frm [] w w' := by
  obtain ⟨vr, vl, rs, B, sp, h1, h2, h3, h4, h5, h6⟩ := h
  exact ⟨vr, vl, h1, ⟨rs, B, sp, h2, h3, h4⟩, h5, h6⟩
end Go.Proofs.YtljhanhipmnioaaGreat.Rd

namespace Go.Proofs.YtljhanhipmnioaaGreat.Rd
open Go.RowKit
set_option linter.unusedVariables false
set_option linter.unusedSimpArgs false
set_option maxRecDepth 100000

open Pt (Pt may enc readPt readE zeroPt be4 be1 pc pv PtV SlA OwnA BT wpList_load_g heap_alloc_at lst_slB one_slB Ext Grew exec_slice_lh yieldsIf_ld)
open Kr (OwnE SlE Enco RowTys)

theorem Rs.max {w : World} {v : Value} {l : List Rec} (h : Rs w v l) : (l.length : Int) ≤ 9223372036854775807 := by
  obtain ⟨rs, sp, hs, hl, _⟩ := h
  obtain ⟨a, cap, _, h1, h2⟩ := hs.form
  simp only [maxLen] at h2
  omega
def SmallR (x : Rec) : Prop := x.name.size ≤ 100 ∧ x.root.ads.length ≤ 20
/-- Tables that the statements go through. -/
def SmallT (t : Tab) : Prop := t.recs.length ≤ 20 ∧ t.lives.length ≤ 20 ∧ ∀ x ∈ t.recs, SmallR x
theorem SmallT.fit {t : Tab} (h : SmallT t) : FitT t := ⟨by have := h.1; omega, by have := h.2.1; omega, fun x hx => ⟨by have := (h.2.2 x hx).2; omega, by have := (h.2.2 x hx).1; omega⟩⟩
instance (x : Rec) : Decidable (SmallR x) := by unfold SmallR; infer_instance
instance (t : Tab) : Decidable (SmallT t) := by unfold SmallT; infer_instance
end Go.Proofs.YtljhanhipmnioaaGreat.Rd

namespace Go.Proofs.YtljhanhipmnioaaGreat.Rd
open Go.RowKit
set_option linter.unusedVariables false
set_option linter.unusedSimpArgs false
set_option maxRecDepth 100000

open Pt (Pt may enc readPt readE zeroPt be4 be1 pc pv PtV SlA OwnA BT wpList_load_g heap_alloc_at lst_slB one_slB Ext Grew exec_slice_lh yieldsIf_ld)
open Kr (OwnE SlE Enco RowTys)

theorem BytesT.own {t : Tab} {w w' : World} {e : Ending} (h : BytesT t w e w') : ∃ a cap sp, e = .returned (.tuple #[.slice a (packT t).length cap, .int .i64 (mayTE t)]) ∧ OwnB 5 w' (.slice a (packT t).length cap) (packT t) sp ∧ Frm [] w w' ∧ ∀ i ∈ blk (.slice a (packT t).length cap), w.heap.size ≤ i := h
theorem TellT.own {t : Tab} {w w' : World} {e : Ending} (h : TellT t w e w') : ∃ vr vl, e = .returned (tv vr vl t) ∧ OwnTb w w' vr vl t ∧ Frm [] w w' := h
end Go.Proofs.YtljhanhipmnioaaGreat.Rd
