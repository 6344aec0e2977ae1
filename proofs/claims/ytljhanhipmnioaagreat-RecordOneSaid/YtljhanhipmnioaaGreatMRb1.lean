/-
  A table is copied. No conditions but those that each theorem names. Reads. No conditions but those that each theorem names.
-/
import Derived.Test.YtljhanhipmnioaaGreatMRa1
import Derived.Test.YtljhanhipmnioaaGreatMRa2
import Derived.Test.YtljhanhipmnioaaGreatMRa3
import Derived.Test.YtljhanhipmnioaaGreatMRa4
import Derived.Test.YtljhanhipmnioaaGreatMRa5
import Derived.Test.YtljhanhipmnioaaGreatMRa6
import Derived.Test.YtljhanhipmnioaaGreatMRa7
import Derived.Test.YtljhanhipmnioaaGreatMRa8
import Derived.Test.YtljhanhipmnioaaGreatMRa9
import Derived.Test.YtljhanhipmnioaaGreatMRa10
import Derived.OrdersHeld
import Derived.StillTailTactics
import Derived.WalkKit
import Derived.WalkSpells
import Derived.WalkLawsBesides
import Derived.Deep.AppendSrc
import Derived.Laws.CopyOwn
import Derived.Laws.BytesArg
import Derived.Carry
import Derived.Laws.BytesString
import Derived.Deep.SlicePairs
import Derived.Deep.Cut
import Derived.Lib.Hide
import Derived.Test.YtljhanhipmnioaaGreatChecked
import Derived.ChangeKeysEq
import Derived.Deep.MidRow
import Derived.Deep.RegionHeld3
import Derived.OpenShut
import Derived.WalkHide
import Derived.IntWalk
import Derived.Deep.RegionLaw
import Derived.Deep.RegionWith
import Derived.Deep.QuietTactic
import Derived.BigQuiet
import Derived.Deep.CutBlock
import Derived.Deep.DeepCutAuto
import Derived.Deep.Slices
import Derived.Defers
import Derived.Recover
import Derived.Deep.WholeRow
import Derived.Lib.Bytealg
import Derived.Lib.TrimUEq
import Derived.Lib.MinMaxS
import Derived.LaidEqlPtr
import Derived.Lib.OthersKept
import Derived.Deep.Draws
import Derived.WalkMore
import Derived.Deep.LoopGhost
import Derived.Lib.BufferWrite
import Derived.Lib.UnsafeStr
import Derived.Laws.MakeOwn
import Derived.Laws.Strings3
import Derived.BigRegion
import Derived.Lib.Walk
import Derived.Great.Walk
namespace Go.Proofs.YtljhanhipmnioaaGreat.Rd
open Go.RowKit
set_option linter.unusedVariables false
set_option linter.unusedSimpArgs false
set_option maxRecDepth 100000

open Pt (Pt may enc readPt readE zeroPt be4 be1 pc pv PtV SlA OwnA BT wpList_load_g heap_alloc_at lst_slB one_slB Ext Grew exec_slice_lh yieldsIf_ld)
open Kr (OwnE SlE Enco RowTys)

theorem OwnTb.ones {w0 w : World} {vr vl : Value} {t : Tab} (h : OwnTb w0 w vr vl t) : vr.oneCell' = true ∧ vl.oneCell' = true := by
  obtain ⟨rs, B, sp, h1, h2, h3⟩ := h
  exact ⟨by obtain ⟨_, _, e⟩ := h1.form; rw [e]; rfl, by obtain ⟨_, _, e, _⟩ := h2.sl.form; rw [e]; rfl⟩
section
variable {ops : Array Oper} {o : Oper} {a : Act} {w : World} {K : Act → World → Prop} {Q : Exit → Act → World → Prop} {E : Prop}
end
theorem tcA (vr vl : Value) (t : Tab) : tv vr vl t = .agg (tc vr vl t).toArray := rfl
end Go.Proofs.YtljhanhipmnioaaGreat.Rd

namespace Go.Proofs.YtljhanhipmnioaaGreat.Rd
open Go.RowKit
set_option linter.unusedVariables false
set_option linter.unusedSimpArgs false
set_option maxRecDepth 100000

open Pt (Pt may enc readPt readE zeroPt be4 be1 pc pv PtV SlA OwnA BT wpList_load_g heap_alloc_at lst_slB one_slB Ext Grew exec_slice_lh yieldsIf_ld)
open Kr (OwnE SlE Enco RowTys)

theorem all2_iff {f : Rec → Rec → Bool} (hf : ∀ x y, f x y = true ↔ x = y) : ∀ (l m : List Rec), all2 f l m = true ↔ l = m
  | [], [] => by simp [all2]
  | [], y :: m => by simp [all2]
  | x :: l, [] => by simp [all2]
  | x :: l, y :: m => by simp [all2, hf, all2_iff hf l m]
theorem sameR_iff (x y : Rec) : sameR x y = true ↔ x = y := by
  unfold sameR
  simp only [Bool.and_eq_true, beq_iff_eq, Pt.same_iff]
  constructor
  · rintro ⟨h0, h1, h2, h3, h4, h5, h6, h7, h8, h9⟩
    exact Rec.ext' h0 (ba_ext (by rw [← Go.ByteArray.toList_eq, ← Go.ByteArray.toList_eq]; exact h1)) h2 h3 h4 h5 h6 h7 h8 h9
  · rintro rfl
    simp
theorem sameT_iff (t u : Tab) : sameT t u = true ↔ t = u := by
  unfold sameT curEq
  simp only [Bool.and_eq_true, beq_iff_eq, all2_iff sameR_iff]
  constructor
  · rintro ⟨h0, h1, ⟨k0, k1, k2, k3⟩, h3⟩
    exact Tab.ext' h0 h1 (Cur.ext' k0 k1 k2 k3) h3
  · rintro rfl
    simp
theorem sameT_refl (t : Tab) : sameT t t = true := (sameT_iff t t).2 rfl
theorem TabV.ones {w : World} {vr vl : Value} {t : Tab} (h : TabV w vr vl t) : vr.oneCell' = true ∧ vl.oneCell' = true := by
  obtain ⟨h1, sp, h2⟩ := h
  exact ⟨by obtain ⟨_, _, e⟩ := h1.form; rw [e]; rfl, by obtain ⟨_, _, e, _⟩ := h2.form; rw [e]; rfl⟩
end Go.Proofs.YtljhanhipmnioaaGreat.Rd
