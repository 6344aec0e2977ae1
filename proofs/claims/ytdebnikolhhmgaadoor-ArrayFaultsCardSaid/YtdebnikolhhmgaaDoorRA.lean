/-
  What a row's own condition gives the walks: the six sentinels; an act. No conditions but those that each theorem names.
-/
import Derived.Test.YtdebnikolhhmgaaDoorBU
import Derived.Test.YtdebnikolhhmgaaDoorTie
import Derived.Test.YtdebnikolhhmgaaDoorCards
import Derived.ProofKit
import Derived.OpenShut
import Derived.ShutString
import Derived.ChangeOld
import Derived.LaidMore
import Derived.Stop.Joined
import Derived.SevenTiedAt
import Derived.Stop.LaidTwo
import Derived.Deep.Slices
import Derived.ChangeSame
namespace Go.Proofs.YtdebnikolhhmgaaDoor
open Go.ChangeShapes Go.WideShapes Go.ChangeAt Go.RowKit
open Go.Deep
set_option linter.unusedVariables false
set_option linter.unusedSimpArgs false
set_option maxRecDepth 100000

open Kr (OwnE SlE Enco RowTys)
theorem own : ownKnob Tryd.prog.godebug = none := by kernel_rfl
theorem laidOut : laidOutB Tryd.prog = true := by kernel_rfl
def laidA : List (String × DataW Unit) := [("caulker/array.errNil", Rows.laid_caulker_array_errNil), ("caulker/array.errBroken", Rows.laid_caulker_array_errBroken), ("caulker/array.errRange", Rows.laid_caulker_array_errRange), ("caulker/array.errArg", Rows.laid_caulker_array_errArg), ("caulker/array.errGone", Rows.laid_caulker_array_errGone), ("caulker/array.errIO", Rows.laid_caulker_array_errIO)]
theorem gS0 : Tryd.prog.globalNamed "caulker/array.errArg" = some 0 := by kernel_rfl
theorem tS0 : (Tryd.prog.globals[0]?).map (·.type) = some 70 := by kernel_rfl
theorem gS1 : Tryd.prog.globalNamed "caulker/array.errNil" = some 1 := by kernel_rfl
theorem tS1 : (Tryd.prog.globals[1]?).map (·.type) = some 70 := by kernel_rfl
theorem gS2 : Tryd.prog.globalNamed "caulker/array.errBroken" = some 2 := by kernel_rfl
theorem tS2 : (Tryd.prog.globals[2]?).map (·.type) = some 70 := by kernel_rfl
theorem gS3 : Tryd.prog.globalNamed "caulker/array.errRange" = some 3 := by kernel_rfl
theorem tS3 : (Tryd.prog.globals[3]?).map (·.type) = some 70 := by kernel_rfl
theorem gS4 : Tryd.prog.globalNamed "caulker/array.errGone" = some 4 := by kernel_rfl
theorem tS4 : (Tryd.prog.globals[4]?).map (·.type) = some 70 := by kernel_rfl
theorem gS5 : Tryd.prog.globalNamed "caulker/array.errIO" = some 5 := by kernel_rfl
theorem tS5 : (Tryd.prog.globals[5]?).map (·.type) = some 70 := by kernel_rfl
theorem star : "*" ++ "errors.errorString" = "*errors.errorString" := by decide
theorem row126 (u : TypeId) (h : Tryd.prog.typeName? 3 u = some "*errors.errorString") : u = 126 :=
  typeName_ptr_named (nm := "errors.errorString") (by rw [star]; kernel_rfl) (by kernel_rfl) (by decide) u (by rw [star]; exact h)
theorem ce151 : Tryd.prog.cellsOf 151 = 1 := by kernel_rfl
theorem ce9 : Tryd.prog.cellsOf 9 = 1 := by kernel_rfl
def txS : Nat → List UInt8
  | 0 => [109, 97, 121, 32, 110, 111, 116, 32, 98, 101]
  | 1 => [110, 111, 116, 32, 109, 97, 100, 101, 32, 98, 121, 32, 78, 101, 119]
  | 2 => [110, 111, 116, 104, 105, 110, 103, 32, 109, 111, 114, 101, 32, 105, 115, 32, 100, 111, 110, 101]
  | 3 => [110, 111, 110, 101, 32, 111, 102, 32, 116, 104, 97, 116, 32, 110, 117, 109, 98, 101, 114]
  | 4 => [103, 111, 110, 101]
  | _ => [114, 101, 102, 117, 115, 101, 100]
theorem txS_inj : ∀ i, i < 6 → ∀ j, j < 6 → txS i = txS j → i = j := by decide
/-- A sentinel as it lies. -/
def SnAt (W : World) (k : Nat) (x : Addr) : Prop := W.cell? ⟨k, 0, none⟩ = some (.iface 126 (.pointer (some x))) ∧ (∃ s, W.cell? x = some (.string s) ∧ s.data.toList = txS k) ∧ ∃ c t, W.heap[x.block]? = some (.cells c t (0, 0))
theorem sens_of_laid {W : World} (h : laidMetH Tryd.prog laidA W) : ∃ sn, Sn W W.heap.size sn := by
  rw [MakeChecks.laidMetH_plain _ _ _ (by kernel_rfl)] at h
  unfold laidA at h
  have h0 := h
  have h1 := h0.tail
  have h2 := h1.tail
  have h3 := h2.tail
  have h4 := h3.tail
  unfold Rows.laid_caulker_array_errNil Rows.laid_caulker_array_errBroken at h0
  obtain ⟨a0, b0, s0, r0, c0, e0, y0, z0, va0, vb0, ca0, ta0, _, cb0, tb0, _, _, ha0, hb0⟩ := laid_sentinels2 h0 gS1 tS1 gS2 tS2 Tryd.underlying70 row126 Tryd.underlying126 Tryd.underlying151 rfl rfl Tryd.underlying9 ce151 ce9
  unfold Rows.laid_caulker_array_errBroken Rows.laid_caulker_array_errRange at h1
  obtain ⟨a1, b1, s1, r1, c1, e1, y1, z1, va1, vb1, ca1, ta1, _, cb1, tb1, _, _, ha1, hb1⟩ := laid_sentinels2 h1 gS2 tS2 gS3 tS3 Tryd.underlying70 row126 Tryd.underlying126 Tryd.underlying151 rfl rfl Tryd.underlying9 ce151 ce9
  unfold Rows.laid_caulker_array_errRange Rows.laid_caulker_array_errArg at h2
  obtain ⟨a2, b2, s2, r2, c2, e2, y2, z2, va2, vb2, ca2, ta2, _, cb2, tb2, _, _, ha2, hb2⟩ := laid_sentinels2 h2 gS3 tS3 gS0 tS0 Tryd.underlying70 row126 Tryd.underlying126 Tryd.underlying151 rfl rfl Tryd.underlying9 ce151 ce9
  unfold Rows.laid_caulker_array_errArg Rows.laid_caulker_array_errGone at h3
  obtain ⟨a3, b3, s3, r3, c3, e3, y3, z3, va3, vb3, ca3, ta3, _, cb3, tb3, _, _, ha3, hb3⟩ := laid_sentinels2 h3 gS0 tS0 gS4 tS4 Tryd.underlying70 row126 Tryd.underlying126 Tryd.underlying151 rfl rfl Tryd.underlying9 ce151 ce9
  unfold Rows.laid_caulker_array_errGone Rows.laid_caulker_array_errIO at h4
  obtain ⟨a4, b4, s4, r4, c4, e4, y4, z4, va4, vb4, ca4, ta4, _, cb4, tb4, _, _, ha4, hb4⟩ := laid_sentinels2 h4 gS4 tS4 gS5 tS5 Tryd.underlying70 row126 Tryd.underlying126 Tryd.underlying151 rfl rfl Tryd.underlying9 ce151 ce9
  have n0 : SnAt W 0 b2 := ⟨by simpa using World.var?_cell gS0 vb2 0, ⟨_, cb2, tb2⟩, ⟨_, _, hb2⟩⟩
  have n1 : SnAt W 1 a0 := ⟨by simpa using World.var?_cell gS1 va0 0, ⟨_, ca0, ta0⟩, ⟨_, _, ha0⟩⟩
  have n2 : SnAt W 2 b0 := ⟨by simpa using World.var?_cell gS2 vb0 0, ⟨_, cb0, tb0⟩, ⟨_, _, hb0⟩⟩
  have n3 : SnAt W 3 b1 := ⟨by simpa using World.var?_cell gS3 vb1 0, ⟨_, cb1, tb1⟩, ⟨_, _, hb1⟩⟩
  have n4 : SnAt W 4 b3 := ⟨by simpa using World.var?_cell gS4 vb3 0, ⟨_, cb3, tb3⟩, ⟨_, _, hb3⟩⟩
  have n5 : SnAt W 5 b4 := ⟨by simpa using World.var?_cell gS5 vb4 0, ⟨_, cb4, tb4⟩, ⟨_, _, hb4⟩⟩
  have hall : ∀ i, i < 6 → SnAt W i (match i with | 0 => b2 | 1 => a0 | 2 => b0 | 3 => b1 | 4 => b3 | _ => b4) := fun i hi => by
    match i, hi with
    | 0, _ => exact n0
    | 1, _ => exact n1
    | 2, _ => exact n2
    | 3, _ => exact n3
    | 4, _ => exact n4
    | 5, _ => exact n5
  refine ⟨fun i => match i with | 0 => b2 | 1 => a0 | 2 => b0 | 3 => b1 | 4 => b3 | _ => b4, ⟨fun i hi => (hall i hi).1, fun i hi => (hall i hi).2.2, fun i hi => ?_, ?_, fun i j hi hj e => ?_⟩⟩
  · obtain ⟨_, _, c, t, h⟩ := hall i hi
    exact lt_heap h
  · have := World.block_lt_of_cell? _ _ n5.1
    simp only at this
    omega
  · obtain ⟨_, ⟨s, h1, h2⟩, _⟩ := hall i hi
    obtain ⟨_, ⟨s', h1', h2'⟩, _⟩ := hall j hj
    rw [e, h1'] at h1
    simp only [Option.some.injEq, Value.string.injEq] at h1
    rw [h1, h2] at h2'
    exact txS_inj i hi j hj h2'
theorem doorA_met (os : Os) (args : Array Value) : laidMetH Tryd.prog laidA ((World.doorLaid Tryd.prog 400 os).forCall (fun _ _ => 0) ⟨#[], args, []⟩).memory :=
  laidMetH_of_parts3 (fuel := 8) (laidMet_of_run' 8 (by kernel_rfl) (by kernel_rfl)) (by kernel_rfl) (by kernel_rfl)
end Go.Proofs.YtdebnikolhhmgaaDoor
