/-
  What a row's own condition gives the walks: the addends and the three sentinels. No conditions but those that each theorem names.
-/
import Derived.Test.YtjdejhgfkjeeiaaGreatDoorAZ
import Derived.Test.YtjdejhgfkjeeiaaGreatDoorUR
import Derived.Stop.LaidTwo
namespace Go.Proofs.YtjdejhgfkjeeiaaGreatDoor
open Go.ChangeShapes Go.WideShapes Go.ChangeAt Go.RowKit
set_option linter.unusedVariables false
set_option maxRecDepth 100000
set_option linter.unusedSimpArgs false

def laidU : List (String × DataW Unit) := [("caulker/hash.addends", Rows.laid_caulker_hash_addends), ("caulker/uber.errSize", Rows.laid_caulker_uber_errSize), ("caulker/uber.errBlank", Rows.laid_caulker_uber_errBlank), ("caulker/uber.errDamaged", Rows.laid_caulker_uber_errDamaged)]
theorem globU_of_laid {W : World} (h : laidMetH Tryz.prog laidU W) : Hs.Glob W := by
  rw [MakeChecks.laidMetH_plain _ _ _ (by kernel_rfl)] at h
  unfold laidU at h
  rw [Hs.laid_tab] at h
  have ht := Lib.tabIs_of_head Hs.gAdd Hs.tAdd (Hs.d61) Tryz.underlying104 (by kernel_rfl) (by kernel_rfl) h
  intro i hi
  have hl : Hs.kTab.length = 64 := by kernel_rfl
  rw [ht.cell Hs.gAdd i (by simp [hl]; omega)]
  simp [List.getD_eq_getElem?_getD, List.getElem?_map, List.getElem?_eq_getElem (show i < Hs.kTab.length by omega), Hs.at32]
theorem gS0 : Tryz.prog.globalNamed "caulker/uber.errSize" = some 0 := by kernel_rfl
theorem gS1 : Tryz.prog.globalNamed "caulker/uber.errBlank" = some 1 := by kernel_rfl
theorem gS2 : Tryz.prog.globalNamed "caulker/uber.errDamaged" = some 2 := by kernel_rfl
theorem tS0 : (Tryz.prog.globals[0]?).map (·.type) = some 93 := by kernel_rfl
theorem tS1 : (Tryz.prog.globals[1]?).map (·.type) = some 93 := by kernel_rfl
theorem tS2 : (Tryz.prog.globals[2]?).map (·.type) = some 93 := by kernel_rfl
theorem star : "*" ++ "errors.errorString" = "*errors.errorString" := by decide
theorem row174 (u : TypeId) (h : Tryz.prog.typeName? 3 u = some "*errors.errorString") : u = 212 :=
  typeName_ptr_named (nm := "errors.errorString") (by rw [star]; kernel_rfl) (by kernel_rfl) (by decide) u (by rw [star]; exact h)
theorem ce198 : Tryz.prog.cellsOf 240 = 1 := by kernel_rfl
theorem ce9 : Tryz.prog.cellsOf 9 = 1 := by kernel_rfl
theorem sens_of_laid {W : World} (h : laidMetH Tryz.prog laidU W) : ∃ s0 s1 s2, Sens W s0 s1 s2 := by
  rw [MakeChecks.laidMetH_plain _ _ _ (by kernel_rfl)] at h
  unfold laidU at h
  have h1 := h.tail
  have h2 := h1.tail
  unfold Rows.laid_caulker_uber_errSize Rows.laid_caulker_uber_errBlank at h1
  unfold Rows.laid_caulker_uber_errBlank Rows.laid_caulker_uber_errDamaged at h2
  obtain ⟨a0, a1, t0, t1, c0, c1, y0, y1, va0, va1, ca0, ta0, _, ca1, ta1, _, n01, ha0, ha1⟩ := laid_sentinels2 h1 gS0 tS0 gS1 tS1 Tryz.underlying93 row174 Tryz.underlying212 Tryz.underlying240 rfl rfl Tryz.underlying9 ce198 ce9
  obtain ⟨b1, b2, u1, u2, e1, e2, z1, z2, vb1, vb2, cb1, tb1, _, cb2, tb2, _, n12, hb1, hb2⟩ := laid_sentinels2 h2 gS1 tS1 gS2 tS2 Tryz.underlying93 row174 Tryz.underlying212 Tryz.underlying240 rfl rfl Tryz.underlying9 ce198 ce9
  obtain rfl : a1 = b1 := by
    have := va1.symm.trans vb1
    simpa using this
  refine ⟨a0, a1, b2, ⟨by simpa using World.var?_cell gS0 va0 0, by simpa using World.var?_cell gS1 va1 0, by simpa using World.var?_cell gS2 vb2 0, ⟨_, _, ha0⟩, ⟨_, _, ha1⟩, ⟨_, _, hb2⟩, n01, ?_, n12⟩⟩
  rintro rfl
  rw [ca0] at cb2
  simp only [Option.some.injEq, Value.string.injEq] at cb2
  rw [cb2, tb2] at ta0
  exact absurd ta0 (by decide)
theorem doorU_met (os : Os) (args : Array Value) : laidMetH Tryz.prog laidU ((World.doorLaid Tryz.prog 400 os).forCall (fun _ _ => 0) ⟨#[], args, []⟩).memory :=
  laidMetH_of_parts3 (fuel := 8) (laidMet_of_run' 8 (by kernel_rfl) (by kernel_rfl)) (by kernel_rfl) (by kernel_rfl)
end Go.Proofs.YtjdejhgfkjeeiaaGreatDoor
