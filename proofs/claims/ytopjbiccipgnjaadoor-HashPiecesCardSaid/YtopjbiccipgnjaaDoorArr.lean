/-
  What a row's own condition gives the walks: arrays of bytes and of words by value, the addends; no conditions but those that each theorem names.
-/
import Derived.Test.YtopjbiccipgnjaaDoorHT
import Derived.Test.YtopjbiccipgnjaaDoorTie
import Derived.Test.YtopjbiccipgnjaaDoorCards
import Derived.ProofKit
import Derived.OpenShut
import Derived.ShutString
import Derived.ChangeOld
import Derived.LaidMore
import Derived.Stop.Joined
import Derived.Lib.LaidTab
import Derived.SevenTiedAt
namespace Go.Proofs.YtopjbiccipgnjaaDoor
open Go.ChangeShapes Go.WideShapes Go.ChangeAt Go.RowKit
set_option linter.unusedVariables false
set_option linter.unusedSimpArgs false

theorem own : ownKnob Tryd.prog.godebug = none := by kernel_rfl
theorem laidOut : laidOutB Tryd.prog = true := by kernel_rfl
theorem gAdd : Tryd.prog.globalNamed "caulker/hash.addends" = some 0 := by kernel_rfl
theorem tAdd : (Tryd.prog.globals[0]?).map (·.type) = some 61 := by kernel_rfl
theorem laid_tab : (Rows.laid_caulker_hash_addends : DataW Unit) = Lib.tabData .u32 (kTab.map wi) := by kernel_rfl
def laidL : List (String × DataW Unit) := [("caulker/hash.addends", Rows.laid_caulker_hash_addends)]
theorem glob_of_laid {W : World} (h : laidMetH Tryd.prog laidL W) : Glob W := by
  rw [MakeChecks.laidMetH_plain _ _ _ (by kernel_rfl)] at h
  unfold laidL at h
  rw [laid_tab] at h
  have ht := Lib.tabIs_of_head gAdd tAdd (d61) Tryd.underlying35 (by kernel_rfl) (by kernel_rfl) h
  intro i hi
  have hl : kTab.length = 64 := by kernel_rfl
  rw [ht.cell gAdd i (by simp [hl]; omega)]
  simp [List.getD_eq_getElem?_getD, List.getElem?_map, List.getElem?_eq_getElem (show i < kTab.length by omega), at32]
theorem door_met (os : Os) (args : Array Value) : laidMetH Tryd.prog laidL ((World.doorLaid Tryd.prog 400 os).forCall (fun _ _ => 0) ⟨#[], args, []⟩).memory :=
  laidMetH_of_parts3 (fuel := 8) (laidMet_of_run' 8 (by kernel_rfl) (by kernel_rfl)) (by kernel_rfl) (by kernel_rfl)
section
variable {H : Type} {enc : TypeId × Value → H} {P : Program} {w : World} {base : Nat} {sp : Nat → Bool} {held : Bool} {r : Reach} {b0 : Nat}
theorem open_arr {t e : TypeId} {n : Nat} {k : IntKind} {v : Value} {d : DataW H} {p : List MemPlace} (ht : P.underlying t = some (.array n e)) (he : P.underlying e = some (.int k)) (hc : P.cellsOf e = 1) (hct : P.cellsOf t = n)
    (hv : Value.okWide P w r b0 t v) (h : DataW.Trod enc P w base sp held t v d p) : ∃ l : List Int, l.length = n ∧ v = .agg (l.map (Value.int k)).toArray ∧ (∀ z ∈ l, (Lit.int k z).wf = true) := by
  unfold Value.okWide at hv
  rw [ht] at hv
  obtain ⟨cs, rfl, hsz, _⟩ := hv
  rw [hct] at hsz
  obtain ⟨fuel, hf⟩ := h
  obtain ⟨xs, m, rfl, hx, hlen, hn, hel⟩ := DataW.trod_array ht hf
  have key : ∀ i, i < n → ∃ z, cs.toList[i]? = some (Value.int k z) ∧ (Lit.int k z).wf = true := fun i hi => by
    have h1 := hel i hi
    obtain ⟨b, hb⟩ : ∃ b, xs[i]? = some b := ⟨xs[i]'(by omega), List.getElem?_eq_getElem (by omega)⟩
    rw [hb, hc] at h1
    obtain ⟨z, e1, _, e3⟩ := DataW.trod_int he h1
    refine ⟨z, ?_, e3⟩
    have := congrArg (·[0]?) e1
    simpa [List.getElem?_take, List.getElem?_drop, Value.cells] using this
  refine ⟨(List.range n).map fun i => match cs.toList[i]? with | some (Value.int _ z) => z | _ => (0 : Int), by simp, ?_, ?_⟩
  · congr 1
    apply Array.ext'
    apply List.ext_getElem?
    intro i
    by_cases hi : i < n
    · obtain ⟨z, hz, _⟩ := key i hi
      simp only [List.getElem?_map, List.getElem?_range hi, Option.map_some]
      rw [hz]
    · rw [List.getElem?_eq_none (by simpa using by omega), List.getElem?_eq_none (by simpa using by omega)]
  · intro z hz
    obtain ⟨i, hi, rfl⟩ := List.mem_map.1 hz
    obtain ⟨z', hz', hw⟩ := key i (by simpa using hi)
    rw [hz']; exact hw
end
section
variable {H : Type} {enc : TypeId × Value → H} {w : World} {base : Nat} {sp : Nat → Bool} {held : Bool} {r : Reach} {b0 : Nat}
theorem open29 {v : Value} {d : DataW H} {p : List MemPlace} (hv : Value.okWide Tryd.prog w r b0 29 v) (h : DataW.Trod enc Tryd.prog w base sp held 29 v d p) : ∃ l : List UInt8, l.length = 32 ∧ v = .agg (bvs l).toArray := by
  obtain ⟨l, hl, rfl, hw⟩ := open_arr d29 Tryd.underlying5 (by kernel_rfl) (by kernel_rfl) hv h
  refine ⟨l.map fun z => UInt8.ofNat z.toNat, by simpa using hl, ?_⟩
  congr 2
  simp only [bvs, List.map_map]
  apply List.map_congr_left
  intro z hz
  have := Go.bounds_u8 (hw z hz)
  simp only [Function.comp, bv, UInt8.toNat_ofNat']
  congr 1
  omega
theorem open36 {v : Value} {d : DataW H} {p : List MemPlace} (hv : Value.okWide Tryd.prog w r b0 36 v) (h : DataW.Trod enc Tryd.prog w base sp held 36 v d p) : ∃ l : List UInt32, l.length = 8 ∧ v = .agg (W32 l).toArray := by
  obtain ⟨l, hl, rfl, hw⟩ := open_arr d36 Tryd.underlying35 (by kernel_rfl) (by kernel_rfl) hv h
  refine ⟨l.map fun z => UInt32.ofNat z.toNat, by simpa using hl, ?_⟩
  congr 2
  simp only [W32, List.map_map]
  apply List.map_congr_left
  intro z hz
  have := Go.bounds_u32 (hw z hz)
  simp only [Function.comp, wi, UInt32.toNat_ofNat']
  congr 1
  omega
end
end Go.Proofs.YtopjbiccipgnjaaDoor
