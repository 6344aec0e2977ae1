/-
  What a row's own reading gives the walks: bytes, addresses, pointers. No conditions but those that each theorem names.
-/
import Derived.Test.YtjdejhgfkjeeiaaGreatDoorPY
import Derived.Deep.SlicePairs
import Derived.Deep.Strs
import Derived.ChangeSame
namespace Go.Proofs.YtjdejhgfkjeeiaaGreatDoor.Pt
open Go.RowKit Go.ChangeShapes Go.WideShapes Go.Deep
set_option linter.unusedVariables false
set_option maxRecDepth 100000
set_option linter.unusedSimpArgs false

theorem cells5 : Tryz.prog.cellsOf 5 = 1 := by kernel_rfl
theorem own : ownKnob Tryz.prog.godebug = none := by kernel_rfl
theorem laidOut : laidOutB Tryz.prog = true := by kernel_rfl
def WfA (x : Ad) : Prop := (Lit.int .i64 x.1).wf = true ∧ (Lit.int .i64 x.2).wf = true
/-- The blocks that a slice can be read from: none, if it has no room. -/
def blkR : Value → List Nat
  | .slice (some a) _ cap => if cap = 0 then [] else [a.block]
  | _ => []
/-- Numbers that fit a byte, as bytes. -/
def asBytes (zs : List Int) : List UInt8 := zs.map fun n => UInt8.ofNat n.toNat
theorem bvs_asBytes {zs : List Int} (h : ∀ n ∈ zs, (Lit.int .u8 n).wf = true) : bvs (asBytes zs) = zs.map (Value.int .u8) := by
  unfold bvs asBytes
  rw [List.map_map]
  refine List.map_congr_left fun n hn => ?_
  have := bounds_u8 (h n hn)
  simp [bv]
  omega
theorem slb_of_trod {H : Type} {enc : TypeId × Value → H} {W : World} {fuel : Nat} {cs : List Value} {x : DataW H × List MemPlace} (h : DataW.trod enc Tryz.prog W 0 (fun _ => true) true fuel 32 cs = some x) :
    ∃ a cap l sp, cs = [.slice a (l : List UInt8).length cap] ∧ SlB W (.slice a l.length cap) l sp ∧ ∀ k ∈ blkR (.slice a l.length cap), k < W.heap.size := by
  rcases open_ints Tryz.underlying32 Tryz.underlying5 cells5 h with ⟨rfl, _⟩ | ⟨a, len, cap, zs, rfl, _, hl, hm, hz, _, hcell, hwz⟩
  · exact ⟨none, 0, [], [], rfl, SlB.nil _, by simp [blkR]⟩
  · have hzl : zs.length = cap := by simpa using hz
    have hlen : ((asBytes zs).take len).length = len := by simp [asBytes]; omega
    by_cases hc : cap = 0
    · subst hc
      obtain rfl : len = 0 := by omega
      exact ⟨some a, 0, [], [], rfl, ⟨rfl, .inr (.inl ⟨a, rfl, rfl, rfl⟩)⟩, by simp [blkR]⟩
    · obtain ⟨b, off, spot⟩ := a
      have h0 := hcell 0 (by omega)
      have hspot : spot = none := by simpa [Addr.add] using World.cell?_spot h0
      subst hspot
      refine ⟨some ⟨b, off, none⟩, cap, (asBytes zs).take len, (asBytes zs).drop len, by rw [hlen], ?_, ?_⟩
      · rw [hlen]
        refine ⟨by simp [bvs_length, hlen], .inr (.inr ⟨b, off, cap, by rw [hlen], by omega, hm, ?_, fun i u hu => ?_⟩)⟩
        · rw [← bvs_append, List.take_append_drop]; simp [bvs_length, asBytes, hzl]
        · rw [← bvs_append, List.take_append_drop, bvs_asBytes hwz] at hu
          have hi : i < zs.length := by
            rcases Nat.lt_or_ge i zs.length with h | h
            · exact h
            · rw [List.getElem?_eq_none (by simpa using h)] at hu; cases hu
          have := hcell i hi
          rw [add_plain] at this
          rw [this]
          rw [List.getElem?_map, List.getElem?_eq_getElem hi] at hu
          simp at hu
          rw [← hu]
          simp [List.getD, List.getElem?_eq_getElem hi]
      · intro k hk
        simp [blkR, hc] at hk
        subst hk
        rw [add_plain] at h0
        exact World.block_lt_of_cell? W _ h0
section
variable {H : Type} {enc : TypeId × Value → H} {P : Program} {w : World} {base : Nat} {spare : Nat → Bool} {held : Bool}
end
end Go.Proofs.YtjdejhgfkjeeiaaGreatDoor.Pt
