/-
  The library's sort laid over this program, and its contract at rows of IDs. No conditions but those that each theorem names.
-/
import Derived.Test.YtcnjjcnmjmcoiaaGreatDoorLW
namespace Go.Proofs.YtcnjjcnmjmcoiaaGreatDoor
open Go.RowKit Go.Sort Go.Maps Go.Shelf Go.Proofs
set_option linter.unusedVariables false
set_option linter.unusedSimpArgs false
set_option maxRecDepth 100000

def Tryz.sortA_ren : Go.Shelf.Ren := ⟨fun | 6 => 56 | 14 => 91 | 15 => 92 | 20 => 109 | 21 => 110 | 22 => 111 | 23 => 112 | 24 => 113 | 25 => 114 | 26 => 115 | 27 => 116 | 28 => 117 | 29 => 118 | 46 => 125 | 47 => 126 | 48 => 127 | 49 => 128 | 50 => 129 | 57 => 135 | n => n, fun | 22 => 55 | 24 => 26 | 25 => 60 | 39 => 94 | 45 => 124 | 46 => 125 | 50 => 129 | 53 => 100 | 55 => 133 | 66 => 141 | 70 => 145 | 76 => 149 | 77 => 150 | 0 => 0 | 3 => 3 | 4 => 4 | 5 => 5 | 9 => 9 | n => n, fun | n => n⟩
theorem Tryz.sortA : Go.Proofs.SlLaysF0.n6 Tryz.prog Tryz.sortA_ren := {
  mixed := by kernel_rfl,
  f6 := ⟨Tryz.f56.name, by decide, Tryz.func56.trans (congrArg some (by kernel_rfl))⟩,
  f14 := ⟨Tryz.f91.name, by decide, Tryz.func91.trans (congrArg some (by kernel_rfl))⟩,
  f15 := Tryz.func92.trans (congrArg some (by kernel_rfl)),
  f20 := ⟨Tryz.f109.name, by decide, Tryz.func109.trans (congrArg some (by kernel_rfl))⟩,
  f21 := ⟨Tryz.f110.name, by decide, Tryz.func110.trans (congrArg some (by kernel_rfl))⟩,
  f22 := ⟨Tryz.f111.name, by decide, Tryz.func111.trans (congrArg some (by kernel_rfl))⟩,
  f23 := ⟨Tryz.f112.name, by decide, Tryz.func112.trans (congrArg some (by kernel_rfl))⟩,
  f24 := ⟨Tryz.f113.name, by decide, Tryz.func113.trans (congrArg some (by kernel_rfl))⟩,
  f25 := ⟨Tryz.f114.name, by decide, Tryz.func114.trans (congrArg some (by kernel_rfl))⟩,
  f26 := ⟨Tryz.f115.name, by decide, Tryz.func115.trans (congrArg some (by kernel_rfl))⟩,
  f27 := ⟨Tryz.f116.name, by decide, Tryz.func116.trans (congrArg some (by kernel_rfl))⟩,
  f28 := Tryz.func117.trans (congrArg some (by kernel_rfl)),
  f29 := Tryz.func118.trans (congrArg some (by kernel_rfl)),
  f46 := ⟨Tryz.f125.name, by decide, Tryz.func125.trans (congrArg some (by kernel_rfl))⟩,
  f47 := Tryz.func126.trans (congrArg some (by kernel_rfl)),
  f48 := Tryz.func127.trans (congrArg some (by kernel_rfl)),
  f49 := ⟨Tryz.f128.name, by decide, Tryz.func128.trans (congrArg some (by kernel_rfl))⟩,
  f50 := ⟨Tryz.f129.name, by decide, Tryz.func129.trans (congrArg some (by kernel_rfl))⟩,
  f57 := ⟨Tryz.f135.name, by decide, Tryz.func135.trans (congrArg some (by kernel_rfl))⟩,
  t0 := Tryz.underlying0,
  a0 := Tryz.isAgg0,
  z0 := Tryz.sizeOf0,
  v0 := Tryz.zeroValue0,
  t3 := Tryz.underlying3,
  a3 := Tryz.isAgg3,
  z3 := Tryz.sizeOf3,
  v3 := Tryz.zeroValue3,
  t4 := Tryz.underlying4,
  a4 := Tryz.isAgg4,
  z4 := Tryz.sizeOf4,
  v4 := Tryz.zeroValue4,
  t5 := Tryz.underlying5,
  a5 := Tryz.isAgg5,
  z5 := Tryz.sizeOf5,
  v5 := Tryz.zeroValue5,
  t9 := Tryz.underlying9,
  a9 := Tryz.isAgg9,
  z9 := Tryz.sizeOf9,
  v9 := Tryz.zeroValue9,
  t22 := Tryz.underlying55,
  a22 := Tryz.isAgg55,
  z22 := Tryz.sizeOf55,
  v22 := Tryz.zeroValue55,
  t25 := Tryz.underlying60,
  a25 := Tryz.isAgg60,
  z25 := Tryz.sizeOf60,
  v25 := Tryz.zeroValue60,
  t39 := Tryz.underlying94,
  a39 := Tryz.isAgg94,
  z39 := Tryz.sizeOf94,
  v39 := Tryz.zeroValue94,
  t45 := Tryz.underlying124,
  a45 := Tryz.isAgg124,
  z45 := Tryz.sizeOf124,
  v45 := Tryz.zeroValue124,
  t46 := Tryz.underlying125,
  a46 := Tryz.isAgg125,
  z46 := Tryz.sizeOf125,
  v46 := Tryz.zeroValue125,
  t50 := Tryz.underlying129,
  a50 := Tryz.isAgg129,
  z50 := Tryz.sizeOf129,
  v50 := Tryz.zeroValue129,
  t53 := Tryz.underlying100,
  a53 := Tryz.isAgg100,
  z53 := Tryz.sizeOf100,
  v53 := Tryz.zeroValue100,
  t55 := Tryz.underlying133,
  a55 := Tryz.isAgg133,
  z55 := Tryz.sizeOf133,
  v55 := Tryz.zeroValue133,
  t66 := Tryz.underlying141,
  a66 := Tryz.isAgg141,
  z66 := Tryz.sizeOf141,
  v66 := Tryz.zeroValue141,
  t70 := Tryz.underlying145,
  a70 := Tryz.isAgg145,
  z70 := Tryz.sizeOf145,
  v70 := Tryz.zeroValue145,
  t76 := Tryz.underlying149,
  a76 := Tryz.isAgg149,
  z76 := Tryz.sizeOf149,
  v76 := Tryz.zeroValue149,
  t77 := Tryz.underlying150,
  a77 := Tryz.isAgg150,
  z77 := Tryz.sizeOf150,
  v77 := Tryz.zeroValue150 }

open Kr (OwnE SlE)
instance : Inhabited IdT := ⟨⟨List.replicate 32 0, by simp⟩⟩
theorem flat_flt (d : Array IdT) : flatK eI 32 d = (Kr.flt eI d.toList).toArray := by
  apply Array.ext_getElem?
  intro t
  by_cases ht : t < d.size * 32
  · have hd : t / 32 < d.toList.length := by simp; omega
    have h1 : (flatK eI 32 d)[t]? = some (flatK eI 32 d)[t]! := by
      rw [getElem!_pos _ t (by simpa using ht), Array.getElem?_eq_getElem]
    rw [h1, get_flatK eI 32 d t ht, List.getElem?_toArray]
    have hx : d[t / 32]! = d.toList[t / 32] := by rw [getElem!_pos d (t / 32) (by simpa using hd)]; simp
    rw [hx]
    have h2 := Kr.flt_get encID d.toList (t / 32) hd (t % 32) (Nat.mod_lt _ (by decide))
    rw [show t / 32 * 32 + t % 32 = t by omega] at h2
    rw [h2]
    have hl : t % 32 < (eI d.toList[t / 32]).length := by rw [encID.len]; exact Nat.mod_lt _ (by decide)
    rw [List.getElem?_eq_getElem hl, getElem!_pos (eI d.toList[t / 32]) (t % 32) hl]
  · rw [Array.getElem?_eq_none (by simp; omega), List.getElem?_toArray, List.getElem?_eq_none (by rw [Kr.flt_length encID]; simp; omega)]
theorem holdsI {w : World} {g n cap : Nat} {l : List IdT} {sp : List Value} (h : OwnE eI 32 26 w (.slice (some ⟨g, 0, none⟩) n cap) l sp) : HoldsK eI 32 w g 0 l.toArray := by
  intro j hj
  rw [flat_flt] at hj ⊢
  simp only [List.toList_toArray] at hj ⊢
  have hj' : j < (Kr.flt eI l).length := by simpa using hj
  refine ⟨?_, frozen_of_heap h.heap _⟩
  rw [Nat.zero_add, cell_of_heap h.heap, List.getElem?_toArray, List.getElem?_append_left hj', List.getElem?_eq_getElem hj', getElem!_pos _ j (by simpa using hj')]
  simp
theorem sortedI {w : World} {g n cap : Nat} {l l' : List IdT} {sp : List Value} (h : OwnE eI 32 26 w (.slice (some ⟨g, 0, none⟩) n cap) l sp) (hl : l'.length = l.length) (m : Nat) (os : Array Obj) :
    OwnE eI 32 26 (sortWorldK eI 32 w g 0 m l'.toArray os) (.slice (some ⟨g, 0, none⟩) n cap) l' sp ∧ Frm [g] w (sortWorldK eI 32 w g 0 m l'.toArray os) := by
  obtain ⟨c1, c2, c3, c4⟩ := h.caps encID
  have hg := lt_heap h.heap
  have hsz : (putRowK eI 32 (Sort.ahead w m) g 0 l'.toArray).heap.size = w.heap.size := by rw [size_putRowK]; rfl
  have hold : ∀ k, k < w.heap.size → (sortWorldK eI 32 w g 0 m l'.toArray os).heap[k]? = (putRowK eI 32 (Sort.ahead w m) g 0 l'.toArray).heap[k]? := fun k hk => heap_grow_old _ os (by rw [hsz]; exact hk)
  refine ⟨OwnE.of_heap encID ?_ (by omega) (by omega) (by omega) c4, ⟨rfl, rfl, rfl, ?_, fun k hk hn => ?_⟩⟩
  · rw [hold g hg]
    simp only [putRowK, putRow, mapBlock, Array.getElem?_modify, if_true]
    rw [show (Sort.ahead w m).heap[g]? = _ from h.heap]
    simp only [Option.map_some, onCells]
    congr 2
    rw [flat_flt]
    apply Array.ext_getElem?
    intro k
    have e1 : (Kr.flt eI l).length = l.length * 32 := Kr.flt_length encID l
    have e2 : (Kr.flt eI l').length = l.length * 32 := by rw [Kr.flt_length encID, hl]
    simp only [putCells, Array.getElem?_mapIdx, List.getElem?_toArray, List.size_toArray, List.toList_toArray, Nat.zero_add, Nat.sub_zero, id]
    by_cases hk : k < l.length * 32
    · rw [List.getElem?_append_left (by omega), List.getElem?_append_left (by omega), List.getElem?_eq_getElem (by omega), List.getElem?_eq_getElem (by omega), Option.map_some, if_pos ⟨by omega, by omega⟩, getElem!_pos _ k (by simp; omega)]
      simp
    · rw [List.getElem?_append_right (by omega), List.getElem?_append_right (by omega), e1, e2]
      cases sp[k - l.length * 32]? with
      | none => rfl
      | some y => rw [Option.map_some, if_neg (by omega)]
  · show w.heap.size ≤ (grow _ os).heap.size
    rw [size_grow, hsz]; omega
  · rw [hold k hk]
    simp only [putRowK, putRow, mapBlock, Array.getElem?_modify]
    rw [if_neg (by intro e; exact hn (by simp [e]))]
    rfl
def srtI (l : List IdT) : List IdT := l.mergeSort fun x y => !ltI y x
theorem SortFunc_any (v : Value) (l : List IdT) (sp : List Value) (w : World) (hO : OwnE eI 32 26 w v l sp) (hl : l.length ≤ 100000000) :
    Calls Tryz.prog 56 #[v, .func (.func 33) #[] #[]] w fun e w' => e = .returned (.tuple #[]) ∧ OwnE eI 32 26 w' v (srtI l) sp ∧ Frm (blk v) w w' := by
  obtain ⟨h1, ⟨rfl, h2, h3⟩ | ⟨g, cap, rfl, h3, h4, h5, h6⟩⟩ := id hO
  · obtain rfl : l = [] := by
      have := Kr.flt_length encID l
      rw [h2] at this
      exact List.eq_nil_of_length_eq_zero (by simp at this; omega)
    have hc := AnyF.slices_SortFunc_none Tryz.sortA none 0 (.func (.func 33) #[] #[]) w
    change Calls Tryz.prog 56 _ _ _ at hc
    refine hc.mono ?_
    rintro e w' ⟨rfl, rfl⟩
    exact ⟨rfl, by simpa [srtI] using hO, Frm.refl _ _⟩
  · have eg : ∀ args w, (callFunc 33 args).run Tryz.prog w = .ok (.enter 33 args) w := enters_of Tryz.func33 (by kernel_rfl) rfl
    have hT : ∀ x y, (ltOf cfI) x y = false → (ltOf cfI) y x = false → x = y := fun x y h1 h2 => by rw [ltOf_cfI] at h1 h2; exact ltI_total h1 h2
    have hc := AnyQ.slices_SortFunc_total Tryz.sortA 32 Tryz.isAgg26 Tryz.sizeOf26 eI (fun x => encID.len x) (fun x v hv => encID.one x v hv) cfI swoI 33 #[] g 0 cap l.toArray w eg
      (fun m os dk _ x y => compare_any x y _) (holdsI hO) (lt_heap hO.heap) (by simp; omega) hT
    change Calls Tryz.prog 56 _ _ _ at hc
    simp only [ltOf_cfI, List.size_toArray, List.toList_toArray] at hc
    refine hc.mono ?_
    rintro e w' ⟨rfl, m, os, rfl⟩
    obtain ⟨o1, f1⟩ := sortedI hO (l' := srtI l) (by simp [srtI]) m os
    exact ⟨rfl, o1, f1⟩
theorem srtI_perm (l : List IdT) : (srtI l).Perm l := List.mergeSort_perm _ _
theorem srtI_sorted (l : List IdT) : (srtI l).Pairwise fun x y => ltI y x = false := by
  have h := List.pairwise_mergeSort (le := fun x y : IdT => !ltI y x) (fun a b c h1 h2 => by
    simp only [Bool.not_eq_true'] at *
    exact ltI_ntrans h2 h1) (fun a b => by
    cases h1 : ltI b a with
    | false => simp
    | true =>
      cases h2 : ltI a b with
      | false => simp
      | true => have := ltI_trans h1 h2; rw [ltI_irrefl] at this; cases this) l
  exact h.imp (fun h => by simpa using h)
end Go.Proofs.YtcnjjcnmjmcoiaaGreatDoor
