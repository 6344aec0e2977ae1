/-
  The library's sort laid over this program, and its contract at rows of addresses. No conditions but those that each theorem names.
-/
import Derived.Shelf.SlSortCmp.NoneTotal
import Derived.Test.YtafedmahehbggaaCC
namespace Go.Proofs.Ytafedmahehbggaa
open Go.RowKit Go.Sort Go.Maps Go.Shelf Go.Proofs
set_option linter.unusedVariables false
set_option linter.unusedSimpArgs false
set_option maxRecDepth 100000

def Try.sortA_ren : Go.Shelf.Ren := ⟨fun | 6 => 59 | 15 => 64 | 14 => 63 | 28 => 75 | 29 => 76 | 20 => 67 | 21 => 68 | 22 => 69 | 23 => 70 | 24 => 71 | 25 => 72 | 26 => 73 | 27 => 74 | 46 => 78 | 47 => 79 | 48 => 80 | 49 => 81 | 50 => 82 | 57 => 83 | n => n, fun | 22 => 30 | 24 => 25 | 25 => 73 | 3 => 3 | 39 => 78 | 0 => 0 | 53 => 90 | 55 => 50 | 4 => 4 | 46 => 83 | 45 => 82 | 50 => 87 | 5 => 5 | 9 => 9 | 66 => 92 | 70 => 96 | 76 => 98 | 77 => 99 | n => n, fun | n => n⟩
theorem Try.sortA : Go.Proofs.SlLaysF0.n6 Try.prog Try.sortA_ren := {
  mixed := by kernel_rfl,
  f6 := ⟨Try.f59.name, by decide, Try.func59.trans (congrArg some (by kernel_rfl))⟩,
  f14 := ⟨Try.f63.name, by decide, Try.func63.trans (congrArg some (by kernel_rfl))⟩,
  f15 := Try.func64.trans (congrArg some (by kernel_rfl)),
  f20 := ⟨Try.f67.name, by decide, Try.func67.trans (congrArg some (by kernel_rfl))⟩,
  f21 := ⟨Try.f68.name, by decide, Try.func68.trans (congrArg some (by kernel_rfl))⟩,
  f22 := ⟨Try.f69.name, by decide, Try.func69.trans (congrArg some (by kernel_rfl))⟩,
  f23 := ⟨Try.f70.name, by decide, Try.func70.trans (congrArg some (by kernel_rfl))⟩,
  f24 := ⟨Try.f71.name, by decide, Try.func71.trans (congrArg some (by kernel_rfl))⟩,
  f25 := ⟨Try.f72.name, by decide, Try.func72.trans (congrArg some (by kernel_rfl))⟩,
  f26 := ⟨Try.f73.name, by decide, Try.func73.trans (congrArg some (by kernel_rfl))⟩,
  f27 := ⟨Try.f74.name, by decide, Try.func74.trans (congrArg some (by kernel_rfl))⟩,
  f28 := Try.func75.trans (congrArg some (by kernel_rfl)),
  f29 := Try.func76.trans (congrArg some (by kernel_rfl)),
  f46 := ⟨Try.f78.name, by decide, Try.func78.trans (congrArg some (by kernel_rfl))⟩,
  f47 := Try.func79.trans (congrArg some (by kernel_rfl)),
  f48 := Try.func80.trans (congrArg some (by kernel_rfl)),
  f49 := ⟨Try.f81.name, by decide, Try.func81.trans (congrArg some (by kernel_rfl))⟩,
  f50 := ⟨Try.f82.name, by decide, Try.func82.trans (congrArg some (by kernel_rfl))⟩,
  f57 := ⟨Try.f83.name, by decide, Try.func83.trans (congrArg some (by kernel_rfl))⟩,
  t0 := Try.underlying0,
  a0 := Try.isAgg0,
  z0 := Try.sizeOf0,
  v0 := Try.zeroValue0,
  t3 := Try.underlying3,
  a3 := Try.isAgg3,
  z3 := Try.sizeOf3,
  v3 := Try.zeroValue3,
  t4 := Try.underlying4,
  a4 := Try.isAgg4,
  z4 := Try.sizeOf4,
  v4 := Try.zeroValue4,
  t5 := Try.underlying5,
  a5 := Try.isAgg5,
  z5 := Try.sizeOf5,
  v5 := Try.zeroValue5,
  t9 := Try.underlying9,
  a9 := Try.isAgg9,
  z9 := Try.sizeOf9,
  v9 := Try.zeroValue9,
  t22 := Try.underlying30,
  a22 := Try.isAgg30,
  z22 := Try.sizeOf30,
  v22 := Try.zeroValue30,
  t25 := Try.underlying73,
  a25 := Try.isAgg73,
  z25 := Try.sizeOf73,
  v25 := Try.zeroValue73,
  t39 := Try.underlying78,
  a39 := Try.isAgg78,
  z39 := Try.sizeOf78,
  v39 := Try.zeroValue78,
  t45 := Try.underlying82,
  a45 := Try.isAgg82,
  z45 := Try.sizeOf82,
  v45 := Try.zeroValue82,
  t46 := Try.underlying83,
  a46 := Try.isAgg83,
  z46 := Try.sizeOf83,
  v46 := Try.zeroValue83,
  t50 := Try.underlying87,
  a50 := Try.isAgg87,
  z50 := Try.sizeOf87,
  v50 := Try.zeroValue87,
  t53 := Try.underlying90,
  a53 := Try.isAgg90,
  z53 := Try.sizeOf90,
  v53 := Try.zeroValue90,
  t55 := Try.underlying50,
  a55 := Try.isAgg50,
  z55 := Try.sizeOf50,
  v55 := Try.zeroValue50,
  t66 := Try.underlying92,
  a66 := Try.isAgg92,
  z66 := Try.sizeOf92,
  v66 := Try.zeroValue92,
  t70 := Try.underlying96,
  a70 := Try.isAgg96,
  z70 := Try.sizeOf96,
  v70 := Try.zeroValue96,
  t76 := Try.underlying98,
  a76 := Try.isAgg98,
  z76 := Try.sizeOf98,
  v76 := Try.zeroValue98,
  t77 := Try.underlying99,
  a77 := Try.isAgg99,
  z77 := Try.sizeOf99,
  v77 := Try.zeroValue99 }

theorem flat_eas (d : Array Ad) : flatK ea 2 d = (eas d.toList).toArray := by
  apply Array.ext_getElem?
  intro t
  by_cases ht : t < d.size * 2
  · have hd : t / 2 < d.toList.length := by simp; omega
    have h1 : (flatK ea 2 d)[t]? = some (flatK ea 2 d)[t]! := by
      rw [getElem!_pos _ t (by simpa using ht), Array.getElem?_eq_getElem]
    rw [h1, get_flatK ea 2 d t ht, List.getElem?_toArray]
    have hx : d[t / 2]! = d.toList[t / 2] := by rw [getElem!_pos d (t / 2) (by simpa using hd)]; simp
    rw [hx]
    by_cases h2 : t % 2 = 0
    · have := eas_get0 d.toList (t / 2) hd
      rw [show t / 2 * 2 = t by omega] at this
      rw [this, h2]; rfl
    · have := eas_get1 d.toList (t / 2) hd
      rw [show t / 2 * 2 + 1 = t by omega] at this
      rw [this, show t % 2 = 1 by omega]; rfl
  · rw [Array.getElem?_eq_none (by simp; omega), List.getElem?_toArray, List.getElem?_eq_none (by rw [eas_length]; simp; omega)]
theorem OwnA.holds {w : World} {g n cap : Nat} {l sp : List Ad} (h : OwnA 25 w (.slice (some ⟨g, 0, none⟩) n cap) l sp) : HoldsK ea 2 w g 0 l.toArray := by
  intro j hj
  rw [flat_eas] at hj ⊢
  simp only [List.toList_toArray] at hj ⊢
  have hj' : j < (eas l).length := by simpa using hj
  refine ⟨?_, frozen_of_heap h.heap _⟩
  rw [Nat.zero_add, cell_of_heap h.heap, eas_append, List.getElem?_toArray, List.getElem?_append_left hj', List.getElem?_eq_getElem hj', getElem!_pos _ j (by simpa using hj')]
  simp
theorem OwnA.sorted {w : World} {g n cap : Nat} {l l' sp : List Ad} (h : OwnA 25 w (.slice (some ⟨g, 0, none⟩) n cap) l sp) (hl : l'.length = l.length) (m : Nat) (os : Array Obj) :
    OwnA 25 (sortWorldK ea 2 w g 0 m l'.toArray os) (.slice (some ⟨g, 0, none⟩) n cap) l' sp ∧ Frm [g] w (sortWorldK ea 2 w g 0 m l'.toArray os) := by
  obtain ⟨c1, c2, c3⟩ := h.caps
  have hg := lt_heap h.heap
  have hsz : (putRowK ea 2 (Sort.ahead w m) g 0 l'.toArray).heap.size = w.heap.size := by rw [size_putRowK]; rfl
  have hold : ∀ k, k < w.heap.size → (sortWorldK ea 2 w g 0 m l'.toArray os).heap[k]? = (putRowK ea 2 (Sort.ahead w m) g 0 l'.toArray).heap[k]? := fun k hk => heap_grow_old _ os (by rw [hsz]; exact hk)
  refine ⟨OwnA.of_heap ?_ (by omega) (by omega) c3, ⟨rfl, rfl, rfl, ?_, fun k hk hn => ?_⟩⟩
  · rw [hold g hg]
    simp only [putRowK, putRow, mapBlock, Array.getElem?_modify, if_true]
    rw [show (Sort.ahead w m).heap[g]? = _ from h.heap]
    simp only [Option.map_some, onCells]
    congr 2
    rw [flat_eas]
    apply Array.ext_getElem?
    intro k
    have e1 : (eas l).length = l.length * 2 := eas_length l
    have e2 : (eas l').length = l.length * 2 := by rw [eas_length, hl]
    simp only [putCells, Array.getElem?_mapIdx, List.getElem?_toArray, eas_append, List.size_toArray, List.toList_toArray, Nat.zero_add, Nat.sub_zero, id]
    by_cases hk : k < l.length * 2
    · rw [List.getElem?_append_left (by omega), List.getElem?_append_left (by omega), List.getElem?_eq_getElem (by omega), List.getElem?_eq_getElem (by omega), Option.map_some, if_pos ⟨by omega, by omega⟩, getElem!_pos _ k (by simp; omega)]
      simp
    · rw [List.getElem?_append_right (by omega), List.getElem?_append_right (by omega), e1, e2]
      cases (eas sp)[k - l.length * 2]? with
      | none => rfl
      | some y => rw [Option.map_some, if_neg (by omega)]
  · show w.heap.size ≤ (grow _ os).heap.size
    rw [size_grow, hsz]; omega
  · rw [hold k hk]
    simp only [putRowK, putRow, mapBlock, Array.getElem?_modify]
    rw [if_neg (by intro e; exact hn (by simp [e]))]
    rfl
theorem SortFunc_any (v : Value) (l sp : List Ad) (w : World) (hO : OwnA 25 w v l sp) (hl : l.length ≤ 1000000) :
    Calls Try.prog 59 #[v, .func (.func 60) #[] #[]] w fun e w' => e = .returned (.tuple #[]) ∧ OwnA 25 w' v (l.mergeSort fun x y => !ltA y x) sp ∧ Frm (blk v) w w' := by
  obtain ⟨h1, ⟨rfl, h2, h3⟩ | ⟨g, cap, rfl, h3, h4, h5, h6⟩⟩ := id hO
  · obtain rfl : l = [] := List.eq_nil_of_length_eq_zero h2
    have hc := AnyF.slices_SortFunc_none Try.sortA none 0 (.func (.func 60) #[] #[]) w
    change Calls Try.prog 59 _ _ _ at hc
    refine hc.mono ?_
    rintro e w' ⟨rfl, rfl⟩
    exact ⟨rfl, by simpa using hO, Frm.refl _ _⟩
  · have eg : ∀ args w, (callFunc 60 args).run Try.prog w = .ok (.enter 60 args) w := enters_of Try.func60 (by kernel_rfl) rfl
    have hT : ∀ x y, (ltOf cfA) x y = false → (ltOf cfA) y x = false → x = y := fun x y h1 h2 => by rw [ltOf_cfA] at h1 h2; exact ltA_total h1 h2
    have hc := AnyQ.slices_SortFunc_total Try.sortA 2 Try.isAgg25 Try.sizeOf25 ea (fun _ => rfl) (fun x v hv => by simp [ea] at hv; rcases hv with rfl | rfl <;> rfl) cfA swoA 60 #[] g 0 cap l.toArray w eg
      (fun m os dk _ x y => compare_any x y _) hO.holds (lt_heap hO.heap) (by simp; omega) hT
    change Calls Try.prog 59 _ _ _ at hc
    simp only [ltOf_cfA, List.size_toArray, List.toList_toArray] at hc
    refine hc.mono ?_
    rintro e w' ⟨rfl, m, os, rfl⟩
    obtain ⟨o1, f1⟩ := hO.sorted (l' := l.mergeSort fun x y => !ltA y x) (by simp) m os
    exact ⟨rfl, o1, f1⟩
end Go.Proofs.Ytafedmahehbggaa
