/-
  Contract of SortStableFunc at rows of edges, as lists. No conditions but those that each theorem names.
-/
import Derived.Test.YtgbgpmdhlocjhaaD8
namespace Go.Proofs.Ytgbgpmdhlocjhaa
open Go.RowKit Go.Sort Go.Shelf Go.Proofs
set_option linter.unusedVariables false
set_option linter.unusedSimpArgs false
set_option maxRecDepth 100000

theorem flat_eD (d : Array Ed) : flatK eD 3 d = (flt eD d.toList).toArray := by
  apply Array.ext_getElem?
  intro t
  have hfl := flt_length encD d.toList
  by_cases ht : t < d.size * 3
  · have hd : t / 3 < d.toList.length := by simp; omega
    have h1 : (flatK eD 3 d)[t]? = some (flatK eD 3 d)[t]! := by
      rw [getElem!_pos _ t (by simpa using ht), Array.getElem?_eq_getElem]
    rw [h1, get_flatK eD 3 d t ht, List.getElem?_toArray]
    have hx : d[t / 3]! = d.toList[t / 3] := by rw [getElem!_pos d (t / 3) (by simpa using hd)]; simp
    have hg := flt_get encD d.toList (t / 3) hd (t % 3) (by omega)
    rw [show t / 3 * 3 + t % 3 = t by omega] at hg
    rw [hg, hx, getElem!_def]
    have hl := encD.len d.toList[t / 3]
    rw [List.getElem?_eq_getElem (by rw [hl]; omega)]
  · rw [Array.getElem?_eq_none (by simp; omega), List.getElem?_toArray, List.getElem?_eq_none (by rw [hfl]; simp; omega)]
theorem OwnD.holds {w : World} {g n cap : Nat} {l : List Ed} {sp : List Value} (h : OwnD w (.slice (some ⟨g, 0, none⟩) n cap) l sp) : HoldsK eD 3 w g 0 l.toArray := by
  intro j hj
  rw [flat_eD] at hj ⊢
  simp only [List.toList_toArray] at hj ⊢
  have hj' : j < (flt eD l).length := by simpa using hj
  refine ⟨?_, frozen_of_heap (OwnE.heap h) _⟩
  rw [Nat.zero_add, cell_of_heap (OwnE.heap h), List.getElem?_toArray, List.getElem?_append_left hj', List.getElem?_eq_getElem hj', getElem!_pos _ j (by simpa using hj')]
  simp
theorem OwnD.sorted {w : World} {g n cap : Nat} {l l' : List Ed} {sp : List Value} (h : OwnD w (.slice (some ⟨g, 0, none⟩) n cap) l sp) (hl : l'.length = l.length) (m : Nat) (os : Array Obj) :
    OwnD (sortWorldK eD 3 w g 0 m l'.toArray os) (.slice (some ⟨g, 0, none⟩) n cap) l' sp ∧ Frm [g] w (sortWorldK eD 3 w g 0 m l'.toArray os) := by
  obtain ⟨c1, c2, c3, c4⟩ := OwnE.caps encD h
  have hg := lt_heap (OwnE.heap h)
  have hsz : (putRowK eD 3 (Sort.ahead w m) g 0 l'.toArray).heap.size = w.heap.size := by rw [size_putRowK]; rfl
  have hold : ∀ k, k < w.heap.size → (sortWorldK eD 3 w g 0 m l'.toArray os).heap[k]? = (putRowK eD 3 (Sort.ahead w m) g 0 l'.toArray).heap[k]? := fun k hk => heap_grow_old _ os (by rw [hsz]; exact hk)
  refine ⟨OwnE.of_heap encD ?_ (by omega) (by omega) (by omega) c4, ⟨rfl, rfl, rfl, ?_, fun k hk hn => ?_⟩⟩
  · rw [hold g hg]
    simp only [putRowK, putRow, mapBlock, Array.getElem?_modify, if_true]
    rw [show (Sort.ahead w m).heap[g]? = _ from OwnE.heap h]
    simp only [Option.map_some, onCells]
    congr 2
    rw [flat_eD]
    apply Array.ext_getElem?
    intro k
    have e1 := flt_length encD l
    have e2 := flt_length encD l'
    rw [hl] at e2
    simp only [putCells, Array.getElem?_mapIdx, List.getElem?_toArray, List.size_toArray, List.toList_toArray, Nat.zero_add, Nat.sub_zero, id]
    by_cases hk : k < l.length * 3
    · rw [List.getElem?_append_left (by omega), List.getElem?_append_left (by omega), List.getElem?_eq_getElem (by omega), List.getElem?_eq_getElem (by omega), Option.map_some, if_pos ⟨by omega, by omega⟩, getElem!_pos _ k (by simp; omega)]
      simp
    · rw [List.getElem?_append_right (by omega), List.getElem?_append_right (by omega), e1, e2]
      cases sp[k - l.length * 3]? with
      | none => rfl
      | some y => rw [Option.map_some, if_neg (by omega)]
  · show w.heap.size ≤ (grow _ os).heap.size
    rw [size_grow, hsz]; omega
  · rw [hold k hk]
    simp only [putRowK, putRow, mapBlock, Array.getElem?_modify]
    rw [if_neg (by intro e; exact hn (by simp [e]))]
    rfl
/-- Edges that rise. -/
def Up (l : List Ed) : Prop := l.Pairwise fun x y => x.1 ≤ y.1
theorem insert_nil (w : World) : Calls Try.prog 58 #[.slice none 0 0, .int .i64 0, .int .i64 0, cmpV] w fun e w' => e = .returned (.tuple #[]) ∧ w' = w := by
  go_enter Try.func58, Try.ntmps58
  go_wp2_with fail
  refine wp_loop_rounds 1 ?_
  rw [rounds_succ]
  go_wp2
  go_end0
  exact ⟨rfl, rfl⟩
theorem stable_nil (w : World) : Calls Try.prog 56 #[.slice none 0 0, .int .i64 0, cmpV] w fun e w' => e = .returned (.tuple #[]) ∧ w' = w := by
  have H := Lib.hid (insert_nil w)
  go_enter Try.func56, Try.ntmps56
  go_wp2_with fail
  refine wp_loop_rounds 1 ?_
  rw [rounds_succ]
  go_wp2_with (go_at_call 58; refine Calls.mono (H.out) ?_; rintro ee W1 ⟨rfl, rfl⟩)
  refine wp_loop_rounds 1 ?_
  rw [rounds_succ]
  go_wp2_with fail
  go_end0
  exact ⟨rfl, rfl⟩
theorem SortD_any (v : Value) (l : List Ed) (sp : List Value) (w : World) (hO : OwnD w v l sp) (hl : l.length ≤ 1000000) :
    Calls Try.prog 53 #[v, cmpV] w fun e w' => e = .returned (.tuple #[]) ∧ ∃ l', l'.Perm l ∧ Up l' ∧ OwnD w' v l' sp ∧ Frm (blk v) w w' := by
  obtain ⟨h1, ⟨rfl, h2, h3⟩ | ⟨g, cap, rfl, h3, h4, h5, h6⟩⟩ := id hO
  · obtain rfl : l = [] := List.eq_nil_of_length_eq_zero h2
    have H := Lib.hid (stable_nil w)
    have HO := Lib.hid hO
    clear hO h1 h2 h3
    go_enter Try.func53, Try.ntmps53
    go_wp2_with (go_at_call 56; refine Calls.mono (H.out) ?_; rintro ee W1 ⟨rfl, rfl⟩)
    go_end0
    exact ⟨rfl, [], List.Perm.refl _, List.Pairwise.nil, HO.out, Frm.refl _ _⟩
  · have R : Row0 w g l.toArray := ⟨fun _ => rfl, fun x v hv => encD.one x v hv, OwnD.holds hO, lt_heap (OwnE.heap hO)⟩
    have H := Lib.hid (stable_any w g cap l.toArray R (by simpa using hl) w (SWK.start R.hH))
    simp only [List.size_toArray] at H
    have HO := Lib.hid hO
    clear hO h1 h3 h4 h5 h6 R
    go_enter Try.func53, Try.ntmps53
    go_wp2_with (go_at_call 56; refine Calls.mono (H.out) ?_; rintro ee W1 ⟨rfl, d, z, ⟨m, os, rfl⟩, p, s⟩)
    go_end0
    have hz : d.toList.length = l.length := by simpa using z
    obtain ⟨o1, f1⟩ := OwnD.sorted HO.out hz m os
    refine ⟨rfl, d.toList, ?_, ?_, by simpa using o1, by simpa [blk] using f1⟩
    · have hp := p.2.2
      have e1 : d.extract 0 l.length = d := by rw [← hz]; simp
      have e2 : (l.toArray).extract 0 l.length = l.toArray := by simp
      rw [e1, e2] at hp
      simpa using hp
    · unfold Up
      rw [List.pairwise_iff_getElem]
      intro i j hi hj hij
      have := s i j (Nat.zero_le _) hij (by omega)
      unfold key at this
      rw [getElem!_pos d i (by simpa using hi), getElem!_pos d j (by simpa using hj)] at this
      simpa using this
end Go.Proofs.Ytgbgpmdhlocjhaa
