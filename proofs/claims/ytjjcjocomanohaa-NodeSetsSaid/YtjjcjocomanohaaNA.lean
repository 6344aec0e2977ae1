/-
  Nodes as values and in blocks: four pointers behind a level. No conditions but those that each theorem names.
-/
import Derived.Test.YtjjcjocomanohaaQT
namespace Go.Proofs.Ytjjcjocomanohaa
open Go.RowKit
set_option linter.unusedVariables false
set_option linter.unusedSimpArgs false
set_option maxRecDepth 100000

/-- A node's cells: its level, the cells of its pointers. -/
def nc (lv : Int) (As : List (Array Value)) : List Value := .int .i64 lv :: (As.map Array.toList).flatten
/-- Arrays of cells, each of them as long as a pointer, and each a cell that can be stored. -/
def Rows35 (As : List (Array Value)) : Prop := ∀ A ∈ As, A.size = 35 ∧ A.all (·.oneCell') = true
theorem flat35 : ∀ {As : List (Array Value)}, Rows35 As → ((As.map Array.toList).flatten).length = 35 * As.length
  | [], _ => rfl
  | A :: r, h => by
    have h1 := (h A (by simp)).1
    have h2 := flat35 (As := r) (fun B hB => h B (by simp [hB]))
    simp only [List.map_cons, List.flatten_cons, List.length_append, h2, List.length_cons, Array.length_toList, h1]
    omega
theorem nc_length {lv : Int} {As : List (Array Value)} (h : Rows35 As) (h4 : As.length = 4) : (nc lv As).length = 141 := by simp [nc, flat35 h, h4]
theorem nc_split {lv : Int} {As : List (Array Value)} (i : Nat) (A : Array Value) (hi : As[i]? = some A) : nc lv As = (.int .i64 lv :: ((As.take i).map Array.toList).flatten) ++ (A.toList ++ ((As.drop (i + 1)).map Array.toList).flatten) := by
  obtain ⟨hlt, hA⟩ := List.getElem?_eq_some_iff.1 hi
  unfold nc
  have e : As = As.take i ++ A :: As.drop (i + 1) := by rw [← hA, List.getElem_cons_drop, List.take_append_drop]
  conv => lhs; rw [e]
  simp
theorem take35 {As : List (Array Value)} (h : Rows35 As) (i : Nat) (hi : i ≤ As.length) : ((((As.take i).map Array.toList).flatten)).length = 35 * i := by
  rw [flat35 (fun A hA => h A (List.mem_of_mem_take hA)), List.length_take, Nat.min_eq_left hi]
theorem nc_get {lv : Int} {As : List (Array Value)} (h : Rows35 As) {i : Nat} {A : Array Value} (hi : As[i]? = some A) (j : Nat) (u : Value) (hu : A.toList[j]? = some u) : (nc lv As)[1 + i * 35 + j]? = some u := by
  obtain ⟨hlt, hA⟩ := List.getElem?_eq_some_iff.1 hi
  have hj : j < A.toList.length := (List.getElem?_eq_some_iff.1 hu).1
  have ht := take35 h i (by omega)
  rw [nc_split i A hi, List.getElem?_append_right (by simp only [List.length_cons, ht]; omega), List.getElem?_append_left (by simp only [List.length_cons, ht]; omega)]
  simp only [List.length_cons, ht]
  rw [show 1 + i * 35 + j - (35 * i + 1) = j by omega]
  exact hu
theorem nc_set {lv : Int} {As : List (Array Value)} (h : Rows35 As) {i : Nat} (hi : i < As.length) (B : Array Value) (hB : B.size = 35) : (nc lv As).take (1 + i * 35) ++ B.toList ++ (nc lv As).drop (1 + i * 35 + 35) = nc lv (As.set i B) := by
  have hA : As[i]? = some As[i] := List.getElem?_eq_getElem hi
  have hs := (h As[i] (List.getElem_mem hi)).1
  have ht := take35 h i (by omega)
  have e1 := nc_split (lv := lv) i As[i] hA
  have e2 := nc_split (lv := lv) (As := As.set i B) i B (by rw [List.getElem?_set_self hi])
  rw [List.take_set_of_le (Nat.le_refl _), List.drop_set_of_lt (by omega)] at e2
  rw [e2, e1]
  have hp : (Value.int .i64 lv :: ((As.take i).map Array.toList).flatten).length = 1 + i * 35 := by simp only [List.length_cons, ht]; omega
  have hq : (As[i].toList).length = 35 := by simpa using hs
  generalize (Value.int .i64 lv :: ((As.take i).map Array.toList).flatten) = a at *
  generalize ((As.drop (i + 1)).map Array.toList).flatten = c at *
  rw [← hp, List.take_left, ← List.append_assoc a, List.drop_left' (by rw [List.length_append, hq]), List.append_assoc]
/-- Cells that stand from a place on, written over. -/
def setL (C : Array Value) : Nat → List Value → Array Value
  | _, [] => C
  | o, v :: r => setL (C.setIfInBounds o v) (o + 1) r
theorem setL_toList : ∀ (vs : List Value) (C : Array Value) (o : Nat), o + vs.length ≤ C.size → (setL C o vs).toList = C.toList.take o ++ vs ++ C.toList.drop (o + vs.length)
  | [], C, o, h => by simp [setL]
  | v :: r, C, o, h => by
    have h1 : o < C.size := by simp at h; omega
    simp only [setL]
    rw [setL_toList r (C.setIfInBounds o v) (o + 1) (by simp at h ⊢; omega)]
    simp only [Array.toList_setIfInBounds]
    have hl : o < C.toList.length := by simpa using h1
    rw [List.take_set, List.take_succ_eq_append_getElem hl, List.set_append_right _ _ (by simp; omega)]
    have : o - (C.toList.take o).length = 0 := by simp; omega
    rw [this, List.set_cons_zero, List.drop_set_of_lt (by omega), List.length_cons, show o + 1 + r.length = o + (r.length + 1) by omega]
    simp
theorem heap_setCells {w : World} {g : Nat} {t : TypeId} : ∀ (vs : List Value) (o : Nat) (w : World) (C : Array Value), w.heap[g]? = some (.cells C t (0, 0)) → (w.setCells g o vs).heap[g]? = some (.cells (setL C o vs) t (0, 0))
  | [], o, w, C, h => h
  | v :: r, o, w, C, h => heap_setCells (w := w) r (o + 1) (w.setCell ⟨g, o, none⟩ v) (C.setIfInBounds o v) (by rw [heap_setCell_same _ h])
theorem Frm.setCells {L : List Nat} {w : World} {g : Nat} : ∀ (vs : List Value) (o : Nat) (w' : World), Frm L w w' → (g ∈ L ∨ w.heap.size ≤ g) → Frm L w (w'.setCells g o vs)
  | [], o, w', f, h => f
  | v :: r, o, w', f, h => Frm.setCells r (o + 1) _ (f.setCell _ _ h) h
/-- A node's block. -/
def NB (w : World) (g : Nat) (lv : Int) (As : List (Array Value)) : Prop := w.heap[g]? = some (.cells (nc lv As).toArray 51 (0, 0)) ∧ As.length = 4 ∧ Rows35 As
theorem i51 : (Try.prog.info? 51).map (·.size) = some 141 := by kernel_rfl
theorem NB.keep {w w' : World} {L : List Nat} {g : Nat} {lv : Int} {As : List (Array Value)} (h : NB w g lv As) (f : Frm L w w') (hn : g ∉ L) : NB w' g lv As := ⟨f.heap h.1 hn, h.2⟩
theorem NB.keep0 {w w' : World} {g : Nat} {lv : Int} {As : List (Array Value)} (h : NB w g lv As) (f : Frm [] w w') : NB w' g lv As := h.keep f (by simp)
theorem NB.lt {w : World} {g : Nat} {lv : Int} {As : List (Array Value)} (h : NB w g lv As) : g < w.heap.size := lt_heap h.1
theorem NB.lev {w : World} {g : Nat} {lv : Int} {As : List (Array Value)} (h : NB w g lv As) : w.cell? ⟨g, 0, none⟩ = some (.int .i64 lv) := by rw [cell_of_heap h.1]; simp [nc]
theorem NB.all {w : World} {g : Nat} {lv : Int} {As : List (Array Value)} (h : NB w g lv As) : (Instr.loadAt 51 (.pointer (some ⟨g, 0, none⟩))).run Try.prog w = .ok (.agg (nc lv As).toArray) w := by
  refine run_loadAt_mid w g 0 51 (nc lv As) _ (fun j u hu => ?_) Try.underlying51 rfl (by rw [i51, nc_length h.2.2 h.2.1])
  rw [cell_of_heap h.1]
  simpa using hu
theorem NB.range {w : World} {g : Nat} {lv : Int} {As : List (Array Value)} (h : NB w g lv As) {i : Nat} {A : Array Value} (hi : As[i]? = some A) : w.rangeAt g (1 + i * 35) A.toList := fun j u hu => by
  rw [cell_of_heap h.1]
  simpa using nc_get h.2.2 hi j u hu
theorem NB.load {w : World} {g : Nat} {lv : Int} {As : List (Array Value)} (h : NB w g lv As) {i : Nat} {A : Array Value} (hi : As[i]? = some A) : (Instr.loadAt 26 (.pointer (some ⟨g, 1 + i * 35, none⟩))).run Try.prog w = .ok (.agg A) w := by
  have hA := h.2.2 A (List.mem_of_getElem? hi)
  exact run_loadAt_mid w g (1 + i * 35) 26 A.toList _ (h.range hi) Try.underlying26 rfl (by rw [i26]; simp [hA.1])
theorem NB.new (w : World) (lv : Int) {As : List (Array Value)} (h4 : As.length = 4) (h : Rows35 As) : NB (w.alloc (.cells (nc lv As).toArray 51)) w.heap.size lv As := ⟨heap_alloc_new _ _, h4, h⟩
theorem NB.set {w : World} {g : Nat} {lv : Int} {As : List (Array Value)} (h : NB w g lv As) {i : Nat} (hi : i < 4) (B : Array Value) (hB : B.size = 35) (hB1 : B.all (·.oneCell') = true) : NB (w.setCells g (1 + i * 35) B.toList) g lv (As.set i B) := by
  refine ⟨?_, by simpa using h.2.1, fun A hA => ?_⟩
  · rw [heap_setCells (w := w) _ _ _ _ h.1]
    congr 2
    apply Array.ext'
    rw [setL_toList _ _ _ (by have := h.2.1; simp only [List.size_toArray, nc_length h.2.2 h.2.1, Array.length_toList, hB]; omega), ← nc_set h.2.2 (by have := h.2.1; omega) B hB]
    simp [hB]
  · rcases List.mem_or_eq_of_mem_set hA with h' | h'
    · exact h.2.2 A h'
    · subst h'; exact ⟨hB, hB1⟩
theorem NB.there {w : World} {g : Nat} {lv : Int} {As : List (Array Value)} (h : NB w g lv As) {i : Nat} (hi : i < 4) : w.there g (1 + i * 35) 35 := fun j hj => by
  refine ⟨?_, frozen_of_heap h.1 _⟩
  rw [cell_of_heap h.1]
  have : 1 + i * 35 + j < (nc lv As).toArray.size := by simp only [List.size_toArray, nc_length h.2.2 h.2.1]; omega
  rw [Array.getElem?_eq_getElem this]
  rfl
/-- A node: its level, its pointers. -/
structure Nd where
  (lv : Int) (ps : List Pt)
/-- Values that are pointers, whose addresses can be read. -/
def PtsV (w : World) (As : List (Array Value)) (ps : List Pt) : Prop := As.length = 4 ∧ ps.length = 4 ∧ ∀ (i : Nat) (A : Array Value) (p : Pt), As[i]? = some A → ps[i]? = some p → PtV w (.agg A) p
def NdV (w : World) (x : Value) (n : Nd) : Prop := ∃ As, x = .agg (nc n.lv As).toArray ∧ PtsV w As n.ps
theorem PtsV.keep0 {w w' : World} {As : List (Array Value)} {ps : List Pt} (h : PtsV w As ps) (f : Frm [] w w') : PtsV w' As ps := ⟨h.1, h.2.1, fun i A p h1 h2 => (h.2.2 i A p h1 h2).keep0 f⟩
theorem NdV.keep0 {w w' : World} {x : Value} {n : Nd} (h : NdV w x n) (f : Frm [] w w') : NdV w' x n := by
  obtain ⟨As, e, h1⟩ := h
  exact ⟨As, e, h1.keep0 f⟩
theorem ptv_size {w : World} {A : Array Value} {p : Pt} (h : PtV w (.agg A) p) : A.size = 35 ∧ A.all (·.oneCell') = true := by
  obtain ⟨a, cap, sp, e, h2, h3⟩ := h
  simp only [pv, Value.agg.injEq] at e
  subst e
  exact ⟨by rw [pc_size, h3], pc_one _ _ _⟩
theorem PtsV.rows {w : World} {As : List (Array Value)} {ps : List Pt} (h : PtsV w As ps) : Rows35 As := fun A hA => by
  obtain ⟨i, hi, rfl⟩ := List.getElem_of_mem hA
  have h1 := h.1
  have h2 := h.2.1
  exact ptv_size (h.2.2 i _ ps[i] (List.getElem?_eq_getElem hi) (List.getElem?_eq_getElem (by omega)))
theorem PtsV.get {w : World} {As : List (Array Value)} {ps : List Pt} (h : PtsV w As ps) {i : Nat} (hi : i < 4) : ∃ A p, As[i]? = some A ∧ ps[i]? = some p ∧ PtV w (.agg A) p := by
  have h1 := h.1
  have h2 := h.2.1
  exact ⟨As[i], ps[i], List.getElem?_eq_getElem (by omega), List.getElem?_eq_getElem (by omega), h.2.2 i _ _ (List.getElem?_eq_getElem (by omega)) (List.getElem?_eq_getElem (by omega))⟩
end Go.Proofs.Ytjjcjocomanohaa
