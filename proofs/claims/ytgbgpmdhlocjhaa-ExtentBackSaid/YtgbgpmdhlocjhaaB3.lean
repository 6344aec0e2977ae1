/-
  Arrays of 4,096 bools in a block. No conditions but those that each law names.
-/
import Derived.Test.YtgbgpmdhlocjhaaB2
namespace Go.Proofs.Ytgbgpmdhlocjhaa
open Go.RowKit
set_option linter.unusedVariables false
set_option linter.unusedSimpArgs false
set_option maxRecDepth 100000

/-- The cells of a set of sectors. -/
def bL (p : Int → Bool) : List Value := (List.range 4096).map fun (i : Nat) => Value.bool (p (i : Int))
def bA (p : Int → Bool) : Array Value := (bL p).toArray
theorem bL_length (p : Int → Bool) : (bL p).length = 4096 := by simp [bL]
theorem bA_size (p : Int → Bool) : (bA p).size = 4096 := by simp [bA, bL_length]
theorem bA_get (p : Int → Bool) (i : Nat) (h : i < 4096) : (bA p)[i]? = some (.bool (p (i : Int))) := by
  simp [bA, bL, h]
theorem bL_one (p : Int → Bool) : ∀ u ∈ bL p, u.oneCell' = true := by
  intro u hu
  simp only [bL, List.mem_map] at hu
  obtain ⟨i, _, rfl⟩ := hu
  rfl
theorem bA_one (p : Int → Bool) : (bA p).all (·.oneCell') = true := all_oneCell_toArray (bL_one p)
theorem bA_set (p : Int → Bool) (i : Nat) (h : i < 4096) (b : Bool) : (bA p).setIfInBounds i (.bool b) = bA fun s => if s = (i : Int) then b else p s := by
  apply Array.ext'
  simp only [bA, Array.toList_setIfInBounds, bL]
  apply List.ext_getElem?
  intro j
  rw [List.getElem?_set]
  simp only [List.length_map, List.length_range, List.getElem?_map]
  by_cases hj : i = j
  · subst hj; simp [h]
  · rw [if_neg hj]
    by_cases hl : j < 4096
    · rw [List.getElem?_range hl]
      simp only [Option.map_some]
      rw [if_neg (by omega)]
    · rw [List.getElem?_eq_none (by simp; omega)]; rfl
theorem bA_inj {p q : Int → Bool} (h : bA p = bA q) (s : Int) (h0 : 0 ≤ s) (h1 : s < 4096) : p s = q s := by
  have a := bA_get p s.toNat (by omega)
  have b := bA_get q s.toNat (by omega)
  rw [h, b] at a
  have e : ((s.toNat : Nat) : Int) = s := by omega
  simp only [e, Option.some.injEq, Value.bool.injEq] at a
  exact a.symm
def Bl (w : World) (g : Nat) (p : Int → Bool) : Prop := w.heap[g]? = some (.cells (bA p) 49 (0, 0))
theorem Bl.keep0 {w w' : World} {g : Nat} {p : Int → Bool} (h : Bl w g p) (f : Frm [] w w') : Bl w' g p := f.heap h (by simp)
theorem i49 : (Try.prog.info? 49).map (·.size) = some 4096 := by kernel_rfl
theorem bA_zero : bA (fun _ => false) = (List.replicate 4096 (Value.bool false)).toArray := by
  unfold bA bL
  rw [List.map_const', List.length_range]
theorem alloc49z (W : World) : (Instr.alloc 49 true (.tuple #[])).run Try.prog W = .ok (.pointer (some ⟨W.heap.size, 0, none⟩)) (W.alloc (.cells (List.replicate 4096 (Value.bool false)).toArray 49)) := by kernel_rfl
theorem exec_alloc49 {o : Oper} {a : Act} (hop : o.op = Op.alloc 49) (W : World) : (execOp a.eval o).run Try.prog W = .ok (.value (.pointer (some ⟨W.heap.size, 0, none⟩))) (W.alloc (.cells (bA fun _ => false) 49)) := by
  have h := alloc49z W
  rw [← bA_zero] at h
  generalize W.alloc (.cells (bA fun _ => false) 49) = W2 at *
  simp only [execOp, hop, Sem.run_bind, Sem.run_pure, h, Result.andThen_ok]
theorem Bl.cell {w : World} {g : Nat} {p : Int → Bool} (h : Bl w g p) (i : Nat) (hi : i < 4096) : w.cell? ⟨g, i, none⟩ = some (.bool (p (i : Int))) := by
  rw [cell_of_heap h, bA_get p i hi]
theorem Bl.set {w : World} {g : Nat} {p : Int → Bool} (h : Bl w g p) (i : Nat) (hi : i < 4096) (b : Bool) : Bl (w.setCell ⟨g, i, none⟩ (.bool b)) g fun s => if s = (i : Int) then b else p s := by
  unfold Bl
  rw [heap_setCell_same _ h, bA_set p i hi]
theorem Bl.load {w : World} {g : Nat} {p : Int → Bool} (h : Bl w g p) : (Instr.loadAt 49 (.pointer (some ⟨g, 0, none⟩))).run Try.prog w = .ok (.agg (bA p)) w := by
  refine run_loadAt_mid w g 0 49 (bL p) _ (fun j u hu => ?_) Try.underlying49 rfl (by rw [i49]; simp [bL_length])
  rw [cell_of_heap h]
  simpa [bA] using hu
/-- Has a list a sector? -/
def hasB (l : List Ex) (s : Int) : Bool := l.any fun x => decide (x.1 ≤ s ∧ s < x.1 + x.2)
theorem hasB_iff {l : List Ex} {s : Int} : hasB l s = true ↔ hasE l s := by simp [hasB, hasE]
def inR (l : List Int) : Prop := ∀ s ∈ l, 0 ≤ s ∧ s < 4096
/-- What Of tells. -/
def OfP (l : List Int) (r : List Ex) (c : Int) : Prop := (inR l ∧ c = 0 ∧ IsL r (· ∈ l)) ∨ (¬ inR l ∧ c = 2 ∧ r = [])
theorem OfP.eq {l : List Int} {r r' : List Ex} {c c' : Int} (h : OfP l r c) (h' : OfP l r' c') : r = r' ∧ c = c' := by
  rcases h with ⟨a, b, h⟩ | ⟨a, b, h⟩ <;> rcases h' with ⟨a', b', h'⟩ | ⟨a', b', h'⟩
  · exact ⟨h.eq h' fun _ => Iff.rfl, by rw [b, b']⟩
  · exact absurd a a'
  · exact absurd a' a
  · exact ⟨by rw [h, h'], by rw [b, b']⟩
end Go.Proofs.Ytgbgpmdhlocjhaa
