/-
  Plain facts for LabelMost, and rows of labels that are made. No conditions but those that each theorem names.
-/
import Derived.Test.YtcnjjcnmjmcoiaaGreatDoorMB
namespace Go.Proofs.YtcnjjcnmjmcoiaaGreatDoor
open Go.RowKit Go.Maps
set_option linter.unusedVariables false
set_option linter.unusedSimpArgs false
set_option maxRecDepth 100000

open Kr (OwnE SlE Enco RowTys)
theorem tysL : RowTys Tryz.prog 34 28 37 72 := ⟨Tryz.underlying34, .agg (lc zeroLab).toArray, by kernel_rfl, by kernel_rfl⟩
theorem fold_set2 (off : Nat) (post : List Value) : ∀ (vs : List Value) (k : Nat) (pre mid : List Value), mid.length = vs.length → pre.length = off + k → (vs.zipIdx k).foldl (fun (cs : Array Value) (x : Value × Nat) => cs.setIfInBounds (off + x.2) x.1) (pre ++ (mid ++ post)).toArray = (pre ++ (vs ++ post)).toArray
  | [], k, pre, mid, h, _ => by
    obtain rfl : mid = [] := List.eq_nil_of_length_eq_zero (by simpa using h)
    rfl
  | v :: vs, k, pre, [], h, _ => by simp at h
  | v :: vs, k, pre, s :: mid, h, hp => by
    have ih := fold_set2 off post vs (k + 1) (pre ++ [v]) mid (by simpa using h) (by simp; omega)
    simp only [List.zipIdx_cons, List.foldl_cons]
    have e : (pre ++ (s :: mid ++ post)).toArray.setIfInBounds (off + k) v = (pre ++ [v] ++ (mid ++ post)).toArray := by
      apply Array.ext'
      rw [Array.toList_setIfInBounds, ← hp]
      simp
    rw [e]
    simpa using ih
theorem info28 : ∃ i, Tryz.prog.info? 28 = some i ∧ i.zero = some (.agg (lc zeroLab).toArray) ∧ i.size = 37 := by
  obtain ⟨i, hi, hz, hs, _⟩ := info_parts (show (Tryz.prog.info? 28).map (fun i => (i.zero, i.size, i.bytes)) = some (some (.agg (lc zeroLab).toArray), 37, 72) by kernel_rfl)
  exact ⟨i, hi, hz, hs⟩
theorem lv_cells (l : Lab) : (lv l).cells = (lc l).toArray := rfl
theorem fill_cons {place : Nat → Option (Nat × Nat)} {cells : Array Value} {i : Nat} {v : Value} {rest : List (Nat × Value)} {off size : Nat} (hp : place i = some (off, size)) (h1 : v.cells.size = size) (h2 : off + size ≤ cells.size) :
    Instr.fill place cells ((i, v) :: rest) = Instr.fill place (v.cells.zipIdx.foldl (fun (cs : Array Value) (x : Value × Nat) => cs.setIfInBounds (off + x.2) x.1) cells) rest := by
  subst h1
  rw [Instr.fill, hp]
  simp only
  rw [if_neg (by simp; omega)]
theorem built28 {l : Lab} (hl : l.pool.length = 32) : Tryz.prog.builtSlice 28 1 [(0, lv l)] = some (lc l).toArray := by
  obtain ⟨i, hi, hz, hsz⟩ := info28
  unfold Program.builtSlice
  simp only [hi, hz, hsz]
  have h0 : (Array.range (1 * 37)).map ((Value.agg (lc zeroLab).toArray).cells[· % (Value.agg (lc zeroLab).toArray).cells.size]!) = (lc zeroLab).toArray := by kernel_rfl
  rw [if_neg (by decide), h0]
  rw [fill_cons (off := 0) (size := 37) rfl (by rw [lv_cells]; simp [lc_length hl]) (by simp [lc_length zeroLab_len]), Instr.fill, lv_cells]
  have := fold_set2 0 [] (lc l) 0 [] (lc zeroLab) (by rw [lc_length hl, lc_length zeroLab_len]) rfl
  simp only [List.nil_append, List.append_nil] at this
  simpa [← Array.foldl_toList] using this
theorem built28x3 {l m n : Lab} (hl : l.pool.length = 32) (hm : m.pool.length = 32) (hn : n.pool.length = 32) : Tryz.prog.builtSlice 28 3 [(0, lv l), (1, lv m), (2, lv n)] = some (lc l ++ (lc m ++ lc n)).toArray := by
  obtain ⟨i, hi, hz, hsz⟩ := info28
  unfold Program.builtSlice
  simp only [hi, hz, hsz]
  have h0 : (Array.range (3 * 37)).map ((Value.agg (lc zeroLab).toArray).cells[· % (Value.agg (lc zeroLab).toArray).cells.size]!) = (lc zeroLab ++ (lc zeroLab ++ lc zeroLab)).toArray := by kernel_rfl
  have lz := lc_length zeroLab_len
  have ll := lc_length hl
  have lm := lc_length hm
  have ln := lc_length hn
  rw [if_neg (by decide), h0]
  have e1 := fold_set2 0 (lc zeroLab ++ lc zeroLab) (lc l) 0 [] (lc zeroLab) (by omega) rfl
  have e2 := fold_set2 37 (lc zeroLab) (lc m) 0 (lc l) (lc zeroLab) (by omega) (by omega)
  have e3 := fold_set2 74 [] (lc n) 0 (lc l ++ lc m) (lc zeroLab) (by omega) (by simp; omega)
  simp only [List.nil_append, List.append_nil, List.append_assoc] at e1 e2 e3
  have f1 : (lc l).toArray.zipIdx.foldl (fun (cs : Array Value) (x : Value × Nat) => cs.setIfInBounds (0 + x.2) x.1) (lc zeroLab ++ (lc zeroLab ++ lc zeroLab)).toArray = (lc l ++ (lc zeroLab ++ lc zeroLab)).toArray := by
    simpa [← Array.foldl_toList] using e1
  have f2 : (lc m).toArray.zipIdx.foldl (fun (cs : Array Value) (x : Value × Nat) => cs.setIfInBounds (37 + x.2) x.1) (lc l ++ (lc zeroLab ++ lc zeroLab)).toArray = (lc l ++ (lc m ++ lc zeroLab)).toArray := by
    simpa [← Array.foldl_toList] using e2
  have f3 : (lc n).toArray.zipIdx.foldl (fun (cs : Array Value) (x : Value × Nat) => cs.setIfInBounds (74 + x.2) x.1) (lc l ++ (lc m ++ lc zeroLab)).toArray = (lc l ++ (lc m ++ lc n)).toArray := by
    simpa [← Array.foldl_toList] using e3
  rw [fill_cons (off := 0) (size := 37) rfl (by rw [lv_cells]; simpa using ll) (by simp; omega), lv_cells, f1, fill_cons (off := 37) (size := 37) rfl (by rw [lv_cells]; simpa using lm) (by simp; omega), lv_cells, f2,
    fill_cons (off := 74) (size := 37) rfl (by rw [lv_cells]; simpa using ln) (by simp; omega), lv_cells, f3, Instr.fill]
/-- A label that a row bears is appended. -/
theorem PoolR.perm {S T : List IdT} (h : S.Perm T) {r : List UInt8 × Bool} (k : PoolR S r) : PoolR T r := by
  rcases k with ⟨rfl, rfl⟩ | ⟨x, hx, rfl, k⟩
  · exact .inl ⟨List.Perm.eq_nil h.symm, rfl⟩
  · exact .inr ⟨x, h.mem_iff.1 hx, rfl, fun y hy => by rw [← h.count_eq, ← h.count_eq]; exact k y (h.mem_iff.2 hy)⟩
theorem idsOf_perm {l m : List LabT} (h : l.Perm m) : (idsOf l).Perm (idsOf m) := (h.filter _).map _
theorem PoolR.most {S : List IdT} (x : IdT) (hx : x ∈ S) (h : ∀ y, y ≠ x → S.count y < S.count x) : PoolR S (x.1, true) := by
  refine .inr ⟨x, hx, rfl, fun y hy => ?_⟩
  by_cases e : y = x
  · subst e; exact .inr ⟨rfl, ltI_irrefl _⟩
  · exact .inl (h y e)
theorem idsOf_append (a b : List LabT) : idsOf (a ++ b) = idsOf a ++ idsOf b := by simp [idsOf]
theorem idsOf_rep {x : LabT} (h : mayB x.1 = true) (n : Nat) : idsOf (List.replicate n x) = List.replicate n ⟨x.1.pool, x.2⟩ := by
  unfold idsOf
  rw [List.filter_replicate, if_pos h, List.map_replicate]
/-- The pool of more than half of the labels is the one that Pool tells. -/
theorem PoolR.half {others : List LabT} {x : LabT} {n : Nat} (h : mayB x.1 = true) (hn : others.length < n) {all : List LabT} (hp : all.Perm (others ++ List.replicate n x)) {r : List UInt8 × Bool} (k : PoolR (idsOf all) r) : r = (x.1.pool, true) := by
  have k2 := k.perm (idsOf_perm hp)
  rw [idsOf_append, idsOf_rep h] at k2
  refine k2.eq (PoolR.most ⟨x.1.pool, x.2⟩ (by simp; exact .inr (by omega)) fun y hy => ?_)
  have h1 : (idsOf others).count y ≤ (idsOf others).length := List.count_le_length
  have h2 := idsOf_length others
  have h3 : (List.replicate n (⟨x.1.pool, x.2⟩ : IdT)).count y = 0 := List.count_eq_zero.2 fun hm => hy (List.eq_of_mem_replicate hm)
  have h4 : (List.replicate n (⟨x.1.pool, x.2⟩ : IdT)).count ⟨x.1.pool, x.2⟩ = n := List.count_replicate_self
  rw [List.count_append, List.count_append, h3, h4]
  omega
/-- Labels that may not be do not count. -/
theorem PoolR.bad {b x : LabT} (hb : mayB b.1 = false) (h : mayB x.1 = true) {r : List UInt8 × Bool} (k : PoolR (idsOf [b, b, x]) r) : r = (x.1.pool, true) := by
  have e : idsOf [b, b, x] = [⟨x.1.pool, x.2⟩] := by simp [idsOf, hb, h]
  rw [e] at k
  exact k.eq (PoolR.most ⟨x.1.pool, x.2⟩ (by simp) fun y hy => by
    rw [List.count_eq_zero.2 (by simpa using hy)]; simp)
end Go.Proofs.YtcnjjcnmjmcoiaaGreatDoor
