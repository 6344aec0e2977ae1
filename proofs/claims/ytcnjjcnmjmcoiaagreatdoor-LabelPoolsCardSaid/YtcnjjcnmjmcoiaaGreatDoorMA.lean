/-
  Rows of labels, and what Pool tells. No conditions but those that each theorem names.
-/
import Derived.Test.YtcnjjcnmjmcoiaaGreatDoorLY
import Derived.Test.YtcnjjcnmjmcoiaaGreatDoorKD
import Derived.Test.YtcnjjcnmjmcoiaaGreatDoorLR
namespace Go.Proofs.YtcnjjcnmjmcoiaaGreatDoor
open Go.RowKit Go.Maps
set_option linter.unusedVariables false
set_option linter.unusedSimpArgs false
set_option maxRecDepth 100000

open Kr (OwnE SlE Enco RowTys)
abbrev LabT := { l : Lab // l.pool.length = 32 }
def eL (x : LabT) : List Value := lc x.1
theorem lc_inj {l m : Lab} (hl : l.pool.length = 32) (hm : m.pool.length = 32) (h : lc l = lc m) : l = m := by
  unfold lc at h
  obtain ⟨h1, h2⟩ := List.append_inj h (by rw [bvs_length, bvs_length, hl, hm])
  simp only [List.cons.injEq, Value.int.injEq, true_and, and_true] at h2
  exact Lab.ext' (bvs_inj h1) h2.1 h2.2.1 h2.2.2.1 h2.2.2.2.1 h2.2.2.2.2
theorem encL : Enco eL 37 where
  len x := lc_length x.2
  one x u hu := by
    have := lc_one x.1
    rw [List.all_toArray, List.all_eq_true] at this
    exact this u hu
  pos := by omega
  inj x y h := Subtype.ext (lc_inj x.2 y.2 h)
/-- The pools of those labels that may be. -/
def idsOf (ls : List LabT) : List IdT := (ls.filter fun x => mayB x.1).map fun x => ⟨x.1.pool, x.2⟩
theorem idsOf_snoc (ls : List LabT) (x : LabT) : idsOf (ls ++ [x]) = idsOf ls ++ (if mayB x.1 then [⟨x.1.pool, x.2⟩] else []) := by
  unfold idsOf
  rw [List.filter_append, List.map_append]
  by_cases h : mayB x.1 = true <;> simp [h]
theorem idsOf_length (ls : List LabT) : (idsOf ls).length ≤ ls.length := by
  unfold idsOf
  rw [List.length_map]
  exact List.length_filter_le _ _
/-- The pool that most of some IDs are, of as many the least. -/
def PoolR (S : List IdT) (r : List UInt8 × Bool) : Prop := (S = [] ∧ r = (ids0, false)) ∨ ∃ x ∈ S, r = (x.1, true) ∧ ∀ y ∈ S, S.count y < S.count x ∨ (S.count y = S.count x ∧ ltI y x = false)
theorem PoolR.eq {S : List IdT} {r q : List UInt8 × Bool} (h : PoolR S r) (k : PoolR S q) : r = q := by
  rcases h with ⟨h1, rfl⟩ | ⟨x, hx, rfl, h⟩
  · rcases k with ⟨_, rfl⟩ | ⟨y, hy, _⟩
    · rfl
    · subst h1; cases hy
  · rcases k with ⟨k1, _⟩ | ⟨y, hy, rfl, k⟩
    · subst k1; cases hx
    · have h1 := h y hy
      have k1 := k x hx
      have : x = y := by
        rcases h1 with h1 | ⟨_, h1⟩ <;> rcases k1 with k1 | ⟨_, k1⟩
        · omega
        · omega
        · omega
        · exact ltI_total k1 h1
      rw [this]
/-- The best of the first so many of a row of IDs in their order. -/
def Bst (S K : List IdT) (t : List UInt8) (m : Nat) : Prop := (m = 0 ∧ ∀ y ∈ K, S.count y = 0) ∨ ∃ x ∈ K, t = x.1 ∧ m = S.count x ∧ 0 < m ∧ ∀ y ∈ K, S.count y < S.count x ∨ (S.count y = S.count x ∧ ltI y x = false)
theorem Bst.start (S : List IdT) (t : List UInt8) : Bst S [] t 0 := .inl ⟨rfl, by simp⟩
theorem Bst.more {S K : List IdT} {t : List UInt8} {m : Nat} (h : Bst S K t m) (x : IdT) (hx : m < S.count x) : Bst S (K ++ [x]) x.1 (S.count x) := by
  refine .inr ⟨x, by simp, rfl, rfl, by omega, fun y hy => ?_⟩
  rcases List.mem_append.1 hy with hy | hy
  · rcases h with ⟨rfl, h⟩ | ⟨z, hz, _, rfl, _, h⟩
    · rw [h y hy]; exact .inl hx
    · have := h y hy
      exact .inl (by omega)
  · simp at hy; subst hy
    exact .inr ⟨rfl, ltI_irrefl _⟩
theorem Bst.less {S K : List IdT} {t : List UInt8} {m : Nat} (h : Bst S K t m) (x : IdT) (hx : ¬ m < S.count x) (hK : ∀ y ∈ K, ltI x y = false) : Bst S (K ++ [x]) t m := by
  rcases h with ⟨rfl, h⟩ | ⟨z, hz, rfl, rfl, h0, h⟩
  · refine .inl ⟨rfl, fun y hy => ?_⟩
    rcases List.mem_append.1 hy with hy | hy
    · exact h y hy
    · simp at hy; subst hy; omega
  · refine .inr ⟨z, by simp [hz], rfl, rfl, h0, fun y hy => ?_⟩
    rcases List.mem_append.1 hy with hy | hy
    · exact h y hy
    · simp at hy; subst hy
      by_cases e : S.count y = S.count z
      · exact .inr ⟨e, hK z hz⟩
      · exact .inl (by omega)
theorem Bst.done {S K : List IdT} (hK : ∀ x, x ∈ K ↔ x ∈ S) {m : Nat} {t : List UInt8} (h : Bst S K t m) (ht : m = 0 → t = ids0) : PoolR S (t, decide (0 < m)) := by
  rcases h with ⟨rfl, h⟩ | ⟨z, hz, rfl, rfl, h0, h⟩
  · refine .inl ⟨?_, by rw [ht rfl]; rfl⟩
    rcases S with _ | ⟨a, S⟩
    · rfl
    · have := h a ((hK a).2 (by simp))
      simp at this
  · exact .inr ⟨z, (hK z).1 hz, by simp [h0], fun y hy => h y ((hK y).2 hy)⟩
end Go.Proofs.YtcnjjcnmjmcoiaaGreatDoor
