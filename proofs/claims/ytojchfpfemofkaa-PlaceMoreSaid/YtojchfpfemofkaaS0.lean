/-
  Plain facts of the insertion sort at an ascending row: it is stable. No conditions but those that each theorem names.
-/
import Derived.Test.YtojchfpfemofkaaPL
import Derived.Sort.LotA
namespace Go.Proofs.Ytojchfpfemofkaa
open Go.Sort
set_option linter.unusedVariables false
set_option linter.unusedSimpArgs false

section
variable {α : Type} [Inhabited α] (val : α → Nat) (lt lt' : α → α → Bool)
theorem insInner_eq (he : ∀ x y, val y < val x → lt x y = lt' x y) : ∀ (j : Nat) (d : Array α), j < d.size → (∀ p, p < j → val d[p]! < val d[j]!) → insInner lt 0 j d = insInner lt' 0 j d
  | 0, d, _, _ => by simp [insInner]
  | j + 1, d, hs, hp => by
    unfold insInner
    rw [he _ _ (hp j (by omega))]
    split
    · refine insInner_eq he j _ (by rw [size_swp]; omega) fun p hpj => ?_
      rw [swp_other _ _ _ _ (by omega) (by omega), swp_right _ _ _ (by omega)]
      exact hp p (by omega)
    · rfl
theorem insInner_size : ∀ (j : Nat) (d : Array α), (insInner lt 0 j d).size = d.size
  | 0, d => by simp [insInner]
  | j + 1, d => by
    unfold insInner
    split
    · rw [insInner_size j]; exact size_swp _ _ _
    · rfl
theorem insInner_from : ∀ (j : Nat) (d : Array α), j < d.size → (∀ p, p ≤ j → ∃ q, q ≤ j ∧ (insInner lt 0 j d)[p]! = d[q]!) ∧ ∀ p, j < p → (insInner lt 0 j d)[p]! = d[p]!
  | 0, d, _ => by
    unfold insInner
    exact ⟨fun p hp => ⟨p, hp, rfl⟩, fun _ _ => rfl⟩
  | j + 1, d, hs => by
    unfold insInner
    split
    · obtain ⟨i1, i2⟩ := insInner_from j (swp d (j + 1) j) (by rw [size_swp]; omega)
      refine ⟨fun p hp => ?_, fun p hp => ?_⟩
      · by_cases e : p = j + 1
        · subst e
          refine ⟨j, by omega, ?_⟩
          rw [i2 (j + 1) (by omega), swp_left _ _ _ (by omega) (by omega)]
        · obtain ⟨q, hq, h⟩ := i1 p (by omega)
          by_cases e2 : q = j
          · subst e2
            refine ⟨q + 1, by omega, ?_⟩
            rw [h, swp_right _ _ _ (by omega)]
          · refine ⟨q, by omega, ?_⟩
            rw [h, swp_other _ _ _ _ (by omega) e2]
      · rw [i2 p (by omega), swp_other _ _ _ _ (by omega) (by omega)]
    · exact ⟨fun p hp => ⟨p, hp, rfl⟩, fun _ _ => rfl⟩
theorem insOuter_eq (he : ∀ x y, val y < val x → lt x y = lt' x y) (b : Nat) : ∀ (k i : Nat) (d : Array α), b - i = k → b ≤ d.size → (∀ p q, p < q → i ≤ q → q < b → val d[p]! < val d[q]!) → insOuter lt 0 b i d = insOuter lt' 0 b i d
  | 0, i, d, hk, hs, hp => by
    rw [insOuter, insOuter.eq_def lt', if_neg (by omega), if_neg (by omega)]
  | k + 1, i, d, hk, hs, hp => by
    rw [insOuter, insOuter.eq_def lt', if_pos (by omega), if_pos (by omega)]
    rw [insInner_eq val lt lt' he i d (by omega) (fun p hpi => hp p i hpi (Nat.le_refl _) (by omega))]
    obtain ⟨i1, i2⟩ := insInner_from lt' i d (by omega)
    refine insOuter_eq he b k (i + 1) _ (by omega) (by rw [insInner_size]; exact hs) fun p q hpq hiq hqb => ?_
    rw [i2 q (by omega)]
    by_cases e : p ≤ i
    · obtain ⟨p', h1, h2⟩ := i1 p e
      rw [h2]
      exact hp p' q (by omega) (by omega) hqb
    · rw [i2 p (by omega)]
      exact hp p q hpq (by omega) hqb
end
/-- Is a device ahead? -/
def ahB (r : List Int) (a b : Nat) : Bool := decide (gt r b < gt r a ∨ (gt r a = gt r b ∧ a < b))
theorem ahB_iff {r : List Int} {a b : Nat} : ahB r a b = true ↔ Ah r a b := by simp [ahB, Ah]
theorem swoA (r : List Int) (m : Nat) : SWO (fun (x y : Fin (m + 1)) => ahB r x.val y.val) := ⟨fun x => by simp [ahB], fun x y z h1 h2 => by
    rw [ahB_iff] at *
    exact h1.trans h2, fun x y z h1 h2 => by
    simp only [ahB, decide_eq_false_iff_not] at *
    omega⟩
/-- The devices, in their order: as the insertion sort puts them. -/
def ups (m : Nat) : Array (Fin (m + 1)) := Array.ofFn id
theorem ups_size (m : Nat) : (ups m).size = m + 1 := by simp [ups]
theorem ups_get (m i : Nat) (h : i < m + 1) : (ups m)[i]! = ⟨i, h⟩ := by
  rw [getElem!_pos _ i (by rw [ups_size]; exact h)]; simp [ups]
theorem sorted_dev (r : List Int) (m : Nat) (lt : Fin (m + 1) → Fin (m + 1) → Bool) (hlt : ∀ x y, lt x y = decide (gt r y.val < gt r x.val)) (d : Array (Fin (m + 1))) (hd : d = insertionSort lt (ups m) 0 (m + 1)) :
    d.size = m + 1 ∧ (∀ x, x ∈ d.toList.map Fin.val ↔ x < m + 1) ∧ (d.toList.map Fin.val).Pairwise (Ah r) := by
  have e : insertionSort lt (ups m) 0 (m + 1) = insertionSort (fun (x y : Fin (m + 1)) => ahB r x.val y.val) (ups m) 0 (m + 1) := by
    unfold insertionSort
    refine insOuter_eq Fin.val lt _ (fun x y h => ?_) (m + 1) _ _ _ rfl (by rw [ups_size]; exact Nat.le_refl _) fun p q h1 h2 h3 => ?_
    · rw [hlt, ahB, decide_eq_decide]; omega
    · rw [ups_get m p (by omega), ups_get m q h3]; exact h1
  obtain ⟨⟨p1, p2, p3⟩, s⟩ := insertionSort_holds (swoA r m) (ups m) 0 (m + 1) (by omega) (by rw [ups_size]; exact Nat.le_refl _)
  rw [← e, ← hd] at p1 p3 s
  rw [ups_size] at p1
  have e0 : ∀ (a : Array (Fin (m + 1))) k, a.size = k → a.extract 0 k = a := fun a k h => by subst h; simp
  have e1 : d.extract 0 (m + 1) = d := e0 d _ p1
  have e2 : (ups m).extract 0 (m + 1) = ups m := e0 _ _ (ups_size m)
  rw [e1, e2] at p3
  have hmem : ∀ x, x ∈ d.toList.map Fin.val ↔ x < m + 1 := fun x => by
    rw [List.mem_map]
    constructor
    · rintro ⟨y, _, rfl⟩; exact y.isLt
    · intro h
      refine ⟨⟨x, h⟩, p3.mem_iff.2 ?_, rfl⟩
      rw [← ups_get m x h, getElem!_pos _ x (by rw [ups_size]; exact h)]
      exact Array.mem_toList_iff.2 (Array.getElem_mem _)
  refine ⟨p1, hmem, ?_⟩
  have hnd : (d.toList.map Fin.val).Nodup := by
    have h1 : (ups m).toList.map Fin.val = List.range (m + 1) := by
      apply List.ext_getElem
      · simp [ups_size]
      · intro i h1 h2
        have h3 : i < m + 1 := by simpa using h2
        have h4 := ups_get m i h3
        rw [getElem!_pos _ i (by rw [ups_size]; exact h3)] at h4
        simp [h4]
    have := p3.map Fin.val
    rw [h1] at this
    exact this.nodup_iff.2 List.nodup_range
  rw [List.pairwise_iff_getElem]
  intro i j hi hj hij
  have hj' : j < m + 1 := by simp at hj; omega
  have := s i j (Nat.zero_le _) hij hj'
  rw [getElem!_pos d i (by omega), getElem!_pos d j (by omega)] at this
  have hne : (d.toList.map Fin.val)[i] ≠ (d.toList.map Fin.val)[j] := fun h => by
    have := (List.pairwise_iff_getElem.1 hnd) i j hi hj hij
    exact this h
  rcases Ah.total (r := r) hne with h | h
  · exact h
  · exfalso
    rw [← ahB_iff] at h
    simp only [List.getElem_map, Array.getElem_toList] at h
    have this : ahB r d[j].val d[i].val = false := this
    rw [h] at this
    cases this
end Go.Proofs.Ytojchfpfemofkaa
