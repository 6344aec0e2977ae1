/-
  Plain facts of entries in order, and of a heap of them; of no program. No conditions but those that each theorem names.
-/
import Derived.Lib.Bytealg
namespace Go.Proofs.YtjdejhgfkjeeiaaGreatDoor
open Go
set_option linter.unusedVariables false
set_option linter.unusedSimpArgs false

theorem cb_refl : ∀ l : List UInt8, Lib.compareBytes l l = 0
  | [] => rfl
  | x :: r => by simp [Lib.compareBytes, cb_refl r]
theorem cb_eq : ∀ {a b : List UInt8}, Lib.compareBytes a b = 0 → a = b
  | [], [], _ => rfl
  | [], _ :: _, h => by simp [Lib.compareBytes] at h
  | _ :: _, [], h => by simp [Lib.compareBytes] at h
  | x :: a, y :: b, h => by
    simp only [Lib.compareBytes] at h
    by_cases h1 : x < y
    · rw [if_pos h1] at h; cases h
    · rw [if_neg h1] at h
      by_cases h2 : y < x
      · rw [if_pos h2] at h; cases h
      · rw [if_neg h2] at h
        rw [cb_eq h, UInt8.le_antisymm (UInt8.not_lt.1 h2) (UInt8.not_lt.1 h1)]
theorem cb_swap : ∀ (a b : List UInt8), Lib.compareBytes b a = - Lib.compareBytes a b
  | [], [] => rfl
  | [], _ :: _ => rfl
  | _ :: _, [] => rfl
  | x :: a, y :: b => by
    simp only [Lib.compareBytes]
    by_cases h1 : x < y
    · have h2 : ¬ y < x := fun h => UInt8.lt_irrefl _ (UInt8.lt_trans h1 h)
      rw [if_pos h1, if_neg h2, if_pos h1]; rfl
    · by_cases h2 : y < x
      · rw [if_pos h2, if_neg h1, if_pos h2]
      · rw [if_neg h2, if_neg h1, if_neg h1, if_neg h2, cb_swap a b]
theorem cb_three : ∀ (a b : List UInt8), Lib.compareBytes a b = -1 ∨ Lib.compareBytes a b = 0 ∨ Lib.compareBytes a b = 1
  | [], [] => .inr (.inl rfl)
  | [], _ :: _ => .inl rfl
  | _ :: _, [] => .inr (.inr rfl)
  | x :: a, y :: b => by
    simp only [Lib.compareBytes]
    by_cases h1 : x < y
    · rw [if_pos h1]; exact .inl rfl
    · rw [if_neg h1]
      by_cases h2 : y < x
      · rw [if_pos h2]; exact .inr (.inr rfl)
      · rw [if_neg h2]; exact cb_three a b
theorem cb_trans : ∀ {a b c : List UInt8}, Lib.compareBytes a b < 0 → Lib.compareBytes b c < 0 → Lib.compareBytes a c < 0
  | [], [], _, h, _ => by simp [Lib.compareBytes] at h
  | [], _ :: _, [], _, h => by simp [Lib.compareBytes] at h
  | [], _ :: _, _ :: _, _, _ => by simp [Lib.compareBytes]
  | _ :: _, [], _, h, _ => by simp [Lib.compareBytes] at h
  | _ :: _, _ :: _, [], _, h => by simp [Lib.compareBytes] at h
  | x :: a, y :: b, z :: c, h1, h2 => by
    simp only [Lib.compareBytes] at h1 h2 ⊢
    by_cases xy : x < y
    · by_cases yz : y < z
      · rw [if_pos (UInt8.lt_trans xy yz)]; decide
      · rw [if_neg yz] at h2
        by_cases zy : z < y
        · rw [if_pos zy] at h2; exact absurd h2 (by decide)
        · have : y = z := UInt8.le_antisymm (UInt8.not_lt.1 zy) (UInt8.not_lt.1 yz)
          subst this
          rw [if_pos xy]; decide
    · rw [if_neg xy] at h1
      by_cases yx : y < x
      · rw [if_pos yx] at h1; exact absurd h1 (by decide)
      · have : x = y := UInt8.le_antisymm (UInt8.not_lt.1 yx) (UInt8.not_lt.1 xy)
        subst this
        rw [if_neg yx] at h1
        by_cases xz : x < z
        · rw [if_pos xz]; decide
        · rw [if_neg xz] at h2 ⊢
          by_cases zx : z < x
          · rw [if_pos zx] at h2; exact absurd h2 (by decide)
          · rw [if_neg zx] at h2 ⊢
            exact cb_trans h1 h2
/-- An entry: a number, and bytes. -/
abbrev En := Int × List UInt8
/-- What the comparison of two entries tells. -/
def cmpE (x y : En) : Int := if y.1 < x.1 then -1 else if x.1 < y.1 then 1 else Lib.compareBytes x.2 y.2
def ltE (x y : En) : Bool := decide (cmpE x y < 0)
theorem ltE_iff {x y : En} : ltE x y = true ↔ y.1 < x.1 ∨ (x.1 = y.1 ∧ Lib.compareBytes x.2 y.2 < 0) := by
  unfold ltE cmpE
  rw [decide_eq_true_eq]
  by_cases h1 : y.1 < x.1
  · rw [if_pos h1]; simp [h1]
  · rw [if_neg h1]
    by_cases h2 : x.1 < y.1
    · rw [if_pos h2]
      constructor
      · intro h; exact absurd h (by decide)
      · rintro (h | ⟨h, _⟩) <;> omega
    · rw [if_neg h2]
      have : x.1 = y.1 := by omega
      simp [this]
theorem ltE_irrefl (x : En) : ltE x x = false := by
  rw [Bool.eq_false_iff]
  intro h
  rcases ltE_iff.1 h with h | ⟨_, h⟩
  · omega
  · rw [cb_refl] at h; omega
theorem ltE_trans {x y z : En} (h1 : ltE x y = true) (h2 : ltE y z = true) : ltE x z = true := by
  rw [ltE_iff] at *
  rcases h1 with h1 | ⟨h1, k1⟩ <;> rcases h2 with h2 | ⟨h2, k2⟩
  · left; omega
  · left; omega
  · left; omega
  · right; exact ⟨by omega, cb_trans k1 k2⟩
theorem ltE_asymm {x y : En} (h : ltE x y = true) : ltE y x = false := by
  rw [Bool.eq_false_iff]
  intro h2
  have := ltE_trans h h2
  rw [ltE_irrefl] at this
  cases this
theorem ltE_tri {x y : En} (h1 : ltE x y = false) (h2 : ltE y x = false) : x = y := by
  have n1 : ¬ _ := fun h => by rw [ltE_iff.2 h] at h1; cases h1
  have n2 : ¬ _ := fun h => by rw [ltE_iff.2 h] at h2; cases h2
  have e1 : x.1 = y.1 := by
    have : ¬ y.1 < x.1 := fun h => n1 (.inl h)
    have : ¬ x.1 < y.1 := fun h => n2 (.inl h)
    omega
  have m1 : ¬ Lib.compareBytes x.2 y.2 < 0 := fun h => n1 (.inr ⟨e1, h⟩)
  have m2 : ¬ Lib.compareBytes y.2 x.2 < 0 := fun h => n2 (.inr ⟨e1.symm, h⟩)
  rw [cb_swap] at m2
  exact Prod.ext e1 (cb_eq (by omega))
/-- Not ahead, and not ahead. -/
theorem leE_trans {x y z : En} (h1 : ltE y x = false) (h2 : ltE z y = false) : ltE z x = false := by
  rw [Bool.eq_false_iff]
  intro h
  cases hyz : ltE y z with
  | true => rw [ltE_trans hyz h] at h1; cases h1
  | false =>
    rw [ltE_tri hyz h2, h] at h1; cases h1
theorem lt_leE {x y z : En} (h1 : ltE x y = true) (h2 : ltE z y = false) : ltE z x = false := leE_trans (ltE_asymm h1) h2

def e0 : En := (0, [])
def en (l : List En) (i : Nat) : En := l.getD i e0
theorem en_eq {l : List En} {i : Nat} (h : i < l.length) : en l i = l[i] := by simp [en, List.getD, List.getElem?_eq_getElem h]
/-- Two entries of a row, each in the other's place. -/
def swp (l : List En) (i j : Nat) : List En := (l.set i (en l j)).set j (en l i)
theorem swp_len (l : List En) (i j : Nat) : (swp l i j).length = l.length := by simp [swp]
theorem swp_en {l : List En} {i j k : Nat} (hi : i < l.length) (hj : j < l.length) (hk : k < l.length) : en (swp l i j) k = if k = j then en l i else if k = i then en l j else en l k := by
  rw [en_eq (by rw [swp_len]; exact hk)]
  simp only [swp, List.getElem_set]
  by_cases h1 : k = j
  · rw [if_pos h1.symm, if_pos h1]
  · rw [if_neg (fun h => h1 h.symm), if_neg h1]
    by_cases h2 : k = i
    · rw [if_pos h2.symm, if_pos h2]
    · rw [if_neg (fun h => h2 h.symm), if_neg h2, en_eq hk]
theorem swp_perm {l : List En} {i j : Nat} (hi : i < l.length) (hj : j < l.length) : (swp l i j).Perm l := by
  unfold swp
  rw [en_eq hi, en_eq hj]
  exact List.set_set_perm hi hj
def par (i : Nat) : Nat := (i - 1) / 2
theorem par_lt {i : Nat} (h : 0 < i) : par i < i := by unfold par; omega
/-- A heap's last entry goes up. -/
def upL (l : List En) (j : Nat) : List En :=
  if h : par j = j ∨ ltE (en l j) (en l (par j)) = false then l else upL (swp l (par j) j) (par j)
termination_by j
decreasing_by
  have h1 : par j ≠ j := fun e => h (.inl e)
  unfold par at *
  omega
theorem upL_stop {l : List En} {j : Nat} (h : par j = j ∨ ltE (en l j) (en l (par j)) = false) : upL l j = l := by rw [upL, dif_pos h]
theorem upL_step {l : List En} {j : Nat} (h1 : par j ≠ j) (h2 : ltE (en l j) (en l (par j)) = true) : upL l j = upL (swp l (par j) j) (par j) := by
  rw [upL, dif_neg (by rintro (h | h); exact h1 h; rw [h2] at h; cases h)]
def Heap (l : List En) : Prop := ∀ i, 0 < i → i < l.length → ltE (en l i) (en l (par i)) = false
structure UpOk (l : List En) (j : Nat) : Prop where
  ok : ∀ i, 0 < i → i < l.length → i ≠ j → ltE (en l i) (en l (par i)) = false
  kid : ∀ c, 0 < c → c < l.length → par c = j → 0 < j → ltE (en l c) (en l (par j)) = false
theorem up_all : ∀ (j : Nat) (l : List En), j < l.length → UpOk l j → (upL l j).Perm l ∧ Heap (upL l j) := by
  intro j
  induction j using Nat.strongRecOn with
  | _ j ih =>
    intro l hj h
    by_cases hs : par j = j ∨ ltE (en l j) (en l (par j)) = false
    · rw [upL_stop hs]
      refine ⟨List.Perm.refl _, fun i h0 hi => ?_⟩
      by_cases e : i = j
      · subst e
        rcases hs with hs | hs
        · have := par_lt h0; omega
        · exact hs
      · exact h.ok i h0 hi e
    · have h1 : par j ≠ j := fun e => hs (.inl e)
      have h2 : ltE (en l j) (en l (par j)) = true := by
        cases hb : ltE (en l j) (en l (par j)) with
        | true => rfl
        | false => exact absurd (.inr hb) hs
      have hp : par j < j := by unfold par at *; omega
      have h0 : 0 < j := by omega
      rw [upL_step h1 h2]
      have hpl : par j < l.length := by omega
      have hen := fun k (hk : k < l.length) => swp_en hpl hj hk
      have hU : UpOk (swp l (par j) j) (par j) := by
        refine ⟨fun i i0 hi hne => ?_, fun c c0 hc hpc hp0 => ?_⟩
        · rw [swp_len] at hi
          have hpi := par_lt i0
          rw [hen i hi, hen (par i) (by omega)]
          by_cases ij : i = j
          · subst ij
            rw [if_pos rfl, if_neg h1, if_pos rfl]
            exact ltE_asymm h2
          · rw [if_neg ij, if_neg hne]
            by_cases e1 : par i = j
            · rw [if_pos e1]; exact h.kid i i0 hi e1 h0
            · rw [if_neg e1]
              have hi2 := h.ok i i0 hi ij
              by_cases e2 : par i = par j
              · rw [if_pos e2]; rw [e2] at hi2; exact lt_leE h2 hi2
              · rw [if_neg e2]; exact hi2
        · rw [swp_len] at hc
          have hpp := par_lt hp0
          have e2 : en (swp l (par j) j) (par (par j)) = en l (par (par j)) := by rw [hen _ (by omega), if_neg (by omega), if_neg (by omega)]
          rw [hen c hc, e2]
          have hop := h.ok (par j) hp0 hpl (by omega)
          by_cases cj : c = j
          · rw [if_pos cj]; exact hop
          · have := par_lt c0
            rw [if_neg cj, if_neg (by omega)]
            have hoc := h.ok c c0 hc cj
            rw [hpc] at hoc
            exact leE_trans hop hoc
      obtain ⟨q1, q2⟩ := ih (par j) hp (swp l (par j) j) (by rw [swp_len]; exact hpl) hU
      exact ⟨q1.trans (swp_perm hpl hj), q2⟩
/-- The lesser of an entry's two kids. -/
def kid (l : List En) (i : Nat) : Nat := if 2 * i + 2 < l.length ∧ ltE (en l (2 * i + 2)) (en l (2 * i + 1)) = true then 2 * i + 2 else 2 * i + 1
theorem kid_lt {l : List En} {i : Nat} (h : 2 * i + 1 < l.length) : kid l i < l.length := by
  unfold kid; split
  · rename_i h2; exact h2.1
  · exact h
theorem kid_gt (l : List En) (i : Nat) : i < kid l i := by unfold kid; split <;> omega
/-- A heap's entry goes down. -/
def downL (l : List En) (i : Nat) : List En × Nat :=
  if h : l.length ≤ 2 * i + 1 ∨ ltE (en l (kid l i)) (en l i) = false then (l, i) else downL (swp l i (kid l i)) (kid l i)
termination_by l.length - i
decreasing_by
  have h1 : ¬ l.length ≤ 2 * i + 1 := fun e => h (.inl e)
  have := kid_gt l i
  have := kid_lt (l := l) (i := i) (by omega)
  rw [swp_len]
  omega
theorem downL_stop {l : List En} {i : Nat} (h : l.length ≤ 2 * i + 1 ∨ ltE (en l (kid l i)) (en l i) = false) : downL l i = (l, i) := by rw [downL, dif_pos h]
theorem downL_step {l : List En} {i : Nat} (h1 : 2 * i + 1 < l.length) (h2 : ltE (en l (kid l i)) (en l i) = true) : downL l i = downL (swp l i (kid l i)) (kid l i) := by
  rw [downL, dif_neg (by rintro (h | h); omega; rw [h2] at h; cases h)]
structure DownOk (l : List En) (k : Nat) : Prop where
  ok : ∀ i, 0 < i → i < l.length → par i ≠ k → ltE (en l i) (en l (par i)) = false
  kid : ∀ c, 0 < c → c < l.length → par c = k → 0 < k → ltE (en l c) (en l (par k)) = false
theorem par_two {i k : Nat} (h0 : 0 < i) (h : par i = k) : i = 2 * k + 1 ∨ i = 2 * k + 2 := by unfold par at h; omega
theorem par_kid (l : List En) (k : Nat) : par (kid l k) = k := by unfold kid par; split <;> omega
/-- The other kid is not ahead of the lesser one. -/
theorem kid_least {l : List En} {i k : Nat} (h0 : 0 < i) (hi : i < l.length) (h : par i = k) : ltE (en l i) (en l (kid l k)) = false := by
  unfold kid
  rcases par_two h0 h with e | e
  · by_cases hc : 2 * k + 2 < l.length ∧ ltE (en l (2 * k + 2)) (en l (2 * k + 1)) = true
    · rw [if_pos hc, e]; exact ltE_asymm hc.2
    · rw [if_neg hc, e]; exact ltE_irrefl _
  · by_cases hc : 2 * k + 2 < l.length ∧ ltE (en l (2 * k + 2)) (en l (2 * k + 1)) = true
    · rw [if_pos hc, e]; exact ltE_irrefl _
    · rw [if_neg hc, e]
      cases hb : ltE (en l (2 * k + 2)) (en l (2 * k + 1)) with
      | true => exact absurd ⟨by omega, hb⟩ hc
      | false => rfl
theorem down_all : ∀ (m : Nat) (l : List En) (k : Nat), l.length - k ≤ m → DownOk l k → (downL l k).1.Perm l ∧ Heap (downL l k).1 := by
  intro m
  induction m with
  | zero =>
    intro l k hm h
    rw [downL_stop (.inl (by omega))]
    exact ⟨List.Perm.refl _, fun i h0 hi => h.ok i h0 hi (by have := par_lt h0; have hi : i < l.length := hi; omega)⟩
  | succ m ih =>
    intro l k hm h
    by_cases hs : l.length ≤ 2 * k + 1 ∨ ltE (en l (kid l k)) (en l k) = false
    · rw [downL_stop hs]
      refine ⟨List.Perm.refl _, fun i h0 hi => ?_⟩
      by_cases e : par i = k
      · rcases hs with hs | hs
        · have hi : i < l.length := hi
          have := par_two h0 e; omega
        · rw [e]; exact leE_trans hs (kid_least h0 hi e)
      · exact h.ok i h0 hi e
    · have h1 : 2 * k + 1 < l.length := by
        rcases Nat.lt_or_ge (2 * k + 1) l.length with h | h
        · exact h
        · exact absurd (.inl h) hs
      have h2 : ltE (en l (kid l k)) (en l k) = true := by
        cases hb : ltE (en l (kid l k)) (en l k) with
        | true => rfl
        | false => exact absurd (.inr hb) hs
      rw [downL_step h1 h2]
      obtain ⟨j, hjd⟩ : ∃ j, j = kid l k := ⟨_, rfl⟩
      have hkj := kid_gt l k
      have hjl := kid_lt (l := l) (i := k) h1
      have hpj := par_kid l k
      have hle := fun i (h0 : 0 < i) (hi : i < l.length) (h : par i = k) => kid_least (l := l) h0 hi h
      rw [← hjd] at h2 hkj hjl hpj hle ⊢
      have hkl : k < l.length := by omega
      have hen := fun i (hi : i < l.length) => swp_en hkl hjl hi
      have hD : DownOk (swp l k j) j := by
        refine ⟨fun i i0 hi hne => ?_, fun c c0 hc hpc j0 => ?_⟩
        · rw [swp_len] at hi
          have hpi := par_lt i0
          rw [hen i hi, hen (par i) (by omega), if_neg hne]
          by_cases ij : i = j
          · subst ij
            rw [if_pos rfl, if_pos hpj]
            exact ltE_asymm h2
          · rw [if_neg ij]
            by_cases ik : i = k
            · subst ik
              rw [if_pos rfl, if_neg (by omega)]
              exact h.kid j (by omega) hjl hpj i0
            · rw [if_neg ik]
              by_cases e : par i = k
              · rw [if_pos e]; exact hle i i0 hi e
              · rw [if_neg e]; exact h.ok i i0 hi e
        · rw [swp_len] at hc
          have := par_lt c0
          rw [hpj, hen c hc, hen k hkl, if_neg (by omega), if_neg (by omega), if_neg (by omega), if_pos rfl]
          have := h.ok c c0 hc (by omega)
          rwa [hpc] at this
      obtain ⟨q1, q2⟩ := ih (swp l k j) j (by rw [swp_len]; omega) hD
      exact ⟨q1.trans (swp_perm hkl hjl), q2⟩
/-- A heap, and one more entry. -/
def putQ (l : List En) (x : En) : List En := upL (l ++ [x]) l.length
theorem putQ_all {l : List En} (x : En) (h : Heap l) : (putQ l x).Perm (x :: l) ∧ Heap (putQ l x) := by
  have hen : ∀ i, i < l.length → en (l ++ [x]) i = en l i := fun i hi => by rw [en_eq (by simp; omega), en_eq hi, List.getElem_append_left hi]
  have hU : UpOk (l ++ [x]) l.length := by
    refine ⟨fun i i0 hi hne => ?_, fun c c0 hc hpc h0 => ?_⟩
    · simp at hi
      have := par_lt i0
      rw [hen i (by omega), hen (par i) (by omega)]
      exact h i i0 (by omega)
    · simp at hc
      have := par_lt c0
      omega
  obtain ⟨h1, h2⟩ := up_all l.length (l ++ [x]) (by simp) hU
  exact ⟨h1.trans (List.perm_append_comm (l₁ := l) (l₂ := [x])), h2⟩
/-- A heap without its first entry. -/
def cutQ (l : List En) : List En := (swp l 0 (l.length - 1)).take (l.length - 1)
def takeQ (l : List En) : List En := (downL (cutQ l) 0).1
theorem cutQ_len (l : List En) : (cutQ l).length = l.length - 1 := by simp [cutQ, swp_len]
theorem cutQ_last {l : List En} (h : 0 < l.length) : en (swp l 0 (l.length - 1)) (l.length - 1) = en l 0 := by
  rw [swp_en h (by omega) (by omega), if_pos rfl]
theorem swp_cut {l : List En} (h : 0 < l.length) : swp l 0 (l.length - 1) = cutQ l ++ [en l 0] := by
  have hl := swp_len l 0 (l.length - 1)
  have h1 : (swp l 0 (l.length - 1)).take (l.length - 1) ++ (swp l 0 (l.length - 1)).drop (l.length - 1) = swp l 0 (l.length - 1) := List.take_append_drop _ _
  have h2 : (swp l 0 (l.length - 1)).drop (l.length - 1) = [en l 0] := by
    rw [List.drop_eq_getElem_cons (by omega), List.drop_eq_nil_of_le (by omega), ← en_eq, cutQ_last h]
  rw [h2] at h1
  exact h1.symm
theorem takeQ_all {l : List En} (h : Heap l) (h0 : 0 < l.length) : (en l 0 :: takeQ l).Perm l ∧ Heap (takeQ l) ∧ (takeQ l).length = l.length - 1 := by
  have hc := swp_cut h0
  have hp := swp_perm (l := l) (i := 0) (j := l.length - 1) h0 (by omega)
  have hen : ∀ i, 0 < i → i < (cutQ l).length → en (cutQ l) i = en l i := fun i i0 hi => by
    have h1 : i < l.length - 1 := by rw [cutQ_len] at hi; exact hi
    have h2 := swp_en (l := l) (i := 0) (j := l.length - 1) (k := i) h0 (by omega) (by omega)
    rw [if_neg (by omega), if_neg (by omega)] at h2
    rw [← h2, en_eq hi, en_eq (by rw [swp_len]; omega)]
    simp [cutQ]
  have hD : DownOk (cutQ l) 0 := by
    refine ⟨fun i i0 hi hne => ?_, fun c _ _ _ h => absurd h (by omega)⟩
    have := par_lt i0
    rw [hen i i0 hi, hen (par i) (by omega) (by omega)]
    exact h i i0 (by rw [cutQ_len] at hi; omega)
  obtain ⟨h1, h2⟩ := down_all _ (cutQ l) 0 (Nat.le_refl _) hD
  have h3 : (en l 0 :: takeQ l).Perm l := by
    refine (List.Perm.cons _ h1).trans ?_
    refine (List.perm_append_comm (l₁ := [en l 0]) (l₂ := cutQ l)).trans ?_
    rw [← hc]; exact hp
  refine ⟨h3, h2, ?_⟩
  have := h3.length_eq
  simp at this; omega
theorem heap_first {l : List En} (h : Heap l) : ∀ i, i < l.length → ltE (en l i) (en l 0) = false := by
  intro i
  induction i using Nat.strongRecOn with
  | _ i ih =>
    intro hi
    by_cases h0 : i = 0
    · subst h0; exact ltE_irrefl _
    · have hp := par_lt (i := i) (by omega)
      exact leE_trans (ih (par i) hp (by omega)) (h i (by omega) hi)
theorem heap_nil : Heap [] := fun i _ h => absurd h (by simp)
/-- Rising without two alike. -/
def Ris (l : List En) : Prop := l.Pairwise (fun a b => ltE a b = true)
theorem ris_eq : ∀ {l m : List En}, Ris l → Ris m → (∀ x, x ∈ l ↔ x ∈ m) → l = m
  | [], [], _, _, _ => rfl
  | [], y :: m, _, _, h => absurd ((h y).2 (by simp)) (by simp)
  | x :: l, [], _, _, h => absurd ((h x).1 (by simp)) (by simp)
  | x :: l, y :: m, h1, h2, h => by
    obtain ⟨a1, a2⟩ := List.pairwise_cons.1 h1
    obtain ⟨b1, b2⟩ := List.pairwise_cons.1 h2
    have hxy : x = y := by
      rcases List.mem_cons.1 ((h x).1 (by simp)) with e | e
      · exact e
      · rcases List.mem_cons.1 ((h y).2 (by simp)) with e2 | e2
        · exact e2.symm
        · have := ltE_trans (a1 y e2) (b1 x e)
          rw [ltE_irrefl] at this; cases this
    subst hxy
    have nl : ∀ z ∈ l, z ≠ x := fun z hz e => by have := a1 z hz; rw [e, ltE_irrefl] at this; cases this
    have nm : ∀ z ∈ m, z ≠ x := fun z hz e => by have := b1 z hz; rw [e, ltE_irrefl] at this; cases this
    rw [ris_eq a2 b2 (fun z => ⟨fun hz => by
      rcases List.mem_cons.1 ((h z).1 (List.mem_cons_of_mem _ hz)) with e | e
      · exact absurd e (nl z hz)
      · exact e, fun hz => by
      rcases List.mem_cons.1 ((h z).2 (List.mem_cons_of_mem _ hz)) with e | e
      · exact absurd e (nm z hz)
      · exact e⟩)]
/-- How the taking of all out of a heap stands: what was taken, each once, and what is left. -/
structure Took (es B q : List En) : Prop where
  heap : Heap q
  ris : Ris B
  mem : ∀ x, x ∈ es ↔ x ∈ q ∨ x ∈ B
  low : ∀ b ∈ B, ∀ x ∈ q, ltE x b = false
theorem Took.start {q es : List En} (h : Heap q) (hp : q.Perm es) : Took es [] q := ⟨h, List.Pairwise.nil, fun x => by simp [hp.mem_iff], fun b hb => by cases hb⟩
theorem Took.first {es B q : List En} (h : Took es B q) (h0 : 0 < q.length) : en q 0 ∈ es := (h.mem _).2 (.inl (by rw [en_eq h0]; exact List.getElem_mem _))
/-- The first one is another one than the last that was taken. -/
theorem Took.more {es B q : List En} (h : Took es B q) (h0 : 0 < q.length) (hn : ∀ b, B.getLast? = some b → en q 0 ≠ b) : Took es (B ++ [en q 0]) (takeQ q) := by
  obtain ⟨h1, h2, h3⟩ := takeQ_all h.heap h0
  have hx : en q 0 ∈ q := by rw [en_eq h0]; exact List.getElem_mem _
  have hnb : ∀ b ∈ B, ltE b (en q 0) = true := fun b hb => by
    have hle := h.low b hb _ hx
    cases hb2 : ltE b (en q 0) with
    | true => rfl
    | false =>
      have e := ltE_tri hb2 hle
      -- the last one is not lower than b, nor ahead of the first
      obtain ⟨c, hc⟩ : ∃ c, B.getLast? = some c := by
        cases hB : B.getLast? with
        | some c => exact ⟨c, rfl⟩
        | none => rw [List.getLast?_eq_none_iff] at hB; rw [hB] at hb; cases hb
      have hcm : c ∈ B := List.mem_of_getLast? hc
      have hcl := h.low c hcm _ hx
      by_cases hbc : b = c
      · subst hbc; exact absurd e.symm (hn b hc)
      · obtain ⟨ys, hsplit⟩ := List.getLast?_eq_some_iff.1 hc
        have hbd : b ∈ ys := by
          rw [hsplit] at hb
          rcases List.mem_append.1 hb with hb | hb
          · exact hb
          · simp at hb; exact absurd hb hbc
        have hr := h.ris
        rw [hsplit] at hr
        have := (List.pairwise_append.1 hr).2.2 b hbd c (by simp)
        rw [e, hcl] at this; cases this
  refine ⟨h2, ?_, fun x => ?_, fun b hb x hxq => ?_⟩
  · refine List.pairwise_append.2 ⟨h.ris, List.pairwise_singleton _ _, fun a ha b hb => ?_⟩
    simp at hb; subst hb; exact hnb a ha
  · rw [h.mem, ← h1.mem_iff]; simp only [List.mem_cons, List.mem_append, List.not_mem_nil, or_false]
    constructor
    · rintro ((h | h) | h) <;> simp [h]
    · rintro (h | h | h) <;> simp [h]
  · have hxq2 : x ∈ q := h1.mem_iff.1 (List.mem_cons_of_mem _ hxq)
    rcases List.mem_append.1 hb with hb | hb
    · exact h.low b hb x hxq2
    · simp at hb; subst hb
      obtain ⟨i, hi, rfl⟩ := List.getElem_of_mem hxq2
      rw [← en_eq hi]; exact heap_first h.heap i hi
/-- The first one was taken already. -/
theorem Took.same {es B q : List En} (h : Took es B q) (h0 : 0 < q.length) (hn : en q 0 ∈ B) : Took es B (takeQ q) := by
  obtain ⟨h1, h2, h3⟩ := takeQ_all h.heap h0
  refine ⟨h2, h.ris, fun x => ?_, fun b hb x hxq => h.low b hb x (h1.mem_iff.1 (List.mem_cons_of_mem _ hxq))⟩
  rw [h.mem, ← h1.mem_iff]
  simp only [List.mem_cons]
  constructor
  · rintro ((h | h) | h)
    · subst h; exact .inr hn
    · exact .inl h
    · exact .inr h
  · rintro (h | h) <;> simp [h]
theorem Took.done {es B : List En} (h : Took es B []) : Ris B ∧ ∀ x, x ∈ B ↔ x ∈ es := ⟨h.ris, fun x => by rw [h.mem]; simp⟩
end Go.Proofs.YtjdejhgfkjeeiaaGreatDoor
