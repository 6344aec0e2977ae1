/-
  Plain facts of what is chosen: the best device, the chosen ones, how often. No conditions but those that each theorem names.
-/
import Derived.Test.YtojchfpfemofkaaK
namespace Go.Proofs.Ytojchfpfemofkaa
set_option linter.unusedVariables false
set_option linter.unusedSimpArgs false

/-- The room of a device. -/
def gt (r : List Int) (i : Nat) : Int := r.getD i 0
theorem gt_lt {r : List Int} {i : Nat} (h : i < r.length) : gt r i = r[i] := by simp [gt, h]
theorem gt_ge {r : List Int} {i : Nat} (h : r.length ≤ i) : gt r i = 0 := by simp [gt, List.getElem?_eq_none h]
theorem gt_pos {r : List Int} {i : Nat} (h : 0 < gt r i) : i < r.length := by
  rcases Nat.lt_or_ge i r.length with h1 | h1
  · exact h1
  · rw [gt_ge h1] at h; omega
/-- Is k better than what was found? -/
def btr (r : List Int) (k : Nat) : Option Nat → Bool
  | none => true
  | some m => decide (gt r m < gt r k)
def bst (r : List Int) (cs : List Nat) : Nat → Option Nat
  | 0 => none
  | k + 1 => if (decide (0 < gt r k) && !(cs.contains k) && btr r k (bst r cs k)) = true then some k else bst r cs k
def Cand (r : List Int) (cs : List Nat) (j : Nat) : Prop := 0 < gt r j ∧ j ∉ cs
def Ah (r : List Int) (a b : Nat) : Prop := gt r b < gt r a ∨ (gt r a = gt r b ∧ a < b)
def BstP (r : List Int) (cs : List Nat) (k : Nat) : Option Nat → Prop
  | none => ∀ j, j < k → ¬ Cand r cs j
  | some m => m < k ∧ Cand r cs m ∧ ∀ j, j < k → Cand r cs j → j ≠ m → Ah r m j
theorem bst_spec (r : List Int) (cs : List Nat) : ∀ k, BstP r cs k (bst r cs k)
  | 0 => fun j h => by omega
  | k + 1 => by
    have ih := bst_spec r cs k
    unfold bst
    by_cases hc : Cand r cs k
    · have h1 : decide (0 < gt r k) = true := by simpa using hc.1
      have h2 : cs.contains k = false := by simpa using hc.2
      rw [h1, h2]
      simp only [Bool.true_and, Bool.not_false]
      cases hb : bst r cs k with
      | none =>
        rw [hb] at ih
        simp only [btr, if_true]
        refine ⟨by omega, hc, fun j hj hcj hne => ?_⟩
        exact absurd hcj (ih j (by omega))
      | some m =>
        rw [hb] at ih
        obtain ⟨i1, i2, i3⟩ := ih
        simp only [btr, decide_eq_true_eq]
        split
        · rename_i hlt
          refine ⟨by omega, hc, fun j hj hcj hne => ?_⟩
          by_cases hjm : j = m
          · subst hjm; exact .inl hlt
          · rcases i3 j (by omega) hcj hjm with h | ⟨h, _⟩
            · exact .inl (by omega)
            · exact .inl (by omega)
        · rename_i hlt
          refine ⟨by omega, i2, fun j hj hcj hne => ?_⟩
          by_cases hjk : j = k
          · subst hjk
            rcases Int.lt_or_eq_of_le (show gt r j ≤ gt r m by omega) with h | h
            · exact .inl h
            · exact .inr ⟨h.symm, i1⟩
          · exact i3 j (by omega) hcj hne
    · have h0 : (decide (0 < gt r k) && !(cs.contains k)) = false := by
        rw [Bool.eq_false_iff]
        intro h
        simp at h
        exact hc ⟨h.1, h.2⟩
      rw [h0]
      simp only [Bool.false_and, Bool.false_eq_true, if_false]
      cases hb : bst r cs k with
      | none =>
        rw [hb] at ih
        intro j hj hcj
        by_cases hjk : j = k
        · subst hjk; exact hc hcj
        · exact ih j (by omega) hcj
      | some m =>
        rw [hb] at ih
        obtain ⟨i1, i2, i3⟩ := ih
        refine ⟨by omega, i2, fun j hj hcj hne => ?_⟩
        by_cases hjk : j = k
        · subst hjk; exact absurd hcj hc
        · exact i3 j (by omega) hcj hne
theorem Ah.asymm {r : List Int} {a b : Nat} (h : Ah r a b) (h2 : Ah r b a) : False := by
  rcases h with h | h <;> rcases h2 with h2 | h2 <;> omega
theorem Ah.irr {r : List Int} {a : Nat} (h : Ah r a a) : False := by rcases h with h | h <;> omega
theorem Ah.trans {r : List Int} {a b c : Nat} (h : Ah r a b) (h2 : Ah r b c) : Ah r a c := by
  unfold Ah at *
  omega
theorem Ah.total {r : List Int} {a b : Nat} (h : a ≠ b) : Ah r a b ∨ Ah r b a := by unfold Ah; omega
/-- What is best is known by its being ahead. -/
theorem bst_some {r : List Int} {cs : List Nat} {k m : Nat} (h1 : m < k) (h2 : Cand r cs m) (h3 : ∀ j, j < k → Cand r cs j → j ≠ m → Ah r m j) : bst r cs k = some m := by
  have h := bst_spec r cs k
  cases hb : bst r cs k with
  | none => rw [hb] at h; exact absurd h2 (h m h1)
  | some x =>
    rw [hb] at h
    obtain ⟨x1, x2, x3⟩ := h
    by_cases e : m = x
    · rw [e]
    · exact ((h3 x x1 x2 (fun q => e q.symm)).asymm (x3 m h1 h2 e)).elim
/-- The first j that are chosen. -/
def chs (r : List Int) : Nat → Option (List Nat)
  | 0 => some []
  | j + 1 => match chs r j with
    | none => none
    | some l => match bst r l r.length with
      | none => none
      | some m => some (l ++ [m])
structure Chosen (r : List Int) (w : Nat) (l : List Nat) : Prop where
  len : l.length = w
  nd : l.Nodup
  pos : ∀ x ∈ l, 0 < gt r x
  top : ∀ j, 0 < gt r j → j ∉ l → ∀ x ∈ l, Ah r x j
theorem chs_spec (r : List Int) : ∀ (j : Nat) (l : List Nat), chs r j = some l → Chosen r j l
  | 0, l, h => by
    simp [chs] at h
    subst h
    exact ⟨rfl, List.nodup_nil, by simp, by simp⟩
  | j + 1, l, h => by
    unfold chs at h
    cases h1 : chs r j with
    | none => rw [h1] at h; cases h
    | some l0 =>
      rw [h1] at h
      have ih := chs_spec r j l0 h1
      have hb := bst_spec r l0 r.length
      cases h2 : bst r l0 r.length with
      | none => simp only [h2] at h; cases h
      | some m =>
        simp only [h2, Option.some.injEq] at h
        rw [h2] at hb
        obtain ⟨b1, b2, b3⟩ := hb
        subst h
        refine ⟨by simp [ih.len], ?_, fun x hx => ?_, fun j' h3 h4 x hx => ?_⟩
        · rw [List.nodup_append]
          refine ⟨ih.nd, by simp, ?_⟩
          intro a ha b hb' e
          simp at hb'
          subst hb'; subst e
          exact b2.2 ha
        · rcases List.mem_append.1 hx with h | h
          · exact ih.pos x h
          · simp at h; subst h; exact b2.1
        · simp at h4
          rcases List.mem_append.1 hx with h | h
          · exact ih.top j' h3 (by simp [h4]) x h
          · simp at h; subst h
            exact b3 j' (gt_pos h3) ⟨h3, h4.1⟩ h4.2
theorem chs_none {r : List Int} {j : Nat} (h : chs r j = none) : ∀ k, j ≤ k → chs r k = none
  | k, hk => by
    induction k with
    | zero => obtain rfl : j = 0 := by omega
              exact h
    | succ k ih =>
      by_cases e : j = k + 1
      · subst e; exact h
      · unfold chs; rw [ih (by omega)]
/-! Sums. -/
def sumN : Nat → (Nat → Int) → Int
  | 0, _ => 0
  | n + 1, f => sumN n f + f n
theorem sumN_le {f h : Nat → Int} : ∀ {n : Nat}, (∀ i, i < n → f i ≤ h i) → sumN n f ≤ sumN n h
  | 0, _ => Int.le_refl _
  | n + 1, e => by
    have h1 := sumN_le (n := n) fun i hi => e i (by omega)
    have h2 := e n (by omega)
    simp only [sumN]; omega
theorem sumN_congr {f h : Nat → Int} : ∀ {n : Nat}, (∀ i, i < n → f i = h i) → sumN n f = sumN n h
  | 0, _ => rfl
  | n + 1, e => by
    have h1 := sumN_congr (n := n) fun i hi => e i (by omega)
    have h2 := e n (by omega)
    simp only [sumN]; omega
theorem sumN_add (f h : Nat → Int) : ∀ n : Nat, sumN n (fun i => f i + h i) = sumN n f + sumN n h
  | 0 => rfl
  | n + 1 => by
    have h1 := sumN_add f h n
    simp only [sumN]; omega
theorem sumN_mul (c : Int) (f : Nat → Int) : ∀ n : Nat, sumN n (fun i => c * f i) = c * sumN n f
  | 0 => by simp [sumN]
  | n + 1 => by
    have h1 := sumN_mul c f n
    simp only [sumN]
    rw [h1, Int.mul_add]
theorem sumN_zero : ∀ n : Nat, sumN n (fun _ => 0) = 0
  | 0 => rfl
  | n + 1 => by simp only [sumN, sumN_zero n]; rfl
theorem sumN_one (a : Nat) : ∀ n : Nat, sumN n (fun i => if i = a then 1 else 0) = if a < n then 1 else 0
  | 0 => by simp [sumN]
  | n + 1 => by
    have h1 := sumN_one a n
    simp only [sumN, h1]
    (repeat' split) <;> omega
theorem sumN_mem {n : Nat} : ∀ l : List Nat, l.Nodup → (∀ x ∈ l, x < n) → sumN n (fun i => if i ∈ l then 1 else 0) = (l.length : Int)
  | [], _, _ => by simp [sumN_zero]
  | a :: l, h, hx => by
    have h1 := List.nodup_cons.1 h
    have ih := sumN_mem (n := n) l h1.2 fun x hx' => hx x (List.mem_cons_of_mem _ hx')
    have e : ∀ i, i < n → (if i ∈ a :: l then (1 : Int) else 0) = (if i = a then 1 else 0) + (if i ∈ l then 1 else 0) := fun i _ => by
      by_cases e1 : i = a
      · subst e1; simp [h1.1]
      · simp [e1]
    rw [sumN_congr e, sumN_add, ih, sumN_one, if_pos (hx a (List.mem_cons_self ..))]
    simp; omega
theorem sum_take (r : List Int) : ∀ k, k ≤ r.length → (r.take k).sum = sumN k (gt r)
  | 0, _ => by simp [sumN]
  | k + 1, h => by
    rw [List.take_succ_eq_append_getElem (by omega), List.sum_append, sum_take r k (by omega)]
    simp [sumN, gt_lt (show k < r.length by omega)]
/-- How many of the first k can take one. -/
def cntK (r : List Int) (k : Nat) : Int := sumN k (fun i => if 0 < gt r i then 1 else 0)
abbrev cnt (r : List Int) : Int := cntK r r.length
theorem cntK_mono (r : List Int) {a b : Nat} (h : a ≤ b) : cntK r a ≤ cntK r b := by
  induction b with
  | zero => obtain rfl : a = 0 := by omega
            exact Int.le_refl _
  | succ b ih =>
    by_cases e : a = b + 1
    · subst e; exact Int.le_refl _
    · have := ih (by omega)
      unfold cntK at *
      simp only [sumN]
      split <;> omega
theorem cntK_le (r : List Int) : ∀ k : Nat, 0 ≤ cntK r k ∧ cntK r k ≤ k
  | 0 => by simp [cntK, sumN]
  | k + 1 => by
    have := cntK_le r k
    unfold cntK at *
    simp only [sumN]
    split <;> omega
theorem chosen_le {r : List Int} {w : Nat} {l : List Nat} (h : Chosen r w l) : (w : Int) ≤ cnt r := by
  have h1 := sumN_mem (n := r.length) l h.nd fun x hx => gt_pos (h.pos x hx)
  rw [← h.len, ← h1]
  refine sumN_le fun i hi => ?_
  by_cases e : i ∈ l
  · simp [e, h.pos i e]
  · simp only [e, if_false]; split <;> omega
theorem chs_ge {r : List Int} : ∀ w : Nat, (w : Int) ≤ cnt r → ∃ l, chs r w = some l
  | 0, _ => ⟨[], rfl⟩
  | w + 1, h => by
    obtain ⟨l, hl⟩ := chs_ge (r := r) w (by omega)
    have hc := chs_spec r w l hl
    unfold chs
    rw [hl]
    have hb := bst_spec r l r.length
    cases h2 : bst r l r.length with
    | some m => exact ⟨l ++ [m], by simp [h2]⟩
    | none =>
      rw [h2] at hb
      exfalso
      have h1 := sumN_mem (n := r.length) l hc.nd fun x hx => gt_pos (hc.pos x hx)
      rw [hc.len] at h1
      have h3 : cnt r ≤ sumN r.length (fun i => if i ∈ l then 1 else 0) := by
        refine sumN_le fun i hi => ?_
        by_cases e : i ∈ l
        · simp only [e, if_true]; split <;> omega
        · have : ¬ 0 < gt r i := fun hp => hb i hi ⟨hp, e⟩
          simp [e, this]
      omega
theorem chs_lt {r : List Int} {w : Nat} (h : cnt r < (w : Int)) : chs r w = none := by
  cases hl : chs r w with
  | none => rfl
  | some l => have := chosen_le (chs_spec r w l hl); omega
/-- The chosen ones are the first of the devices in their order. -/
theorem chs_sorted {r : List Int} {S : List Nat} (hm : ∀ x, x ∈ S ↔ x < r.length) (hs : S.Pairwise (Ah r)) : ∀ (j : Nat) (l : List Nat), chs r j = some l → l = S.take j
  | 0, l, h => by simp [chs] at h; simp [h]
  | j + 1, l, h => by
    unfold chs at h
    cases h1 : chs r j with
    | none => rw [h1] at h; cases h
    | some l0 =>
      rw [h1] at h
      have ih := chs_sorted hm hs j l0 h1
      have hb := bst_spec r l0 r.length
      cases h2 : bst r l0 r.length with
      | none => simp only [h2] at h; cases h
      | some m =>
        simp only [h2, Option.some.injEq] at h
        rw [h2] at hb
        obtain ⟨b1, b2, b3⟩ := hb
        subst h
        have hmS : m ∈ S := (hm m).2 b1
        have hj : j < S.length := by
          rcases Nat.lt_or_ge j S.length with h | h
          · exact h
          · exact absurd (by rw [ih, List.take_of_length_le h]; exact hmS) b2.2
        rw [List.take_succ_eq_append_getElem hj, ← ih]
        congr 2
        by_cases e : m = S[j]
        · exact e
        · exfalso
          have hsp : S = l0 ++ S[j] :: S.drop (j + 1) := by
            rw [ih, ← List.drop_eq_getElem_cons hj, List.take_append_drop]
          have hmd : m ∈ S.drop (j + 1) := by
            have hmm := hmS
            rw [hsp] at hmm
            rcases List.mem_append.1 hmm with h | h
            · exact absurd h b2.2
            · rcases List.mem_cons.1 h with h | h
              · exact absurd h e
              · exact h
          have hs' := hs
          rw [hsp] at hs'
          obtain ⟨p1, p2, p3⟩ := List.pairwise_append.1 hs'
          have h6 : Ah r S[j] m := (List.pairwise_cons.1 p2).1 m hmd
          have h7 : S[j] ∉ l0 := fun hin => (p3 _ hin _ (List.mem_cons_self ..)).irr
          have h8 : 0 < gt r S[j] := by
            have := b2.1
            rcases h6 with h | h <;> omega
          exact (b3 S[j] (gt_pos h8) ⟨h8, h7⟩ (fun q => e q.symm)).asymm h6
/-- One sector less on each. -/
def decL : List Int → List Nat → List Int
  | r, [] => r
  | r, a :: l => decL (r.set a (gt r a - 1)) l
theorem decL_length : ∀ (l : List Nat) (r : List Int), (decL r l).length = r.length
  | [], r => rfl
  | a :: l, r => by rw [decL, decL_length l]; simp
theorem gt_set {r : List Int} {a : Nat} (ha : a < r.length) (y : Int) (i : Nat) : gt (r.set a y) i = if i = a then y else gt r i := by
  unfold gt
  simp only [List.getD_eq_getElem?_getD, List.getElem?_set]
  by_cases e : i = a
  · subst e; simp [ha]
  · simp [e, Ne.symm e]
theorem gt_decL : ∀ (l : List Nat) (r : List Int), l.Nodup → (∀ x ∈ l, x < r.length) → ∀ i, gt (decL r l) i = gt r i - if i ∈ l then 1 else 0
  | [], r, _, _, i => by simp [decL]
  | a :: l, r, h, hx, i => by
    have h1 := List.nodup_cons.1 h
    have ha := hx a (List.mem_cons_self ..)
    rw [decL, gt_decL l _ h1.2 (fun x hx' => by rw [List.length_set]; exact hx x (List.mem_cons_of_mem _ hx')) i, gt_set ha]
    by_cases e : i = a
    · subst e; simp [h1.1]
    · simp [e]
theorem decL_append : ∀ (l m : List Nat) (r : List Int), decL r (l ++ m) = decL (decL r l) m
  | [], m, r => rfl
  | a :: l, m, r => by rw [List.cons_append, decL, decL, decL_append l m]
/-- What is chosen, or none. -/
def cho (r : List Int) (w : Nat) : Option (List Nat) := if w = 0 then none else chs r w
theorem cho_spec {r : List Int} {w : Nat} {l : List Nat} (h : cho r w = some l) : 0 < w ∧ Chosen r w l := by
  unfold cho at h
  split at h
  · cases h
  · exact ⟨by omega, chs_spec r w l h⟩
theorem cho_ge {r : List Int} {w : Nat} (hw : 0 < w) (h : (w : Int) ≤ cnt r) : ∃ l, cho r w = some l := by
  unfold cho
  rw [if_neg (by omega)]
  exact chs_ge w h
theorem cho_lt {r : List Int} {w : Nat} (h : w = 0 ∨ cnt r < (w : Int)) : cho r w = none := by
  unfold cho
  split
  · rfl
  · exact chs_lt (by omega)
/-- The room behind so many that were chosen one after the other. -/
def aft (w : Nat) : List Int → Nat → Option (List Int)
  | r, 0 => some r
  | r, k + 1 => match cho r w with
    | none => none
    | some l => aft w (decL r l) k
/-- So often can be chosen. -/
def Mny (w : Nat) (r : List Int) (k : Nat) : Prop := ∃ r', aft w r k = some r' ∧ cho r' w = none
theorem aft_last (w : Nat) : ∀ (k : Nat) (r r' : List Int) (l : List Nat), aft w r k = some r' → cho r' w = some l → aft w r (k + 1) = some (decL r' l)
  | 0, r, r', l, h, h2 => by
    simp [aft] at h
    subst h
    simp [aft, h2]
  | k + 1, r, r', l, h, h2 => by
    unfold aft at h
    cases h1 : cho r w with
    | none => simp only [h1] at h; cases h
    | some l0 =>
      simp only [h1] at h
      have := aft_last w k _ r' l h h2
      rw [aft]
      simp only [h1]
      exact this
theorem aft_end (w : Nat) : ∀ (k : Nat) (r r' : List Int), aft w r k = some r' → cho r' w = none → ∀ j, k < j → aft w r j = none
  | 0, r, r', h, h2, j, hj => by
    simp [aft] at h
    subst h
    obtain ⟨j, rfl⟩ : ∃ q, j = q + 1 := ⟨j - 1, by omega⟩
    simp [aft, h2]
  | k + 1, r, r', h, h2, j, hj => by
    obtain ⟨j, rfl⟩ : ∃ q, j = q + 1 := ⟨j - 1, by omega⟩
    unfold aft at h ⊢
    cases h1 : cho r w with
    | none => rfl
    | some l0 =>
      simp only [h1] at h ⊢
      exact aft_end w k _ r' h h2 j (by omega)
theorem Mny.le {w : Nat} {r : List Int} {k j : Nat} (h : Mny w r k) (h2 : aft w r j ≠ none) : j ≤ k := by
  obtain ⟨r', h3, h4⟩ := h
  rcases Nat.lt_or_ge k j with h5 | h5
  · exact absurd (aft_end w k r r' h3 h4 j h5) h2
  · exact h5
theorem Mny.eq {w : Nat} {r : List Int} {k j : Nat} (h : Mny w r k) (h2 : Mny w r j) : k = j := by
  have h3 := h
  have h4 := h2
  obtain ⟨r', e, _⟩ := h3
  obtain ⟨s', e', _⟩ := h4
  have := h.le (j := j) (by rw [e']; simp)
  have := h2.le (j := k) (by rw [e]; simp)
  omega
theorem Mny.zero {w : Nat} {r : List Int} (h : cho r w = none) : Mny w r 0 := ⟨r, rfl, h⟩
theorem Mny.succ {w : Nat} {r : List Int} {l : List Nat} {k : Nat} (h : cho r w = some l) (h2 : Mny w (decL r l) k) : Mny w r (k + 1) := by
  obtain ⟨r', e, e2⟩ := h2
  exact ⟨r', by simp [aft, h, e], e2⟩
theorem decL_nn {r : List Int} {w : Nat} {l : List Nat} (h : Chosen r w l) (hr : ∀ i, 0 ≤ gt r i) (i : Nat) : 0 ≤ gt (decL r l) i := by
  rw [gt_decL l r h.nd fun x hx => gt_pos (h.pos x hx)]
  have := hr i
  by_cases e : i ∈ l
  · have := h.pos i e; simp [e]; omega
  · simp [e]; omega
theorem sum_decL {r : List Int} {w : Nat} {l : List Nat} (h : Chosen r w l) : sumN r.length (gt (decL r l)) = sumN r.length (gt r) - w := by
  have h1 := sumN_mem (n := r.length) l h.nd fun x hx => gt_pos (h.pos x hx)
  rw [h.len] at h1
  have e : ∀ i, i < r.length → gt r i = gt (decL r l) i + if i ∈ l then 1 else 0 := fun i _ => by
    rw [gt_decL l r h.nd fun x hx => gt_pos (h.pos x hx)]; omega
  have h2 := sumN_congr e
  rw [sumN_add] at h2
  omega
/-- So many sectors are taken by k that are chosen. -/
theorem aft_sum (w : Nat) : ∀ (k : Nat) (r r' : List Int), (∀ i, 0 ≤ gt r i) → aft w r k = some r' → r'.length = r.length ∧ (∀ i, 0 ≤ gt r' i) ∧ sumN r.length (gt r) = sumN r.length (gt r') + (w : Int) * (k : Int)
  | 0, r, r', hr, h => by
    simp [aft] at h
    subst h
    exact ⟨rfl, hr, by simp⟩
  | k + 1, r, r', hr, h => by
    unfold aft at h
    cases h1 : cho r w with
    | none => simp only [h1] at h; cases h
    | some l =>
      simp only [h1] at h
      have hc := (cho_spec h1).2
      obtain ⟨i1, i2, i3⟩ := aft_sum w k (decL r l) r' (decL_nn hc hr) h
      rw [decL_length] at i1 i3
      refine ⟨i1, i2, ?_⟩
      rw [sum_decL hc] at i3
      rw [show ((k + 1 : Nat) : Int) = (k : Int) + 1 by omega, Int.mul_add, Int.mul_one]
      omega
theorem aft_sum_le {w : Nat} (hw : 0 < w) {k : Nat} {r r' : List Int} (hr : ∀ i, 0 ≤ gt r i) (h : aft w r k = some r') : (k : Int) ≤ sumN r.length (gt r) := by
  obtain ⟨i1, i2, i3⟩ := aft_sum w k r r' hr h
  have h1 : 0 ≤ sumN r.length (gt r') := by
    rw [← sumN_zero r.length]; exact sumN_le fun i _ => i2 i
  have h2 : (1 : Int) * (k : Int) ≤ (w : Int) * (k : Int) := Int.mul_le_mul_of_nonneg_right (by omega) (by omega)
  omega
theorem aft_zero {r r' : List Int} {k : Nat} (h : aft 0 r k = some r') : k = 0 := by
  cases k with
  | zero => rfl
  | succ k => simp [aft, cho] at h
/-! Whoever has more room can choose as often. -/
def FF (r : List Int) (m : Int) : Int := sumN r.length (fun i => min (gt r i) m)
theorem ff_step {r : List Int} {w : Nat} {l : List Nat} (h : Chosen r w l) (m : Int) : FF r (m + 1) = FF (decL r l) m + w + sumN r.length (fun i => if i ∉ l ∧ m + 1 ≤ gt r i then 1 else 0) := by
  have h1 := sumN_mem (n := r.length) l h.nd fun x hx => gt_pos (h.pos x hx)
  rw [h.len] at h1
  unfold FF
  rw [← h1, decL_length, ← sumN_add, ← sumN_add]
  refine sumN_congr fun i hi => ?_
  rw [gt_decL l r h.nd fun x hx => gt_pos (h.pos x hx)]
  by_cases e : i ∈ l
  · simp only [e, if_true, not_true_eq_false, false_and, if_false]; omega
  · simp only [e, if_false, not_false_eq_true, true_and]
    split <;> omega
theorem ff_many {r : List Int} {w : Nat} {l : List Nat} (h : Chosen r w l) (hr : ∀ i, 0 ≤ gt r i) (m : Nat) (hF : (w : Int) * ((m : Int) + 1) ≤ FF r (m + 1)) : (w : Int) * m ≤ FF (decL r l) m := by
  by_cases hex : ∃ i, i ∉ l ∧ (m : Int) + 1 ≤ gt r i
  · obtain ⟨i, hi, hm⟩ := hex
    have hall : ∀ x ∈ l, (m : Int) + 1 ≤ gt r x := fun x hx => by
      have := h.top i (by omega) hi x hx
      rcases this with h | h <;> omega
    have h1 := sumN_mem (n := r.length) l h.nd fun x hx => gt_pos (h.pos x hx)
    rw [h.len] at h1
    have h2 := sumN_mul (m : Int) (fun i => if i ∈ l then 1 else 0) r.length
    rw [h1] at h2
    unfold FF
    rw [decL_length, Int.mul_comm, ← h2]
    refine sumN_le fun j hj => ?_
    have hn := decL_nn h hr j
    by_cases e : j ∈ l
    · have h3 := hall j e
      have h4 := gt_decL l r h.nd (fun x hx => gt_pos (h.pos x hx)) j
      simp only [e, if_true] at h4 ⊢
      omega
    · simp only [e, if_false]
      omega
  · have h0 : sumN r.length (fun i => if i ∉ l ∧ (m : Int) + 1 ≤ gt r i then 1 else 0) = 0 := by
      refine (sumN_congr fun i hi => ?_).trans (sumN_zero r.length)
      rw [if_neg (fun hh => hex ⟨i, hh.1, hh.2⟩)]
    have h1 := ff_step h (m : Int)
    rw [h0] at h1
    rw [Int.mul_add, Int.mul_one] at hF
    omega
theorem ff_cnt {r : List Int} (hr : ∀ i, 0 ≤ gt r i) (m : Nat) : FF r (m + 1) ≤ ((m : Int) + 1) * cnt r := by
  unfold FF cnt cntK
  rw [← sumN_mul]
  refine sumN_le fun i hi => ?_
  have := hr i
  split <;> omega
theorem aft_iff {w : Nat} (hw : 0 < w) : ∀ (m : Nat) (r : List Int), (∀ i, 0 ≤ gt r i) → (aft w r m ≠ none ↔ (w : Int) * (m : Int) ≤ FF r m)
  | 0, r, hr => by
    simp only [aft, ne_eq, reduceCtorEq, not_false_eq_true, true_iff]
    have : 0 ≤ FF r ((0 : Nat) : Int) := by
      unfold FF
      rw [← sumN_zero r.length]
      refine sumN_le fun i hi => ?_
      have := hr i
      omega
    simpa using this
  | m + 1, r, hr => by
    have em : ((m + 1 : Nat) : Int) = (m : Int) + 1 := by omega
    rw [em]
    cases h1 : cho r w with
    | none =>
      simp only [aft, h1, ne_eq, not_true_eq_false, false_iff]
      intro hF
      have h2 := ff_cnt hr m
      have h3 : cnt r < (w : Int) := by
        rcases Int.lt_or_le (cnt r) w with h | h
        · exact h
        · obtain ⟨l, hl⟩ := cho_ge hw h
          rw [h1] at hl; cases hl
      have h4 : ((m : Int) + 1) * cnt r < ((m : Int) + 1) * w := Int.mul_lt_mul_of_pos_left h3 (by omega)
      rw [Int.mul_comm (w : Int)] at hF
      omega
    | some l =>
      have hc := (cho_spec h1).2
      have ih := aft_iff hw m (decL r l) (decL_nn hc hr)
      simp only [aft, h1]
      constructor
      · intro h
        have h2 := ih.1 h
        have h3 := ff_step hc (m : Int)
        have h4 : 0 ≤ sumN r.length (fun i => if i ∉ l ∧ (m : Int) + 1 ≤ gt r i then 1 else 0) := by
          refine Int.le_trans (Int.le_of_eq (sumN_zero r.length).symm) (sumN_le fun i hi => ?_)
          split <;> omega
        rw [Int.mul_add, Int.mul_one]
        omega
      · intro h
        exact ih.2 (ff_many hc hr m h)
theorem Mny.more {w : Nat} {r s : List Int} {k j : Nat} (h : Mny w r k) (h2 : Mny w s j) (hl : s.length = r.length) (hr : ∀ i, 0 ≤ gt r i) (hs : ∀ i, gt r i ≤ gt s i) : k ≤ j := by
  rcases Nat.eq_zero_or_pos w with rfl | hw
  · obtain ⟨r', e, _⟩ := h
    have := aft_zero e
    omega
  · refine h2.le ?_
    have hs0 : ∀ i, 0 ≤ gt s i := fun i => Int.le_trans (hr i) (hs i)
    obtain ⟨r', e, _⟩ := h
    have h3 := (aft_iff hw k r hr).1 (by rw [e]; simp)
    refine (aft_iff hw k s hs0).2 (Int.le_trans h3 ?_)
    unfold FF
    rw [hl]
    refine sumN_le fun i _ => ?_
    have := hs i
    omega
end Go.Proofs.Ytojchfpfemofkaa
