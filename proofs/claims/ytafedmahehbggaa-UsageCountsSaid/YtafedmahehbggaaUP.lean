/-
  Plain facts of holders and of bits; of no program. No conditions but those that each theorem names.
-/
import Derived.Test.YtafedmahehbggaaPA
namespace Go.Proofs.Ytafedmahehbggaa
set_option linter.unusedVariables false
set_option linter.unusedSimpArgs false

/-- Those of the first k holders that N names, one behind the other. -/
def sel (L : List (List Ad)) (N : Nat → Bool) : Nat → List Ad
  | 0 => []
  | k + 1 => sel L N k ++ (if N k then L.getD k [] else [])
theorem mem_sel {L : List (List Ad)} {N : Nat → Bool} {x : Ad} : ∀ {k : Nat}, x ∈ sel L N k ↔ ∃ i, i < k ∧ N i = true ∧ x ∈ L.getD i []
  | 0 => by simp [sel]
  | k + 1 => by
    rw [sel, List.mem_append, mem_sel]
    constructor
    · rintro (⟨i, h1, h2, h3⟩ | h)
      · exact ⟨i, by omega, h2, h3⟩
      · by_cases hn : N k = true
        · rw [if_pos hn] at h; exact ⟨k, by omega, hn, h⟩
        · rw [if_neg hn] at h; simp at h
    · rintro ⟨i, h1, h2, h3⟩
      by_cases hi : i = k
      · subst hi; right; rw [if_pos h2]; exact h3
      · exact .inl ⟨i, by omega, h2, h3⟩
theorem getD_mem {L : List (List Ad)} {i : Nat} {x : Ad} (h : x ∈ L.getD i []) : i < L.length ∧ L.getD i [] ∈ L := by
  by_cases hi : i < L.length
  · rw [List.getD_eq_getElem?_getD, List.getElem?_eq_getElem hi] at *; exact ⟨hi, List.getElem_mem _⟩
  · rw [List.getD_eq_getElem?_getD, List.getElem?_eq_none (by omega)] at h; simp at h
theorem getD_at {L : List (List Ad)} {i : Nat} (h : i < L.length) : L.getD i [] = L[i] := by rw [List.getD_eq_getElem?_getD, List.getElem?_eq_getElem h]; rfl
theorem sel_wf {P : Ad → Prop} {L : List (List Ad)} (h : ∀ l ∈ L, ∀ x ∈ l, P x) {N : Nat → Bool} {k : Nat} : ∀ x ∈ sel L N k, P x := fun x hx => by
  obtain ⟨i, _, _, h3⟩ := mem_sel.1 hx
  exact h _ (getD_mem h3).2 x h3
theorem sel_length {L : List (List Ad)} {m : Nat} (h : ∀ l ∈ L, l.length ≤ m) (N : Nat → Bool) : ∀ k, (sel L N k).length ≤ k * m
  | 0 => by simp [sel]
  | k + 1 => by
    have ih := sel_length h N k
    have h1 : (if N k then L.getD k [] else []).length ≤ m := by
      split
      · by_cases hk : k < L.length
        · rw [getD_at hk]; exact h _ (List.getElem_mem _)
        · rw [List.getD_eq_getElem?_getD, List.getElem?_eq_none (by omega)]; simp
      · simp
    rw [sel, List.length_append, Nat.succ_mul]; omega
/-- Is a number in a list? -/
def amg (s : List Int) (i : Nat) : Bool := decide ((i : Int) ∈ s)
/-- Bits: which of the first k holders have x. -/
def hb (L : List (List Ad)) (x : Ad) : Nat → Nat
  | 0 => 0
  | k + 1 => hb L x k ||| (if x ∈ L.getD k [] then 2 ^ k else 0)
theorem hb_bit (L : List (List Ad)) (x : Ad) (i : Nat) : ∀ k, (hb L x k).testBit i = decide (i < k ∧ x ∈ L.getD i [])
  | 0 => by simp [hb]
  | k + 1 => by
    rw [hb, Nat.testBit_or, hb_bit L x i k]
    by_cases hx : x ∈ L.getD k []
    · rw [if_pos hx, Nat.testBit_two_pow]
      by_cases hi : k = i
      · subst hi; simp only [hx]; simp
      · have e1 : (i < k + 1) = (i < k) := by rw [eq_iff_iff]; omega
        simp [hi, e1]
    · rw [if_neg hx, Nat.zero_testBit]
      by_cases hi : i = k
      · subst hi; simp only [hx]; simp
      · have e1 : (i < k + 1) = (i < k) := by rw [eq_iff_iff]; omega
        simp [e1]
theorem hb_lt (L : List (List Ad)) (x : Ad) : ∀ k, hb L x k < 2 ^ k
  | 0 => by simp [hb]
  | k + 1 => by
    rw [hb]
    have h1 := hb_lt L x k
    have h2 : 2 ^ k < 2 ^ (k + 1) := Nat.pow_lt_pow_right (by omega) (by omega)
    refine Nat.or_lt_two_pow (by omega) ?_
    split
    · exact h2
    · exact Nat.pos_of_ne_zero (by simp)
/-- Bits: which of n holders the first k numbers of a list name. -/
def nb (n : Nat) : List Int → Nat
  | [] => 0
  | z :: s => (if 0 ≤ z ∧ z < n then 2 ^ z.toNat else 0) ||| nb n s
theorem nb_bit (n i : Nat) : ∀ s, (nb n s).testBit i = decide (i < n ∧ (i : Int) ∈ s)
  | [] => by simp [nb]
  | z :: s => by
    rw [nb, Nat.testBit_or, nb_bit n i s]
    by_cases hz : 0 ≤ z ∧ z < n
    · rw [if_pos hz, Nat.testBit_two_pow]
      by_cases hi : z.toNat = i
      · have e : (i : Int) = z := by omega
        have e2 : i < n := by omega
        simp [hi, e, e2]
      · have e : ¬ (i : Int) = z := by omega
        simp [hi, e]
    · rw [if_neg hz, Nat.zero_testBit]
      by_cases hi : (i : Int) = z
      · have e2 : ¬ i < n := by omega
        simp [e2]
      · simp [hi]
theorem nb_snoc (n : Nat) (z : Int) : ∀ s, nb n (s ++ [z]) = nb n s ||| (if 0 ≤ z ∧ z < n then 2 ^ z.toNat else 0)
  | [] => by simp [nb]
  | y :: s => by rw [List.cons_append, nb, nb, nb_snoc n z s, Nat.or_assoc]
theorem nb_lt (n : Nat) : ∀ s, nb n s < 2 ^ n
  | [] => by simp [nb]; exact Nat.pos_of_ne_zero (by simp)
  | z :: s => by
    rw [nb]
    refine Nat.or_lt_two_pow ?_ (nb_lt n s)
    split
    · exact Nat.pow_lt_pow_right (by omega) (by omega)
    · exact Nat.pos_of_ne_zero (by simp)
/-- What the functions over bits say. -/
theorem bits_any {L : List (List Ad)} {x : Ad} {k : Nat} : (hb L x k != 0) = decide (∃ i, i < k ∧ x ∈ L.getD i []) := by
  by_cases h : ∃ i, i < k ∧ x ∈ L.getD i []
  · obtain ⟨i, h1⟩ := h
    rw [decide_eq_true ⟨i, h1⟩, bne_iff_ne]
    intro e
    have := hb_bit L x i k
    rw [e, decide_eq_true h1, Nat.zero_testBit] at this
    cases this
  · rw [decide_eq_false h]
    have : hb L x k = 0 := Nat.eq_of_testBit_eq fun i => by
      rw [hb_bit, Nat.zero_testBit]; exact decide_eq_false fun h1 => h ⟨i, h1⟩
    rw [this]; rfl
theorem bits_some {L : List (List Ad)} {x : Ad} {k n : Nat} {s : List Int} (hk : k ≤ n) : ((hb L x k &&& nb n s) != 0) = decide (∃ i, i < k ∧ amg s i = true ∧ x ∈ L.getD i []) := by
  by_cases h : ∃ i, i < k ∧ amg s i = true ∧ x ∈ L.getD i []
  · rw [decide_eq_true h]
    obtain ⟨i, h1, h2, h3⟩ := h
    rw [bne_iff_ne]
    intro e
    have e2 : (hb L x k &&& nb n s).testBit i = true := by
      rw [Nat.testBit_and, hb_bit, nb_bit, decide_eq_true ⟨h1, h3⟩]
      simp only [amg, decide_eq_true_eq] at h2
      rw [decide_eq_true ⟨by omega, h2⟩]; rfl
    rw [e, Nat.zero_testBit] at e2
    cases e2
  · rw [decide_eq_false h]
    have : hb L x k &&& nb n s = 0 := Nat.eq_of_testBit_eq fun i => by
      rw [Nat.testBit_and, hb_bit, nb_bit, Nat.zero_testBit, ← Bool.decide_and]
      exact decide_eq_false fun h1 => h ⟨i, h1.1.1, by simpa [amg] using h1.2.2, h1.1.2⟩
    rw [this]; rfl
theorem bits_else {L : List (List Ad)} {x : Ad} {k n : Nat} {s : List Int} (hk : k ≤ n) (hn : n ≤ 64) :
    ((hb L x k &&& (18446744073709551615 - nb n s)) != 0) = decide (∃ i, i < k ∧ amg s i = false ∧ x ∈ L.getD i []) := by
  have hbit : ∀ i, (hb L x k &&& (18446744073709551615 - nb n s)).testBit i = decide (i < k ∧ amg s i = false ∧ x ∈ L.getD i []) := fun i => by
    rw [Nat.testBit_and, hb_bit]
    by_cases hi : i < k
    · have hl : nb n s < 2 ^ 64 := Nat.lt_of_lt_of_le (nb_lt n s) (Nat.pow_le_pow_right (by omega) hn)
      have e : (18446744073709551615 - nb n s).testBit i = !(nb n s).testBit i := by
        have := Nat.testBit_two_pow_sub_succ (x := nb n s) (n := 64) hl i
        rw [show 2 ^ 64 - (nb n s + 1) = 18446744073709551615 - nb n s by omega] at this
        rw [this, decide_eq_true (show i < 64 by omega), Bool.true_and]
      rw [e, nb_bit]
      have e2 : (i < n) := by omega
      by_cases hx : (i : Int) ∈ s <;> simp [hi, e2, hx, amg]
    · simp [hi]
  by_cases h : ∃ i, i < k ∧ amg s i = false ∧ x ∈ L.getD i []
  · rw [decide_eq_true h]
    obtain ⟨i, h1⟩ := h
    rw [bne_iff_ne]
    intro e
    have := hbit i
    rw [e, decide_eq_true h1, Nat.zero_testBit] at this
    cases this
  · rw [decide_eq_false h]
    have : hb L x k &&& (18446744073709551615 - nb n s) = 0 := Nat.eq_of_testBit_eq fun i => by
      rw [hbit, Nat.zero_testBit]; exact decide_eq_false fun h1 => h ⟨i, h1⟩
    rw [this]; rfl
theorem bits_all {L : List (List Ad)} {x : Ad} {n : Nat} {s : List Int} :
    ((hb L x n &&& nb n s) == nb n s) = decide (∀ i, i < n → amg s i = true → x ∈ L.getD i []) := by
  by_cases h : ∀ i, i < n → amg s i = true → x ∈ L.getD i []
  · rw [decide_eq_true h, beq_iff_eq]
    refine Nat.eq_of_testBit_eq fun i => ?_
    rw [Nat.testBit_and, hb_bit, nb_bit]
    by_cases hi : i < n ∧ (i : Int) ∈ s
    · rw [decide_eq_true hi, decide_eq_true ⟨hi.1, h i hi.1 (by simpa [amg] using hi.2)⟩]; rfl
    · rw [decide_eq_false hi, Bool.and_false]
  · rw [decide_eq_false h, beq_eq_false_iff_ne]
    intro e
    refine h fun i hi hs => ?_
    have h1 : (nb n s).testBit i = true := by rw [nb_bit]; exact decide_eq_true ⟨hi, by simpa [amg] using hs⟩
    rw [← e, Nat.testBit_and, hb_bit] at h1
    simp only [Bool.and_eq_true, decide_eq_true_eq] at h1
    exact h1.1.2
theorem nb_zero {n : Nat} {s : List Int} : (nb n s != 0) = decide (∃ i, i < n ∧ amg s i = true) := by
  by_cases h : ∃ i, i < n ∧ amg s i = true
  · rw [decide_eq_true h]
    obtain ⟨i, h1, h2⟩ := h
    rw [bne_iff_ne]
    intro e
    have := nb_bit n i s
    rw [e, Nat.zero_testBit, decide_eq_true ⟨h1, by simpa [amg] using h2⟩] at this
    cases this
  · rw [decide_eq_false h]
    have : nb n s = 0 := Nat.eq_of_testBit_eq fun i => by
      rw [nb_bit, Nat.zero_testBit]; exact decide_eq_false fun h1 => h ⟨i, h1.1, by simpa [amg] using h1.2⟩
    rw [this]; rfl
/-- What is told: the set of those of all holders' addresses of which something is said. -/
def tell (L : List (List Ad)) (p : Ad → Bool) : List Ad := srt ((sel L (fun _ => true) L.length).filter p)
theorem mem_all {L : List (List Ad)} {x : Ad} : x ∈ sel L (fun _ => true) L.length ↔ ∃ i, x ∈ L.getD i [] := by
  rw [mem_sel]
  exact ⟨fun ⟨i, _, _, h⟩ => ⟨i, h⟩, fun ⟨i, h⟩ => ⟨i, (getD_mem h).1, rfl, h⟩⟩
theorem mem_tell {L : List (List Ad)} {p : Ad → Bool} {x : Ad} : x ∈ tell L p ↔ (∃ i, x ∈ L.getD i []) ∧ p x = true := by
  rw [tell, mem_srt, List.mem_filter, mem_all]
def allU (L : List (List Ad)) : List Ad := tell L fun _ => true
/-- x is had by one that s names. -/
def inU (L : List (List Ad)) (s : List Int) (x : Ad) : Bool := decide (∃ i, i < L.length ∧ amg s i = true ∧ x ∈ L.getD i [])
/-- x is had by one that s does not name. -/
def outU (L : List (List Ad)) (s : List Int) (x : Ad) : Bool := decide (∃ i, i < L.length ∧ amg s i = false ∧ x ∈ L.getD i [])
def freedU (L : List (List Ad)) (s : List Int) : List Ad := tell L fun x => inU L s x && !outU L s x
def anyU (n : Nat) (s : List Int) : Bool := decide (∃ i, i < n ∧ amg s i = true)
def sharedU (L : List (List Ad)) (s : List Int) : List Ad := tell L fun x => anyU L.length s && decide (∀ i, i < L.length → amg s i = true → x ∈ L.getD i [])
theorem mem_allU {L : List (List Ad)} {x : Ad} : x ∈ allU L ↔ ∃ i, x ∈ L.getD i [] := by simp [allU, mem_tell]
theorem mem_freedU {L : List (List Ad)} {s : List Int} {x : Ad} : x ∈ freedU L s ↔ (∃ i, amg s i = true ∧ x ∈ L.getD i []) ∧ ∀ i, x ∈ L.getD i [] → amg s i = true := by
  rw [freedU, mem_tell, Bool.and_eq_true, inU, outU, Bool.not_eq_true', decide_eq_true_eq, decide_eq_false_iff_not]
  constructor
  · rintro ⟨_, ⟨i, _, h2, h3⟩, h4⟩
    refine ⟨⟨i, h2, h3⟩, fun j hj => ?_⟩
    cases hc : amg s j
    · exact absurd ⟨j, (getD_mem hj).1, hc, hj⟩ h4
    · rfl
  · rintro ⟨⟨i, h2, h3⟩, h4⟩
    exact ⟨⟨i, h3⟩, ⟨i, (getD_mem h3).1, h2, h3⟩, fun ⟨j, _, h5, h6⟩ => by rw [h4 j h6] at h5; cases h5⟩
theorem mem_sharedU {L : List (List Ad)} {s : List Int} {x : Ad} : x ∈ sharedU L s ↔ (∃ i, i < L.length ∧ amg s i = true) ∧ ∀ i, i < L.length → amg s i = true → x ∈ L.getD i [] := by
  rw [sharedU, mem_tell, Bool.and_eq_true, anyU, decide_eq_true_eq, decide_eq_true_eq]
  constructor
  · rintro ⟨_, h⟩; exact h
  · rintro ⟨⟨i, h1, h2⟩, h3⟩; exact ⟨⟨i, h3 i h1 h2⟩, ⟨i, h1, h2⟩, h3⟩
theorem rises_tell (L : List (List Ad)) (p : Ad → Bool) : Rises (tell L p) := rises_srt _
/-- Who has x. -/
def who (L : List (List Ad)) (x : Ad) (k : Nat) : List Int := ((List.range k).filter fun (i : Nat) => decide (x ∈ L.getD i [])).map fun (i : Nat) => (i : Int)
theorem who_succ (L : List (List Ad)) (x : Ad) (k : Nat) : who L x (k + 1) = who L x k ++ (if x ∈ L.getD k [] then [(k : Int)] else []) := by
  unfold who
  rw [List.range_succ, List.filter_append, List.map_append]
  congr 1
  by_cases h : x ∈ L.getD k []
  · rw [if_pos h, List.filter_cons, if_pos (decide_eq_true h)]; rfl
  · rw [if_neg h, List.filter_cons, if_neg (by simp only [decide_eq_true_eq]; exact h)]; rfl
end Go.Proofs.Ytafedmahehbggaa
