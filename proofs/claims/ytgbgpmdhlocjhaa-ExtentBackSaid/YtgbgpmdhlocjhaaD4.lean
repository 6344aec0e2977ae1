/-
  Plain facts of merging by rotations. No conditions but those that each theorem names.
-/
import Derived.Test.YtgbgpmdhlocjhaaD3
namespace Go.Proofs.Ytgbgpmdhlocjhaa
open Go.RowKit Go.Sort
set_option linter.unusedVariables false
set_option linter.unusedSimpArgs false

/-- No later one is less than an earlier one. -/
def Srt (f : Nat → Int) (a b : Nat) : Prop := ∀ i j, a ≤ i → i < j → j < b → f i ≤ f j
def key (d : Array Ed) (x : Nat) : Int := (d[x]!).1
theorem srt_iff (d : Array Ed) (a b : Nat) : SortedIn ltD a b d ↔ Srt (key d) a b := by
  unfold SortedIn Srt key ltD
  constructor
  · intro h i j h1 h2 h3; have := h i j h1 h2 h3; simp at this; exact this
  · intro h i j h1 h2 h3; have := h i j h1 h2 h3; simp; exact this
theorem Srt.le {f : Nat → Int} {a b i j : Nat} (h : Srt f a b) (h1 : a ≤ i) (h2 : i ≤ j) (h3 : j < b) : f i ≤ f j := by
  rcases Nat.lt_or_eq_of_le h2 with h4 | rfl
  · exact h _ _ h1 h4 h3
  · exact Int.le_refl _
theorem Srt.sub {f : Nat → Int} {a b a' b' : Nat} (h : Srt f a b) (h1 : a ≤ a') (h2 : b' ≤ b) : Srt f a' b' := fun i j k1 k2 k3 => h i j (by omega) k2 (by omega)
theorem Srt.small {f : Nat → Int} {a b : Nat} (h : b ≤ a + 1) : Srt f a b := fun i j k1 k2 k3 => by omega
theorem Srt.congr {f g : Nat → Int} {a b : Nat} (h : Srt f a b) (e : ∀ x, a ≤ x → x < b → g x = f x) : Srt g a b := fun i j k1 k2 k3 => by
  rw [e i k1 (by omega), e j (by omega) k3]; exact h i j k1 k2 k3
theorem Srt.join {f : Nat → Int} {a m b : Nat} (h1 : Srt f a m) (h2 : Srt f m b) (h : ∀ p q, a ≤ p → p < m → m ≤ q → q < b → f p ≤ f q) : Srt f a b := fun i j k1 k2 k3 => by
  by_cases hj : j < m
  · exact h1 i j k1 k2 hj
  · by_cases hi : i < m
    · exact h i j k1 hi (by omega) k3
    · exact h2 i j (by omega) k2 k3
def rotK (f : Nat → Int) (a m b x : Nat) : Int := if a ≤ x ∧ x < a + (b - m) then f (x + (m - a)) else if a + (b - m) ≤ x ∧ x < b then f (x - (b - m)) else f x
theorem rotF_key (d : Array Ed) (a m b x : Nat) : (rotF (at' d) a m b x).1 = rotK (key d) a m b x := by
  unfold rotF rotK at' key
  split
  · rfl
  · split <;> rfl
/-- Where a rotation splits two lists that rise so that nothing ahead is greater than what is behind. -/
structure Cut (f : Nat → Int) (a s m e b : Nat) : Prop where
  has : a ≤ s
  sm : s ≤ m
  me : m ≤ e
  eb : e ≤ b
  c1 : ∀ x y, m ≤ x → x < e → s ≤ y → y < m → f x ≤ f y
  c2 : ∀ x y, a ≤ x → x < s → e ≤ y → y < b → f x ≤ f y
theorem cut_of {f : Nat → Int} {a s m e b : Nat} (h1 : Srt f a m) (h2 : Srt f m b) (has : a ≤ s) (sm : s ≤ m) (me : m ≤ e) (eb : e ≤ b) (c1 : s < m → m < e → f (e - 1) ≤ f s) (c2 : a < s → e < b → f (s - 1) ≤ f e) : Cut f a s m e b :=
  ⟨has, sm, me, eb, fun x y k1 k2 k3 k4 => by
    have := c1 (by omega) (by omega)
    have := h2.le (i := x) (j := e - 1) k1 (by omega) (by omega)
    have := h1.le (i := s) (j := y) (by omega) k3 k4
    omega, fun x y k1 k2 k3 k4 => by
    have := c2 (by omega) (by omega)
    have := h1.le (i := x) (j := s - 1) k1 (by omega) (by omega)
    have := h2.le (i := e) (j := y) (by omega) k3 k4
    omega⟩
theorem Cut.cross {f : Nat → Int} {a s m e b : Nat} (C : Cut f a s m e b) (h1 : Srt f a m) (h2 : Srt f m b) (p q : Nat) (k1 : a ≤ p) (k2 : p < s + (e - m)) (k3 : s + (e - m) ≤ q) (k4 : q < b) : rotK f s m e p ≤ rotK f s m e q := by
  obtain ⟨has, sm, me, eb, c1, c2⟩ := C
  unfold rotK
  by_cases hp : s ≤ p
  · rw [if_pos ⟨hp, k2⟩, if_neg (by omega)]
    by_cases hq : q < e
    · rw [if_pos ⟨k3, hq⟩]
      exact c1 _ _ (by omega) (by omega) (by omega) (by omega)
    · rw [if_neg (by omega)]
      exact h2.le (by omega) (by omega) k4
  · rw [if_neg (by omega), if_neg (by omega), if_neg (by omega)]
    by_cases hq : q < e
    · rw [if_pos ⟨k3, hq⟩]
      exact h1.le k1 (by omega) (by omega)
    · rw [if_neg (by omega)]
      exact c2 _ _ k1 (by omega) (by omega) k4
theorem Cut.parts {f : Nat → Int} {a s m e b : Nat} (C : Cut f a s m e b) (h1 : Srt f a m) (h2 : Srt f m b) :
    Srt (rotK f s m e) a s ∧ Srt (rotK f s m e) s (s + (e - m)) ∧ Srt (rotK f s m e) (s + (e - m)) e ∧ Srt (rotK f s m e) e b := by
  obtain ⟨has, sm, me, eb, c1, c2⟩ := C
  refine ⟨fun i j k1 k2 k3 => ?_, fun i j k1 k2 k3 => ?_, fun i j k1 k2 k3 => ?_, fun i j k1 k2 k3 => ?_⟩
  · unfold rotK
    rw [if_neg (by omega), if_neg (by omega), if_neg (by omega), if_neg (by omega)]
    exact h1.le k1 (by omega) (by omega)
  · unfold rotK
    rw [if_pos (by omega), if_pos (by omega)]
    exact h2.le (by omega) (by omega) (by omega)
  · unfold rotK
    rw [if_neg (by omega), if_pos (by omega), if_neg (by omega), if_pos (by omega)]
    exact h1.le (by omega) (by omega) (by omega)
  · unfold rotK
    rw [if_neg (by omega), if_neg (by omega), if_neg (by omega), if_neg (by omega)]
    exact h2.le (by omega) (by omega) k3
/-- The ends of symMerge, from what it has behind its rotation. -/
theorem merge_end {d d1 d2 d3 : Array Ed} {a s m e b mid : Nat} (C : Cut (key d) a s m e b) (h1 : Srt (key d) a m) (h2 : Srt (key d) m b) (hmid : mid = s + (e - m)) (hb : b ≤ d.size)
    (hz1 : d1.size = d.size) (hd1 : ∀ x, d1[x]! = rotF (at' d) s m e x) (hp1 : PermIn a b d d1)
    (hz2 : d2.size = d.size) (hp2 : PermIn a mid d1 d2) (hs2 : Srt (key d2) a mid)
    (hz3 : d3.size = d.size) (hp3 : PermIn mid b d2 d3) (hs3 : Srt (key d3) mid b) : PermIn a b d d3 ∧ Srt (key d3) a b := by
  have hC := C
  obtain ⟨has, sm, me, eb, c1, c2⟩ := C
  have hk1 : ∀ x, key d1 x = rotK (key d) s m e x := fun x => by unfold key; rw [hd1 x]; exact rotF_key d s m e x
  have hcr : ∀ p q, a ≤ p → p < mid → mid ≤ q → q < b → key d1 p ≤ key d1 q := fun p q k1 k2 k3 k4 => by
    rw [hk1, hk1]; exact hC.cross h1 h2 p q k1 (by omega) (by omega) k4
  refine ⟨permIn_trans _ _ _ _ _ hp1 (permIn_trans _ _ _ _ _ (permIn_mono _ _ a mid a b (Nat.le_refl _) (by omega) (by omega) hp2) (permIn_mono _ _ mid b a b (by omega) (Nat.le_refl _) (by omega) hp3)), ?_⟩
  have hl : ∀ p, a ≤ p → p < mid → ∀ q, mid ≤ q → q < b → key d2 p ≤ key d1 q := fun p k1 k2 =>
    permIn_all d1 d2 a mid (fun x => ∀ q, mid ≤ q → q < b → x.1 ≤ key d1 q) (by omega) hp2 (fun i k3 k4 q k5 k6 => hcr i q k3 k4 k5 k6) p k1 k2
  refine Srt.join (hs2.congr fun x k1 k2 => by unfold key; rw [hp3.2.1 x (.inl k2)]) hs3 fun p q k1 k2 k3 k4 => ?_
  have e1 : key d3 p = key d2 p := by unfold key; rw [hp3.2.1 p (.inl k2)]
  rw [e1]
  refine permIn_all d2 d3 mid b (fun y => key d2 p ≤ y.1) (by omega) hp3 (fun i k5 k6 => ?_) q k3 k4
  rw [hp2.2.1 i (.inr (by omega))]
  exact hl p k1 k2 i k5 k6
end Go.Proofs.Ytgbgpmdhlocjhaa
