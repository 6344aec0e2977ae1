/-
  Plain facts of entries in order, and of a heap of them; of no program. No conditions but those that each theorem names. Plain facts of the newest of some uberblocks, and of those that stand in slots. No conditions but those that each theorem names. Rows of entries and queues of them: what they lie as; contracts of Len, Swap, compare, Less, Push, Pop. No conditions but those that each theorem names. Contracts of Less, Swap, Push, Pop of a queue, and how heap's calls reach them. No conditions but those that each theorem names. Contracts of heap's down, up and Fix at a queue. No conditions but those that each theorem names. Contracts of heap's up and Fix at a queue. No conditions but those that each theorem names. Contracts of heap's Fix at a queue, of Push, Pop, put and take. No conditions but those that each theorem names. Contracts of Push, Pop, put and take of a queue. No conditions but those that each theorem names. Contracts of put and take of a queue. No conditions but those that each theorem names. Lists of uberblocks as slices: read, told; texts as bytes. No conditions but those that each theorem names.
-/
import Derived.Lib.Bytealg
import Derived.Test.YtjdejhgfkjeeiaaGreatDoorUP
import Derived.Test.YtjdejhgfkjeeiaaGreatDoorKR
import Derived.Test.YtjdejhgfkjeeiaaGreatDoorChecked
import Derived.WalkHide
import Derived.StillTailTactics
import Derived.OpenShut
import Derived.OrdersHeld
import Derived.BigQuiet
import Derived.Deep.CutBlock
import Derived.Deep.DeepCutAuto
import Derived.Deep.MidRow
import Derived.Deep.QuietTactic
import Derived.Deep.RegionLaw
import Derived.Deep.RegionWith
import Derived.Deep.RegionHeld3
import Derived.Deep.Slices
import Derived.Laws.Externs
import Derived.Lib.Small
import Derived.Shelf.RegionOpenPlain
import Derived.Test.YtjdejhgfkjeeiaaGreatDoorVI
import Derived.Test.YtjdejhgfkjeeiaaGreatDoorUY
import Derived.Lib.ConvBytes
namespace Go.Proofs.YtjdejhgfkjeeiaaGreatDoor
open Go
set_option linter.unusedVariables false
set_option linter.unusedSimpArgs false

theorem cb_refl : ∀ l : List UInt8, Lib.compareBytes l l = 0
  | [] => rfl
  | x :: r => by simp [Lib.compareBytes, cb_refl r]
theorem cb_eq : ∀ {a b : List UInt8}, Lib.compareBytes a b = 0 → a = b
  | [], [], _ => rfl
  | [], _ :: _, h => by simp [Lib.compareBytes] at h
  | _ :: _, [], h => by simp [Lib.compareBytes] at h
  | x :: a, y :: b, h => by
    simp only [Lib.compareBytes] at h
    by_cases h1 : x < y
    · rw [if_pos h1] at h; cases h
    · rw [if_neg h1] at h
      by_cases h2 : y < x
      · rw [if_pos h2] at h; cases h
      · rw [if_neg h2] at h
        rw [cb_eq h, UInt8.le_antisymm (UInt8.not_lt.1 h2) (UInt8.not_lt.1 h1)]
theorem cb_swap : ∀ (a b : List UInt8), Lib.compareBytes b a = - Lib.compareBytes a b
  | [], [] => rfl
  | [], _ :: _ => rfl
  | _ :: _, [] => rfl
  | x :: a, y :: b => by
    simp only [Lib.compareBytes]
    by_cases h1 : x < y
    · have h2 : ¬ y < x := fun h => UInt8.lt_irrefl _ (UInt8.lt_trans h1 h)
      rw [if_pos h1, if_neg h2, if_pos h1]; rfl
    · by_cases h2 : y < x
      · rw [if_pos h2, if_neg h1, if_pos h2]
      · rw [if_neg h2, if_neg h1, if_neg h1, if_neg h2, cb_swap a b]
theorem cb_three : ∀ (a b : List UInt8), Lib.compareBytes a b = -1 ∨ Lib.compareBytes a b = 0 ∨ Lib.compareBytes a b = 1
  | [], [] => .inr (.inl rfl)
  | [], _ :: _ => .inl rfl
  | _ :: _, [] => .inr (.inr rfl)
  | x :: a, y :: b => by
    simp only [Lib.compareBytes]
    by_cases h1 : x < y
    · rw [if_pos h1]; exact .inl rfl
    · rw [if_neg h1]
      by_cases h2 : y < x
      · rw [if_pos h2]; exact .inr (.inr rfl)
      · rw [if_neg h2]; exact cb_three a b
theorem cb_trans : ∀ {a b c : List UInt8}, Lib.compareBytes a b < 0 → Lib.compareBytes b c < 0 → Lib.compareBytes a c < 0
  | [], [], _, h, _ => by simp [Lib.compareBytes] at h
  | [], _ :: _, [], _, h => by simp [Lib.compareBytes] at h
  | [], _ :: _, _ :: _, _, _ => by simp [Lib.compareBytes]
  | _ :: _, [], _, h, _ => by simp [Lib.compareBytes] at h
  | _ :: _, _ :: _, [], _, h => by simp [Lib.compareBytes] at h
  | x :: a, y :: b, z :: c, h1, h2 => by
    simp only [Lib.compareBytes] at h1 h2 ⊢
    by_cases xy : x < y
    · by_cases yz : y < z
      · rw [if_pos (UInt8.lt_trans xy yz)]; decide
      · rw [if_neg yz] at h2
        by_cases zy : z < y
        · rw [if_pos zy] at h2; exact absurd h2 (by decide)
        · have : y = z := UInt8.le_antisymm (UInt8.not_lt.1 zy) (UInt8.not_lt.1 yz)
          subst this
          rw [if_pos xy]; decide
    · rw [if_neg xy] at h1
      by_cases yx : y < x
      · rw [if_pos yx] at h1; exact absurd h1 (by decide)
      · have : x = y := UInt8.le_antisymm (UInt8.not_lt.1 yx) (UInt8.not_lt.1 xy)
        subst this
        rw [if_neg yx] at h1
        by_cases xz : x < z
        · rw [if_pos xz]; decide
        · rw [if_neg xz] at h2 ⊢
          by_cases zx : z < x
          · rw [if_pos zx] at h2; exact absurd h2 (by decide)
          · rw [if_neg zx] at h2 ⊢
            exact cb_trans h1 h2
/-- An entry: a number, and bytes. -/
abbrev En := Int × List UInt8
/-- What the comparison of two entries tells. -/
def cmpE (x y : En) : Int := if y.1 < x.1 then -1 else if x.1 < y.1 then 1 else Lib.compareBytes x.2 y.2
def ltE (x y : En) : Bool := decide (cmpE x y < 0)
theorem ltE_iff {x y : En} : ltE x y = true ↔ y.1 < x.1 ∨ (x.1 = y.1 ∧ Lib.compareBytes x.2 y.2 < 0) := by
  unfold ltE cmpE
  rw [decide_eq_true_eq]
  by_cases h1 : y.1 < x.1
  · rw [if_pos h1]; simp [h1]
  · rw [if_neg h1]
    by_cases h2 : x.1 < y.1
    · rw [if_pos h2]
      constructor
      · intro h; exact absurd h (by decide)
      · rintro (h | ⟨h, _⟩) <;> omega
    · rw [if_neg h2]
      have : x.1 = y.1 := by omega
      simp [this]
theorem ltE_irrefl (x : En) : ltE x x = false := by
  rw [Bool.eq_false_iff]
  intro h
  rcases ltE_iff.1 h with h | ⟨_, h⟩
  · omega
  · rw [cb_refl] at h; omega
theorem ltE_trans {x y z : En} (h1 : ltE x y = true) (h2 : ltE y z = true) : ltE x z = true := by
  rw [ltE_iff] at *
  rcases h1 with h1 | ⟨h1, k1⟩ <;> rcases h2 with h2 | ⟨h2, k2⟩
  · left; omega
  · left; omega
  · left; omega
  · right; exact ⟨by omega, cb_trans k1 k2⟩
theorem ltE_asymm {x y : En} (h : ltE x y = true) : ltE y x = false := by
  rw [Bool.eq_false_iff]
  intro h2
  have := ltE_trans h h2
  rw [ltE_irrefl] at this
  cases this
theorem ltE_tri {x y : En} (h1 : ltE x y = false) (h2 : ltE y x = false) : x = y := by
  have n1 : ¬ _ := fun h => by rw [ltE_iff.2 h] at h1; cases h1
  have n2 : ¬ _ := fun h => by rw [ltE_iff.2 h] at h2; cases h2
  have e1 : x.1 = y.1 := by
    have : ¬ y.1 < x.1 := fun h => n1 (.inl h)
    have : ¬ x.1 < y.1 := fun h => n2 (.inl h)
    omega
  have m1 : ¬ Lib.compareBytes x.2 y.2 < 0 := fun h => n1 (.inr ⟨e1, h⟩)
  have m2 : ¬ Lib.compareBytes y.2 x.2 < 0 := fun h => n2 (.inr ⟨e1.symm, h⟩)
  rw [cb_swap] at m2
  exact Prod.ext e1 (cb_eq (by omega))
/-- Not ahead, and not ahead. -/
theorem leE_trans {x y z : En} (h1 : ltE y x = false) (h2 : ltE z y = false) : ltE z x = false := by
  rw [Bool.eq_false_iff]
  intro h
  cases hyz : ltE y z with
  | true => rw [ltE_trans hyz h] at h1; cases h1
  | false =>
    rw [ltE_tri hyz h2, h] at h1; cases h1
theorem lt_leE {x y z : En} (h1 : ltE x y = true) (h2 : ltE z y = false) : ltE z x = false := leE_trans (ltE_asymm h1) h2

def e0 : En := (0, [])
def en (l : List En) (i : Nat) : En := l.getD i e0
theorem en_eq {l : List En} {i : Nat} (h : i < l.length) : en l i = l[i] := by simp [en, List.getD, List.getElem?_eq_getElem h]
/-- Two entries of a row, each in the other's place. -/
def swp (l : List En) (i j : Nat) : List En := (l.set i (en l j)).set j (en l i)
theorem swp_len (l : List En) (i j : Nat) : (swp l i j).length = l.length := by simp [swp]
theorem swp_en {l : List En} {i j k : Nat} (hi : i < l.length) (hj : j < l.length) (hk : k < l.length) : en (swp l i j) k = if k = j then en l i else if k = i then en l j else en l k := by
  rw [en_eq (by rw [swp_len]; exact hk)]
  simp only [swp, List.getElem_set]
  by_cases h1 : k = j
  · rw [if_pos h1.symm, if_pos h1]
  · rw [if_neg (fun h => h1 h.symm), if_neg h1]
    by_cases h2 : k = i
    · rw [if_pos h2.symm, if_pos h2]
    · rw [if_neg (fun h => h2 h.symm), if_neg h2, en_eq hk]
theorem swp_perm {l : List En} {i j : Nat} (hi : i < l.length) (hj : j < l.length) : (swp l i j).Perm l := by
  unfold swp
  rw [en_eq hi, en_eq hj]
  exact List.set_set_perm hi hj
def par (i : Nat) : Nat := (i - 1) / 2
theorem par_lt {i : Nat} (h : 0 < i) : par i < i := by unfold par; omega
/-- A heap's last entry goes up. -/
def upL (l : List En) (j : Nat) : List En :=
  if h : par j = j ∨ ltE (en l j) (en l (par j)) = false then l else upL (swp l (par j) j) (par j)
termination_by j
decreasing_by
  have h1 : par j ≠ j := fun e => h (.inl e)
  unfold par at *
  omega
theorem upL_stop {l : List En} {j : Nat} (h : par j = j ∨ ltE (en l j) (en l (par j)) = false) : upL l j = l := by rw [upL, dif_pos h]
theorem upL_step {l : List En} {j : Nat} (h1 : par j ≠ j) (h2 : ltE (en l j) (en l (par j)) = true) : upL l j = upL (swp l (par j) j) (par j) := by
  rw [upL, dif_neg (by rintro (h | h); exact h1 h; rw [h2] at h; cases h)]
def Heap (l : List En) : Prop := ∀ i, 0 < i → i < l.length → ltE (en l i) (en l (par i)) = false
structure UpOk (l : List En) (j : Nat) : Prop where
  ok : ∀ i, 0 < i → i < l.length → i ≠ j → ltE (en l i) (en l (par i)) = false
  kid : ∀ c, 0 < c → c < l.length → par c = j → 0 < j → ltE (en l c) (en l (par j)) = false
theorem up_all : ∀ (j : Nat) (l : List En), j < l.length → UpOk l j → (upL l j).Perm l ∧ Heap (upL l j) := by
  intro j
  induction j using Nat.strongRecOn with
  | _ j ih =>
    intro l hj h
    by_cases hs : par j = j ∨ ltE (en l j) (en l (par j)) = false
    · rw [upL_stop hs]
      refine ⟨List.Perm.refl _, fun i h0 hi => ?_⟩
      by_cases e : i = j
      · subst e
        rcases hs with hs | hs
        · have := par_lt h0; omega
        · exact hs
      · exact h.ok i h0 hi e
    · have h1 : par j ≠ j := fun e => hs (.inl e)
      have h2 : ltE (en l j) (en l (par j)) = true := by
        cases hb : ltE (en l j) (en l (par j)) with
        | true => rfl
        | false => exact absurd (.inr hb) hs
      have hp : par j < j := by unfold par at *; omega
      have h0 : 0 < j := by omega
      rw [upL_step h1 h2]
      have hpl : par j < l.length := by omega
      have hen := fun k (hk : k < l.length) => swp_en hpl hj hk
      have hU : UpOk (swp l (par j) j) (par j) := by
        refine ⟨fun i i0 hi hne => ?_, fun c c0 hc hpc hp0 => ?_⟩
        · rw [swp_len] at hi
          have hpi := par_lt i0
          rw [hen i hi, hen (par i) (by omega)]
          by_cases ij : i = j
          · subst ij
            rw [if_pos rfl, if_neg h1, if_pos rfl]
            exact ltE_asymm h2
          · rw [if_neg ij, if_neg hne]
            by_cases e1 : par i = j
            · rw [if_pos e1]; exact h.kid i i0 hi e1 h0
            · rw [if_neg e1]
              have hi2 := h.ok i i0 hi ij
              by_cases e2 : par i = par j
              · rw [if_pos e2]; rw [e2] at hi2; exact lt_leE h2 hi2
              · rw [if_neg e2]; exact hi2
        · rw [swp_len] at hc
          have hpp := par_lt hp0
          have e2 : en (swp l (par j) j) (par (par j)) = en l (par (par j)) := by rw [hen _ (by omega), if_neg (by omega), if_neg (by omega)]
          rw [hen c hc, e2]
          have hop := h.ok (par j) hp0 hpl (by omega)
          by_cases cj : c = j
          · rw [if_pos cj]; exact hop
          · have := par_lt c0
            rw [if_neg cj, if_neg (by omega)]
            have hoc := h.ok c c0 hc cj
            rw [hpc] at hoc
            exact leE_trans hop hoc
      obtain ⟨q1, q2⟩ := ih (par j) hp (swp l (par j) j) (by rw [swp_len]; exact hpl) hU
      exact ⟨q1.trans (swp_perm hpl hj), q2⟩
/-- The lesser of an entry's two kids. -/
def kid (l : List En) (i : Nat) : Nat := if 2 * i + 2 < l.length ∧ ltE (en l (2 * i + 2)) (en l (2 * i + 1)) = true then 2 * i + 2 else 2 * i + 1
theorem kid_lt {l : List En} {i : Nat} (h : 2 * i + 1 < l.length) : kid l i < l.length := by
  unfold kid; split
  · rename_i h2; exact h2.1
  · exact h
theorem kid_gt (l : List En) (i : Nat) : i < kid l i := by unfold kid; split <;> omega
/-- A heap's entry goes down. -/
def downL (l : List En) (i : Nat) : List En × Nat :=
  if h : l.length ≤ 2 * i + 1 ∨ ltE (en l (kid l i)) (en l i) = false then (l, i) else downL (swp l i (kid l i)) (kid l i)
termination_by l.length - i
decreasing_by
  have h1 : ¬ l.length ≤ 2 * i + 1 := fun e => h (.inl e)
  have := kid_gt l i
  have := kid_lt (l := l) (i := i) (by omega)
  rw [swp_len]
  omega
theorem downL_stop {l : List En} {i : Nat} (h : l.length ≤ 2 * i + 1 ∨ ltE (en l (kid l i)) (en l i) = false) : downL l i = (l, i) := by rw [downL, dif_pos h]
theorem downL_step {l : List En} {i : Nat} (h1 : 2 * i + 1 < l.length) (h2 : ltE (en l (kid l i)) (en l i) = true) : downL l i = downL (swp l i (kid l i)) (kid l i) := by
  rw [downL, dif_neg (by rintro (h | h); omega; rw [h2] at h; cases h)]
structure DownOk (l : List En) (k : Nat) : Prop where
  ok : ∀ i, 0 < i → i < l.length → par i ≠ k → ltE (en l i) (en l (par i)) = false
  kid : ∀ c, 0 < c → c < l.length → par c = k → 0 < k → ltE (en l c) (en l (par k)) = false
theorem par_two {i k : Nat} (h0 : 0 < i) (h : par i = k) : i = 2 * k + 1 ∨ i = 2 * k + 2 := by unfold par at h; omega
theorem par_kid (l : List En) (k : Nat) : par (kid l k) = k := by unfold kid par; split <;> omega
/-- The other kid is not ahead of the lesser one. -/
theorem kid_least {l : List En} {i k : Nat} (h0 : 0 < i) (hi : i < l.length) (h : par i = k) : ltE (en l i) (en l (kid l k)) = false := by
  unfold kid
  rcases par_two h0 h with e | e
  · by_cases hc : 2 * k + 2 < l.length ∧ ltE (en l (2 * k + 2)) (en l (2 * k + 1)) = true
    · rw [if_pos hc, e]; exact ltE_asymm hc.2
    · rw [if_neg hc, e]; exact ltE_irrefl _
  · by_cases hc : 2 * k + 2 < l.length ∧ ltE (en l (2 * k + 2)) (en l (2 * k + 1)) = true
    · rw [if_pos hc, e]; exact ltE_irrefl _
    · rw [if_neg hc, e]
      cases hb : ltE (en l (2 * k + 2)) (en l (2 * k + 1)) with
      | true => exact absurd ⟨by omega, hb⟩ hc
      | false => rfl
theorem down_all : ∀ (m : Nat) (l : List En) (k : Nat), l.length - k ≤ m → DownOk l k → (downL l k).1.Perm l ∧ Heap (downL l k).1 := by
  intro m
  induction m with
  | zero =>
    intro l k hm h
    rw [downL_stop (.inl (by omega))]
    exact ⟨List.Perm.refl _, fun i h0 hi => h.ok i h0 hi (by have := par_lt h0; have hi : i < l.length := hi; omega)⟩
  | succ m ih =>
    intro l k hm h
    by_cases hs : l.length ≤ 2 * k + 1 ∨ ltE (en l (kid l k)) (en l k) = false
    · rw [downL_stop hs]
      refine ⟨List.Perm.refl _, fun i h0 hi => ?_⟩
      by_cases e : par i = k
      · rcases hs with hs | hs
        · have hi : i < l.length := hi
          have := par_two h0 e; omega
        · rw [e]; exact leE_trans hs (kid_least h0 hi e)
      · exact h.ok i h0 hi e
    · have h1 : 2 * k + 1 < l.length := by
        rcases Nat.lt_or_ge (2 * k + 1) l.length with h | h
        · exact h
        · exact absurd (.inl h) hs
      have h2 : ltE (en l (kid l k)) (en l k) = true := by
        cases hb : ltE (en l (kid l k)) (en l k) with
        | true => rfl
        | false => exact absurd (.inr hb) hs
      rw [downL_step h1 h2]
      obtain ⟨j, hjd⟩ : ∃ j, j = kid l k := ⟨_, rfl⟩
      have hkj := kid_gt l k
      have hjl := kid_lt (l := l) (i := k) h1
      have hpj := par_kid l k
      have hle := fun i (h0 : 0 < i) (hi : i < l.length) (h : par i = k) => kid_least (l := l) h0 hi h
      rw [← hjd] at h2 hkj hjl hpj hle ⊢
      have hkl : k < l.length := by omega
      have hen := fun i (hi : i < l.length) => swp_en hkl hjl hi
      have hD : DownOk (swp l k j) j := by
        refine ⟨fun i i0 hi hne => ?_, fun c c0 hc hpc j0 => ?_⟩
        · rw [swp_len] at hi
          have hpi := par_lt i0
          rw [hen i hi, hen (par i) (by omega), if_neg hne]
          by_cases ij : i = j
          · subst ij
            rw [if_pos rfl, if_pos hpj]
            exact ltE_asymm h2
          · rw [if_neg ij]
            by_cases ik : i = k
            · subst ik
              rw [if_pos rfl, if_neg (by omega)]
              exact h.kid j (by omega) hjl hpj i0
            · rw [if_neg ik]
              by_cases e : par i = k
              · rw [if_pos e]; exact hle i i0 hi e
              · rw [if_neg e]; exact h.ok i i0 hi e
        · rw [swp_len] at hc
          have := par_lt c0
          rw [hpj, hen c hc, hen k hkl, if_neg (by omega), if_neg (by omega), if_neg (by omega), if_pos rfl]
          have := h.ok c c0 hc (by omega)
          rwa [hpc] at this
      obtain ⟨q1, q2⟩ := ih (swp l k j) j (by rw [swp_len]; omega) hD
      exact ⟨q1.trans (swp_perm hkl hjl), q2⟩
/-- A heap, and one more entry. -/
def putQ (l : List En) (x : En) : List En := upL (l ++ [x]) l.length
theorem putQ_all {l : List En} (x : En) (h : Heap l) : (putQ l x).Perm (x :: l) ∧ Heap (putQ l x) := by
  have hen : ∀ i, i < l.length → en (l ++ [x]) i = en l i := fun i hi => by rw [en_eq (by simp; omega), en_eq hi, List.getElem_append_left hi]
  have hU : UpOk (l ++ [x]) l.length := by
    refine ⟨fun i i0 hi hne => ?_, fun c c0 hc hpc h0 => ?_⟩
    · simp at hi
      have := par_lt i0
      rw [hen i (by omega), hen (par i) (by omega)]
      exact h i i0 (by omega)
    · simp at hc
      have := par_lt c0
      omega
  obtain ⟨h1, h2⟩ := up_all l.length (l ++ [x]) (by simp) hU
  exact ⟨h1.trans (List.perm_append_comm (l₁ := l) (l₂ := [x])), h2⟩
/-- A heap without its first entry. -/
def cutQ (l : List En) : List En := (swp l 0 (l.length - 1)).take (l.length - 1)
def takeQ (l : List En) : List En := (downL (cutQ l) 0).1
theorem cutQ_len (l : List En) : (cutQ l).length = l.length - 1 := by simp [cutQ, swp_len]
theorem cutQ_last {l : List En} (h : 0 < l.length) : en (swp l 0 (l.length - 1)) (l.length - 1) = en l 0 := by
  rw [swp_en h (by omega) (by omega), if_pos rfl]
theorem swp_cut {l : List En} (h : 0 < l.length) : swp l 0 (l.length - 1) = cutQ l ++ [en l 0] := by
  have hl := swp_len l 0 (l.length - 1)
  have h1 : (swp l 0 (l.length - 1)).take (l.length - 1) ++ (swp l 0 (l.length - 1)).drop (l.length - 1) = swp l 0 (l.length - 1) := List.take_append_drop _ _
  have h2 : (swp l 0 (l.length - 1)).drop (l.length - 1) = [en l 0] := by
    rw [List.drop_eq_getElem_cons (by omega), List.drop_eq_nil_of_le (by omega), ← en_eq, cutQ_last h]
  rw [h2] at h1
  exact h1.symm
theorem takeQ_all {l : List En} (h : Heap l) (h0 : 0 < l.length) : (en l 0 :: takeQ l).Perm l ∧ Heap (takeQ l) ∧ (takeQ l).length = l.length - 1 := by
  have hc := swp_cut h0
  have hp := swp_perm (l := l) (i := 0) (j := l.length - 1) h0 (by omega)
  have hen : ∀ i, 0 < i → i < (cutQ l).length → en (cutQ l) i = en l i := fun i i0 hi => by
    have h1 : i < l.length - 1 := by rw [cutQ_len] at hi; exact hi
    have h2 := swp_en (l := l) (i := 0) (j := l.length - 1) (k := i) h0 (by omega) (by omega)
    rw [if_neg (by omega), if_neg (by omega)] at h2
    rw [← h2, en_eq hi, en_eq (by rw [swp_len]; omega)]
    simp [cutQ]
  have hD : DownOk (cutQ l) 0 := by
    refine ⟨fun i i0 hi hne => ?_, fun c _ _ _ h => absurd h (by omega)⟩
    have := par_lt i0
    rw [hen i i0 hi, hen (par i) (by omega) (by omega)]
    exact h i i0 (by rw [cutQ_len] at hi; omega)
  obtain ⟨h1, h2⟩ := down_all _ (cutQ l) 0 (Nat.le_refl _) hD
  have h3 : (en l 0 :: takeQ l).Perm l := by
    refine (List.Perm.cons _ h1).trans ?_
    refine (List.perm_append_comm (l₁ := [en l 0]) (l₂ := cutQ l)).trans ?_
    rw [← hc]; exact hp
  refine ⟨h3, h2, ?_⟩
  have := h3.length_eq
  simp at this; omega
theorem heap_first {l : List En} (h : Heap l) : ∀ i, i < l.length → ltE (en l i) (en l 0) = false := by
  intro i
  induction i using Nat.strongRecOn with
  | _ i ih =>
    intro hi
    by_cases h0 : i = 0
    · subst h0; exact ltE_irrefl _
    · have hp := par_lt (i := i) (by omega)
      exact leE_trans (ih (par i) hp (by omega)) (h i (by omega) hi)
theorem heap_nil : Heap [] := fun i _ h => absurd h (by simp)
/-- Rising without two alike. -/
def Ris (l : List En) : Prop := l.Pairwise (fun a b => ltE a b = true)
theorem ris_eq : ∀ {l m : List En}, Ris l → Ris m → (∀ x, x ∈ l ↔ x ∈ m) → l = m
  | [], [], _, _, _ => rfl
  | [], y :: m, _, _, h => absurd ((h y).2 (by simp)) (by simp)
  | x :: l, [], _, _, h => absurd ((h x).1 (by simp)) (by simp)
  | x :: l, y :: m, h1, h2, h => by
    obtain ⟨a1, a2⟩ := List.pairwise_cons.1 h1
    obtain ⟨b1, b2⟩ := List.pairwise_cons.1 h2
    have hxy : x = y := by
      rcases List.mem_cons.1 ((h x).1 (by simp)) with e | e
      · exact e
      · rcases List.mem_cons.1 ((h y).2 (by simp)) with e2 | e2
        · exact e2.symm
        · have := ltE_trans (a1 y e2) (b1 x e)
          rw [ltE_irrefl] at this; cases this
    subst hxy
    have nl : ∀ z ∈ l, z ≠ x := fun z hz e => by have := a1 z hz; rw [e, ltE_irrefl] at this; cases this
    have nm : ∀ z ∈ m, z ≠ x := fun z hz e => by have := b1 z hz; rw [e, ltE_irrefl] at this; cases this
    rw [ris_eq a2 b2 (fun z => ⟨fun hz => by
      rcases List.mem_cons.1 ((h z).1 (List.mem_cons_of_mem _ hz)) with e | e
      · exact absurd e (nl z hz)
      · exact e, fun hz => by
      rcases List.mem_cons.1 ((h z).2 (List.mem_cons_of_mem _ hz)) with e | e
      · exact absurd e (nm z hz)
      · exact e⟩)]
/-- How the taking of all out of a heap stands: what was taken, each once, and what is left. -/
structure Took (es B q : List En) : Prop where
  heap : Heap q
  ris : Ris B
  mem : ∀ x, x ∈ es ↔ x ∈ q ∨ x ∈ B
  low : ∀ b ∈ B, ∀ x ∈ q, ltE x b = false
theorem Took.start {q es : List En} (h : Heap q) (hp : q.Perm es) : Took es [] q := ⟨h, List.Pairwise.nil, fun x => by simp [hp.mem_iff], fun b hb => by cases hb⟩
theorem Took.first {es B q : List En} (h : Took es B q) (h0 : 0 < q.length) : en q 0 ∈ es := (h.mem _).2 (.inl (by rw [en_eq h0]; exact List.getElem_mem _))
/-- The first one is another one than the last that was taken. -/
theorem Took.more {es B q : List En} (h : Took es B q) (h0 : 0 < q.length) (hn : ∀ b, B.getLast? = some b → en q 0 ≠ b) : Took es (B ++ [en q 0]) (takeQ q) := by
  obtain ⟨h1, h2, h3⟩ := takeQ_all h.heap h0
  have hx : en q 0 ∈ q := by rw [en_eq h0]; exact List.getElem_mem _
  have hnb : ∀ b ∈ B, ltE b (en q 0) = true := fun b hb => by
    have hle := h.low b hb _ hx
    cases hb2 : ltE b (en q 0) with
    | true => rfl
    | false =>
      have e := ltE_tri hb2 hle
      -- the last one is not lower than b, nor ahead of the first
      obtain ⟨c, hc⟩ : ∃ c, B.getLast? = some c := by
        cases hB : B.getLast? with
        | some c => exact ⟨c, rfl⟩
        | none => rw [List.getLast?_eq_none_iff] at hB; rw [hB] at hb; cases hb
      have hcm : c ∈ B := List.mem_of_getLast? hc
      have hcl := h.low c hcm _ hx
      by_cases hbc : b = c
      · subst hbc; exact absurd e.symm (hn b hc)
      · obtain ⟨ys, hsplit⟩ := List.getLast?_eq_some_iff.1 hc
        have hbd : b ∈ ys := by
          rw [hsplit] at hb
          rcases List.mem_append.1 hb with hb | hb
          · exact hb
          · simp at hb; exact absurd hb hbc
        have hr := h.ris
        rw [hsplit] at hr
        have := (List.pairwise_append.1 hr).2.2 b hbd c (by simp)
        rw [e, hcl] at this; cases this
  refine ⟨h2, ?_, fun x => ?_, fun b hb x hxq => ?_⟩
  · refine List.pairwise_append.2 ⟨h.ris, List.pairwise_singleton _ _, fun a ha b hb => ?_⟩
    simp at hb; subst hb; exact hnb a ha
  · rw [h.mem, ← h1.mem_iff]; simp only [List.mem_cons, List.mem_append, List.not_mem_nil, or_false]
    constructor
    · rintro ((h | h) | h) <;> simp [h]
    · rintro (h | h | h) <;> simp [h]
  · have hxq2 : x ∈ q := h1.mem_iff.1 (List.mem_cons_of_mem _ hxq)
    rcases List.mem_append.1 hb with hb | hb
    · exact h.low b hb x hxq2
    · simp at hb; subst hb
      obtain ⟨i, hi, rfl⟩ := List.getElem_of_mem hxq2
      rw [← en_eq hi]; exact heap_first h.heap i hi
/-- The first one was taken already. -/
theorem Took.same {es B q : List En} (h : Took es B q) (h0 : 0 < q.length) (hn : en q 0 ∈ B) : Took es B (takeQ q) := by
  obtain ⟨h1, h2, h3⟩ := takeQ_all h.heap h0
  refine ⟨h2, h.ris, fun x => ?_, fun b hb x hxq => h.low b hb x (h1.mem_iff.1 (List.mem_cons_of_mem _ hxq))⟩
  rw [h.mem, ← h1.mem_iff]
  simp only [List.mem_cons]
  constructor
  · rintro ((h | h) | h)
    · subst h; exact .inr hn
    · exact .inl h
    · exact .inr h
  · rintro (h | h) <;> simp [h]
theorem Took.done {es B : List En} (h : Took es B []) : Ris B ∧ ∀ x, x ∈ B ↔ x ∈ es := ⟨h.ris, fun x => by rw [h.mem]; simp⟩
end Go.Proofs.YtjdejhgfkjeeiaaGreatDoor

namespace Go.Proofs.YtjdejhgfkjeeiaaGreatDoor
open Go.RowKit
set_option linter.unusedVariables false
set_option linter.unusedSimpArgs false
set_option maxRecDepth 100000

def entU (u : Ub) : En := (u.txg, packU u)
theorem entU_inj {u v : Ub} (wu : WfU u) (hu : MayU u) (wv : WfU v) (hv : MayU v) (h : entU u = entU v) : u = v := by
  have h2 : packU u = packU v := congrArg Prod.snd h
  rw [← parse_pack wu hu, ← parse_pack wv hv, h2]
/-- An uberblock laid among those that are there, in their order. -/
def insU (u : Ub) : List Ub → List Ub
  | [] => [u]
  | b :: r => if ltE (entU b) (entU u) = true then b :: insU u r else if entU b = entU u then b :: r else u :: b :: r
/-- Those that may be, in their order, each once. -/
def bestU (l : List Ub) : List Ub := (l.filter mayUB).foldl (fun B u => insU u B) []
theorem bestU_nil : bestU [] = [] := rfl
theorem bestU_yes {l : List Ub} {u : Ub} (h : mayUB u = true) : bestU (l ++ [u]) = insU u (bestU l) := by simp [bestU, h]
theorem bestU_no {l : List Ub} {u : Ub} (h : mayUB u = false) : bestU (l ++ [u]) = bestU l := by simp [bestU, h]
/-- What all of a list's are. -/
def AllU (l : List Ub) : Prop := ∀ u ∈ l, WfU u
/-- What is told: rising, and each may be. -/
structure Best (l B : List Ub) : Prop where
  ris : Ris (B.map entU)
  mem : ∀ x, x ∈ B ↔ x ∈ l ∧ MayU x
theorem insU_mem {u : Ub} (wu : WfU u) (hu : MayU u) : ∀ {B : List Ub}, (∀ b ∈ B, WfU b ∧ MayU b) → ∀ x, x ∈ insU u B ↔ x = u ∨ x ∈ B
  | [], _, x => by simp [insU]
  | b :: r, h, x => by
    have ih := insU_mem wu hu (fun c hc => h c (List.mem_cons_of_mem _ hc)) x
    unfold insU
    by_cases h1 : ltE (entU b) (entU u) = true
    · rw [if_pos h1]; simp only [List.mem_cons, ih]
      constructor
      · rintro (h | h | h) <;> simp [h]
      · rintro (h | h | h) <;> simp [h]
    · rw [if_neg h1]
      by_cases h2 : entU b = entU u
      · rw [if_pos h2]
        have := entU_inj (h b (by simp)).1 (h b (by simp)).2 wu hu h2
        subst this
        simp
      · rw [if_neg h2]; simp
theorem insU_ris {u : Ub} : ∀ {B : List Ub}, Ris (B.map entU) → Ris ((insU u B).map entU) ∧ ∀ e, e ∈ (insU u B).map entU → e = entU u ∨ e ∈ B.map entU
  | [], _ => ⟨List.pairwise_singleton _ _, fun e h => by simpa [insU] using h⟩
  | b :: r, h => by
    obtain ⟨a1, a2⟩ := List.pairwise_cons.1 h
    obtain ⟨i1, i2⟩ := insU_ris (u := u) a2
    unfold insU
    by_cases h1 : ltE (entU b) (entU u) = true
    · rw [if_pos h1]
      refine ⟨?_, fun e he => ?_⟩
      · rw [List.map_cons]
        refine List.pairwise_cons.2 ⟨fun e he => ?_, i1⟩
        rcases i2 e he with rfl | he
        · exact h1
        · exact a1 e he
      · rw [List.map_cons] at he ⊢
        rcases List.mem_cons.1 he with he | he
        · exact .inr (by rw [he]; exact List.mem_cons_self)
        · rcases i2 e he with he | he
          · exact .inl he
          · exact .inr (List.mem_cons_of_mem _ he)
    · rw [if_neg h1]
      by_cases h2 : entU b = entU u
      · rw [if_pos h2]; exact ⟨h, fun e he => .inr he⟩
      · rw [if_neg h2]
        have hub : ltE (entU u) (entU b) = true := by
          cases hb : ltE (entU u) (entU b) with
          | true => rfl
          | false => exact absurd (ltE_tri (by simpa using h1) hb) h2
        refine ⟨?_, fun e he => ?_⟩
        · rw [List.map_cons, List.map_cons]
          refine List.pairwise_cons.2 ⟨fun e he => ?_, h⟩
          rcases List.mem_cons.1 he with rfl | he
          · exact hub
          · exact ltE_trans hub (a1 e he)
        · rw [List.map_cons] at he
          rcases List.mem_cons.1 he with he | he
          · exact .inl he
          · exact .inr he
theorem bestU_best : ∀ (m : List Ub) (l B : List Ub), AllU m → (∀ b ∈ B, WfU b ∧ MayU b) → Best l B → Best (l ++ m) ((m.filter mayUB).foldl (fun B u => insU u B) B)
  | [], l, B, _, _, h => by simpa using h
  | u :: m, l, B, hw, hB, h => by
    have e : l ++ u :: m = (l ++ [u]) ++ m := by simp
    rw [e]
    cases hm : mayUB u with
    | false =>
      rw [List.filter_cons_of_neg (by simp [hm])]
      refine bestU_best m (l ++ [u]) B (fun x hx => hw x (List.mem_cons_of_mem _ hx)) hB ⟨h.ris, fun x => ?_⟩
      rw [h.mem]
      have := mayUB_no.1 hm
      constructor
      · rintro ⟨h1, h2⟩; exact ⟨List.mem_append_left _ h1, h2⟩
      · rintro ⟨h1, h2⟩
        rcases List.mem_append.1 h1 with h1 | h1
        · exact ⟨h1, h2⟩
        · simp at h1; subst h1; exact absurd h2 this
    | true =>
      rw [List.filter_cons_of_pos (by simp [hm]), List.foldl_cons]
      have hu := mayUB_iff.1 hm
      have wu := hw u (by simp)
      have hmem := insU_mem wu hu hB
      refine bestU_best m (l ++ [u]) (insU u B) (fun x hx => hw x (List.mem_cons_of_mem _ hx)) (fun b hb => ?_) ⟨(insU_ris h.ris).1, fun x => ?_⟩
      · rcases (hmem b).1 hb with rfl | hb
        · exact ⟨wu, hu⟩
        · exact hB b hb
      · rw [hmem, h.mem]
        constructor
        · rintro (rfl | ⟨h1, h2⟩)
          · exact ⟨by simp, hu⟩
          · exact ⟨List.mem_append_left _ h1, h2⟩
        · rintro ⟨h1, h2⟩
          rcases List.mem_append.1 h1 with h1 | h1
          · exact .inr ⟨h1, h2⟩
          · simp at h1; exact .inl h1
theorem best_bestU {l : List Ub} (h : AllU l) : Best l (bestU l) := by
  have := bestU_best l [] [] h (fun b hb => by cases hb) ⟨List.Pairwise.nil, fun x => by simp⟩
  simpa [bestU] using this
theorem map_back {B : List Ub} (h : ∀ u ∈ B, WfU u ∧ MayU u) : (B.map entU).map (fun e => parse e.2) = B := by
  rw [List.map_map]
  conv => rhs; rw [← List.map_id B]
  refine List.map_congr_left fun u hu => ?_
  exact parse_pack (h u hu).1 (h u hu).2
theorem Best.all {l B : List Ub} (hl : AllU l) (h : Best l B) : ∀ u ∈ B, WfU u ∧ MayU u := fun u hu => ⟨hl u ((h.mem u).1 hu).1, ((h.mem u).1 hu).2⟩
/-- There is one such answer. -/
theorem Best.eq {l B : List Ub} (hl : AllU l) (h : Best l B) : B = bestU l := by
  have h2 := best_bestU hl
  have e : B.map entU = (bestU l).map entU := by
    refine ris_eq h.ris h2.ris (fun x => ?_)
    simp only [List.mem_map]
    constructor
    · rintro ⟨u, hu, rfl⟩; exact ⟨u, (h2.mem u).2 ((h.mem u).1 hu), rfl⟩
    · rintro ⟨u, hu, rfl⟩; exact ⟨u, (h.mem u).2 ((h2.mem u).1 hu), rfl⟩
  rw [← map_back (h.all hl), ← map_back (h2.all hl), e]
theorem bestU_same {l m : List Ub} (hl : AllU l) (hm : AllU m) (h : ∀ x, x ∈ l ↔ x ∈ m) : bestU l = bestU m := by
  refine Best.eq hm ⟨(best_bestU hl).ris, fun x => ?_⟩
  rw [(best_bestU hl).mem, h]
/-- Where it is laid. -/
theorem insU_at {u : Ub} : ∀ {B : List Ub} {k : Nat}, k ≤ B.length → (∀ j (h : j < B.length), j < k → ltE (entU B[j]) (entU u) = true) → (∀ h : k < B.length, ltE (entU B[k]) (entU u) = false) →
    insU u B = if h : k < B.length then (if entU B[k] = entU u then B else B.take k ++ u :: B.drop k) else B ++ [u]
  | [], k, hk, _, _ => by simp at hk; subst hk; rfl
  | b :: r, 0, _, _, h => by
    have h0 := h (by simp)
    simp only [List.getElem_cons_zero] at h0
    unfold insU
    simp [h0]
  | b :: r, k + 1, hk, h1, h2 => by
    have h0 := h1 0 (by simp) (by omega)
    simp only [List.getElem_cons_zero] at h0
    have ih := insU_at (u := u) (B := r) (k := k) (by simpa using hk) (fun j hj hjk => by have := h1 (j + 1) (by simpa using hj) (by omega); simpa using this) (fun hh => by have := h2 (by simpa using hh); simpa using this)
    unfold insU
    rw [if_pos h0, ih]
    by_cases hlt : k < r.length
    · rw [dif_pos hlt, dif_pos (by simpa using hlt)]
      simp only [List.getElem_cons_succ]
      by_cases he : entU r[k] = entU u
      · rw [if_pos he, if_pos he]
      · rw [if_neg he, if_neg he]; simp
    · rw [dif_neg hlt, dif_neg (by simpa using hlt)]; simp

/-- The slot of a commit. -/
def slotN (txg : Int) : Int := if txg < 1 ∨ 2147483648 < txg then 0 else 1 + txg % 4
def slotB (txg : Int) : Bool := !(decide (txg < 1) || decide (2147483648 < txg))
theorem slotN_may {u : Ub} (h : MayU u) : slotN u.txg = 1 + u.txg % 4 := by
  unfold slotN; rw [if_neg (by have := h.t1; have := h.t2; omega)]
/-- Does an uberblock of a pool stand in the i-th slot, and what is told of them all. -/
def stands (pool : List UInt8) (i : Nat) (b : List UInt8) : Bool := ((unp b).2 == 0) && (((unp b).1.pool == pool) && (((1 + i : Nat) : Int) == slotN (unp b).1.txg))
def rowAt (l : List (List UInt8)) (i : Nat) : List UInt8 := l.getD i []
theorem rowAt_eq {l : List (List UInt8)} {i : Nat} (h : i < l.length) : rowAt l i = l[i] := by simp [rowAt, List.getD, List.getElem?_eq_getElem h]
def fndAt (pool : List UInt8) (l : List (List UInt8)) (i : Nat) : Option Ub := if stands pool i (rowAt l i) = true then some (unp (rowAt l i)).1 else none
def fnd (pool : List UInt8) (l : List (List UInt8)) (k : Nat) : List Ub := (List.range k).filterMap (fndAt pool l)
theorem fnd_yes {pool : List UInt8} {l : List (List UInt8)} {k : Nat} (h : stands pool k (rowAt l k) = true) : fnd pool l (k + 1) = fnd pool l k ++ [(unp (rowAt l k)).1] := by
  simp [fnd, List.range_succ, fndAt, h]
theorem fnd_no {pool : List UInt8} {l : List (List UInt8)} {k : Nat} (h : stands pool k (rowAt l k) = false) : fnd pool l (k + 1) = fnd pool l k := by
  simp [fnd, List.range_succ, fndAt, h]
theorem fnd_wf (pool : List UInt8) (l : List (List UInt8)) (k : Nat) : AllU (fnd pool l k) := fun u hu => by
  obtain ⟨i, _, h⟩ := List.mem_filterMap.1 hu
  unfold fndAt at h
  split at h
  · injection h with h; subst h; exact unp_wf _
  · cases h
theorem fnd_len (pool : List UInt8) (l : List (List UInt8)) (k : Nat) : (fnd pool l k).length ≤ k := by
  have := List.length_filterMap_le (fndAt pool l) (List.range k)
  simpa [fnd] using this
def foundU (pool : List UInt8) (l : List (List UInt8)) : List Ub := if l.length = 4 then fnd pool l 4 else []
def foundE (l : List (List UInt8)) : Int := if l.length = 4 then 0 else 2
/-- How many of some rows of bytes are not all noughts. -/
def usedB (b : List UInt8) : Bool := b.any (· != 0)
def usd (l : List (List UInt8)) (k : Nat) : Nat := ((List.range k).filter (fun i => usedB (rowAt l i))).length
theorem usd_yes {l : List (List UInt8)} {k : Nat} (h : usedB (rowAt l k) = true) : usd l (k + 1) = usd l k + 1 := by simp [usd, List.range_succ, h]
theorem usd_no {l : List (List UInt8)} {k : Nat} (h : usedB (rowAt l k) = false) : usd l (k + 1) = usd l k := by simp [usd, List.range_succ, h]
theorem usd_le (l : List (List UInt8)) (k : Nat) : usd l k ≤ k := by
  have := List.length_filter_le (fun i => usedB (rowAt l i)) (List.range k)
  simpa [usd] using this
def usedN (l : List (List UInt8)) : Int := if l.length = 4 then (usd l 4 : Int) else 0
end Go.Proofs.YtjdejhgfkjeeiaaGreatDoor

namespace Go.Proofs.YtjdejhgfkjeeiaaGreatDoor
open Go.RowKit
set_option linter.unusedVariables false
set_option linter.unusedSimpArgs false
set_option maxRecDepth 100000

open Kr (OwnE SlE Enco RowTys)
/-- An entry, as two cells. -/
def sB (l : List UInt8) : ByteArray := ⟨l.toArray⟩
theorem sB_list (l : List UInt8) : (sB l).data.toList = l := rfl
theorem sB_inj {l m : List UInt8} (h : sB l = sB m) : l = m := by have := congrArg (fun x : ByteArray => x.data.toList) h; exact this
def eEn (x : En) : List Value := [.int .i64 x.1, .string (sB x.2)]
def vEn (x : En) : Value := .agg #[.int .i64 x.1, .string (sB x.2)]
theorem EEn : Enco eEn 2 := ⟨fun _ => rfl, fun x u hu => by simp [eEn] at hu; rcases hu with rfl | rfl <;> rfl, by omega, fun x y h => by
  simp only [eEn, List.cons.injEq, Value.int.injEq, Value.string.injEq, true_and, and_true] at h
  exact Prod.ext h.1 (sB_inj h.2)⟩
theorem tysEn : RowTys Tryz.prog 148 118 2 24 := ⟨by kernel_rfl, .agg #[.int .i64 0, .string (sB [])], rfl, by kernel_rfl⟩
abbrev OwnQ (w : World) (v : Value) (l : List En) (sp : List Value) : Prop := OwnE eEn 2 118 w v l sp
/-- A queue: its variable, its row. -/
structure Qu (w : World) (g : Nat) (v : Value) (l : List En) (sp : List Value) : Prop where
  box : w.heap[g]? = some (.cells #[v] 148 (0, 0))
  own : OwnQ w v l sp
  ne : ∀ i ∈ blk v, i ≠ g
theorem Qu.cell {w : World} {g : Nat} {v : Value} {l : List En} {sp : List Value} (h : Qu w g v l sp) : w.cell? ⟨g, 0, none⟩ = some v := by rw [cell_of_heap h.box]; rfl
theorem Qu.frozen {w : World} {g : Nat} {v : Value} {l : List En} {sp : List Value} (h : Qu w g v l sp) : w.frozen? ⟨g, 0, none⟩ = false := frozen_of_heap h.box 0
theorem Qu.lt {w : World} {g : Nat} {v : Value} {l : List En} {sp : List Value} (h : Qu w g v l sp) : g < w.heap.size := World.block_lt_of_cell? _ _ h.cell
theorem Qu.keep0 {w w' : World} {g : Nat} {v : Value} {l : List En} {sp : List Value} (h : Qu w g v l sp) (f : Frm [] w w') : Qu w' g v l sp := ⟨f.heap h.box (by simp), h.own.keep0 f, h.ne⟩
theorem OwnQ.len {w : World} {a : Option Addr} {n cap : Nat} {l : List En} {sp : List Value} (h : OwnQ w (.slice a n cap) l sp) : n = l.length := by
  obtain ⟨a', c', e, _, _⟩ := h.sl.form
  injection e
theorem Len_any (a : Option Addr) (n cap : Nat) (w : World) : Calls Tryz.prog 86 #[.slice a n cap] w fun e w' => e = .returned (.int .i64 n) ∧ w' = w := by
  go_enter Tryz.func86, Tryz.ntmps86
  go_wp2
  go_ret
  exact ⟨rfl, rfl⟩
theorem isNaN_any (x : Int) (w : World) : Calls Tryz.prog 206 #[.int .i64 x] w fun e w' => e = .returned (.bool false) ∧ w' = w := by
  go_enter Tryz.func206, Tryz.ntmps206
  go_wp2
  go_ret
  exact ⟨by simp, rfl⟩
set_option maxHeartbeats 1000000 in
theorem Compare_any (x y : Int) (w : World) : Calls Tryz.prog 204 #[.int .i64 x, .int .i64 y] w fun e w' => e = .returned (.int .i64 (Lib.compareInt x y)) ∧ w' = w := by
  go_enter Tryz.func204, Tryz.ntmps204
  go_wp2_with (go_at_call 206; refine (isNaN_any _ _).mono ?_; rintro e w' ⟨rfl, hw⟩; rw [hw])
  all_goals (go_ret; refine ⟨?_, rfl⟩; unfold Lib.compareInt; (repeat' split) <;> first | rfl | (exfalso; omega))
theorem Or_left (g : Nat) (a b : Int) (w : World) (h0 : w.cell? ⟨g, 0, none⟩ = some (.int .i64 a)) (h1 : w.cell? ⟨g, 1, none⟩ = some (.int .i64 b)) (ha : a ≠ 0) :
    Calls Tryz.prog 203 #[.slice (some ⟨g, 0, none⟩) 2 2] w fun e w' => e = .returned (.int .i64 a) ∧ w' = w := by
  go_enter Tryz.func203, Tryz.ntmps203
  go_wp2
  refine wp_loop_rounds 1 ?_
  rw [rounds_succ]
  go_wp2
  go_ret
  exact ⟨rfl, rfl⟩
theorem Or_right (g : Nat) (b : Int) (w : World) (h0 : w.cell? ⟨g, 0, none⟩ = some (.int .i64 0)) (h1 : w.cell? ⟨g, 1, none⟩ = some (.int .i64 b)) :
    Calls Tryz.prog 203 #[.slice (some ⟨g, 0, none⟩) 2 2] w fun e w' => e = .returned (.int .i64 b) ∧ w' = w := by
  by_cases hb : b = 0
  · subst hb
    go_enter Tryz.func203, Tryz.ntmps203
    go_wp2
    refine wp_loop_rounds 3 ?_
    rw [rounds_succ]
    go_wp2
    rw [rounds_succ]
    go_wp2
    rw [rounds_succ]
    go_wp2
    go_ret
    exact ⟨rfl, rfl⟩
  · go_enter Tryz.func203, Tryz.ntmps203
    go_wp2
    refine wp_loop_rounds 2 ?_
    rw [rounds_succ]
    go_wp2
    rw [rounds_succ]
    go_wp2
    go_ret
    exact ⟨rfl, rfl⟩
def orI (a b : Int) : Int := if a ≠ 0 then a else b
theorem Or_any (g : Nat) (a b : Int) (w : World) (h0 : w.cell? ⟨g, 0, none⟩ = some (.int .i64 a)) (h1 : w.cell? ⟨g, 1, none⟩ = some (.int .i64 b)) :
    Calls Tryz.prog 203 #[.slice (some ⟨g, 0, none⟩) 2 2] w fun e w' => e = .returned (.int .i64 (orI a b)) ∧ w' = w := by
  unfold orI
  by_cases ha : a = 0
  · subst ha
    exact Or_right g b w h0 h1
  · rw [if_pos ha]
    exact Or_left g a b w h0 h1 ha
theorem Or_new (W : World) (g : Nat) (hg : g = W.heap.size) (a b : Int) :
    Calls Tryz.prog 203 #[.slice (some ⟨g, 0, none⟩) 2 2] ((W.alloc (.cells #[.int .i64 a, .int .i64 b] 3)).drew) fun e w' => e = .returned (.int .i64 (orI a b)) ∧ w' = ((W.alloc (.cells #[.int .i64 a, .int .i64 b] 3)).drew) := by
  subst hg
  have h := heap_alloc_new W (.cells #[.int .i64 a, .int .i64 b] 3)
  exact Or_any _ a b _ (by rw [World.cell?_drew, cell_of_heap h]; rfl) (by rw [World.cell?_drew, cell_of_heap h]; rfl)
theorem call208 (a b : ByteArray) (w : World) : (callFunc 208 #[.string a, .string b]).run Tryz.prog w = .ok (.value (.int .i64 (Lib.compareBytes a.data.toList b.data.toList))) w := by
  rw [run_callFunc_extern Tryz.func208 (by kernel_rfl) (by kernel_rfl) (by kernel_rfl) (by kernel_rfl)]
  rw [Lib.run_compareString]
  rfl
theorem CmpString_any (a b : ByteArray) (w : World) : Calls Tryz.prog 207 #[.string a, .string b] w fun r w' => r = .returned (.int .i64 (Lib.compareBytes a.data.toList b.data.toList)) ∧ w' = w := by
  have hc := call208 a b w
  go_enter Tryz.func207, Tryz.ntmps207
  go_wp2
  go_ret
  exact ⟨rfl, rfl⟩
theorem StrCmp_any (a b : ByteArray) (w : World) : Calls Tryz.prog 205 #[.string a, .string b] w fun r w' => r = .returned (.int .i64 (Lib.compareBytes a.data.toList b.data.toList)) ∧ w' = w := by
  go_enter Tryz.func205, Tryz.ntmps205
  go_wp2_with (go_at_call 207; refine (CmpString_any _ _ _).mono ?_; rintro r w' ⟨rfl, hw⟩; rw [hw])
  go_ret
  exact ⟨rfl, rfl⟩
theorem cmpE_or (x y : En) : cmpE x y = orI (Lib.compareInt y.1 x.1) (Lib.compareBytes x.2 y.2) := by
  unfold cmpE orI Lib.compareInt
  by_cases h1 : y.1 < x.1
  · simp [h1]
  · by_cases h2 : x.1 < y.1
    · simp [h1, h2]
    · simp [h1, h2]
set_option maxHeartbeats 1000000 in
theorem compareE_any (x y : En) (w : World) : Calls Tryz.prog 202 #[vEn x, vEn y] w fun e w' => e = .returned (.int .i64 (cmpE x y)) ∧ Frm [] w w' := by
  rw [cmpE_or]
  have hC1 := fun W => Compare_any y.1 x.1 W
  have hC2 := fun W => StrCmp_any (sB x.2) (sB y.2) W
  rw [sB_list, sB_list] at hC2
  generalize Lib.compareInt y.1 x.1 = c1 at *
  generalize Lib.compareBytes x.2 y.2 = c2 at *
  have HC1 := Lib.hid hC1
  have HC2 := Lib.hid hC2
  clear hC1 hC2
  unfold vEn
  go_enter Tryz.func202, Tryz.ntmps202
  go_upto_region 1 with (fail)
  refine wp_region_still_tail 10 (by kernel_rfl) (by kernel_rfl) ?_
  simp only [List.take_succ_cons, List.take_zero, List.drop_succ_cons, List.drop_zero]
  change wpStill _ _ (World.drew _) _ _ _
  iterate 4 still_step
  still_call (HC1.out _)
  iterate 4 still_step
  still_call (HC2.out _)
  refine wpStill_nil ?_
  change wpList _ _ _ _ _ (World.drew _)
  go_wp2_with fail
  refine (Or_new _ _ (by simp) _ _).mono ?_
  rintro r w1 ⟨rfl, rfl⟩
  go_wp2_with fail
  go_ret
  exact ⟨rfl, ((((Frm.refl [] w).alloc _).alloc _).alloc _).drew⟩
end Go.Proofs.YtjdejhgfkjeeiaaGreatDoor

namespace Go.Proofs.YtjdejhgfkjeeiaaGreatDoor
open Go.RowKit
set_option linter.unusedVariables false
set_option linter.unusedSimpArgs false
set_option maxRecDepth 100000

open Kr (OwnE SlE Enco RowTys)
theorem OwnQ.at {w : World} {v : Value} {l : List En} {sp : List Value} (h : OwnQ w v l sp) (hp : 0 < l.length) : ∃ g cap, v = .slice (some ⟨g, 0, none⟩) l.length cap ∧ l.length ≤ cap := by
  obtain ⟨h1, ⟨h2, h3, h4⟩ | ⟨g, cap, h2, h3, h4, h5, h6⟩⟩ := h
  · omega
  · exact ⟨g, cap, h2, h3⟩
theorem OwnQ.cells {w : World} {g n cap : Nat} {l : List En} {sp : List Value} (h : OwnQ w (.slice (some ⟨g, 0, none⟩) n cap) l sp) (i : Nat) (hi : i < l.length) :
    w.cell? ⟨g, i * 2, none⟩ = some (.int .i64 (en l i).1) ∧ w.cell? ⟨g, i * 2 + 1, none⟩ = some (.string (sB (en l i).2)) ∧ w.frozen? ⟨g, i * 2, none⟩ = false ∧ w.frozen? ⟨g, i * 2 + 1, none⟩ = false := by
  have hb := OwnE.heap h
  have c0 := SlE.cell EEn h.sl i hi 0 (u := .int .i64 (en l i).1) (by rw [en_eq hi]; rfl)
  have c1 := SlE.cell EEn h.sl i hi 1 (u := .string (sB (en l i).2)) (by rw [en_eq hi]; rfl)
  simp only [Nat.zero_add, Nat.add_zero] at c0 c1
  exact ⟨c0, c1, frozen_of_heap hb _, frozen_of_heap hb _⟩
set_option maxHeartbeats 1000000 in
theorem LessQ_any (v : Value) (l : List En) (sp : List Value) (i j : Nat) (w : World) (h : OwnQ w v l sp) (hi : i < l.length) (hj : j < l.length) :
    Calls Tryz.prog 201 #[v, .int .i64 i, .int .i64 j] w fun e w' => e = .returned (.bool (ltE (en l i) (en l j))) ∧ Frm [] w w' := by
  obtain ⟨g, cap, rfl, _⟩ := OwnQ.at h (by omega)
  obtain ⟨c0, c1, _, _⟩ := OwnQ.cells h i hi
  obtain ⟨d0, d1, _, _⟩ := OwnQ.cells h j hj
  have HC := Lib.hid (fun W => compareE_any (en l i) (en l j) W)
  unfold vEn at HC
  unfold ltE
  generalize cmpE (en l i) (en l j) = c at *
  generalize (en l i).1 = x1 at *
  generalize (en l i).2 = x2 at *
  generalize (en l j).1 = y1 at *
  generalize (en l j).2 = y2 at *
  have hi' : (i : Int) < (l.length : Int) := by omega
  have hj' : (j : Int) < (l.length : Int) := by omega
  clear h hi hj
  go_enter Tryz.func201, Tryz.ntmps201
  go_upto_region 1 with (fail)
  refine wp_region_still_tail 8 (by kernel_rfl) (by kernel_rfl) ?_
  simp only [List.take_succ_cons, List.take_zero, List.drop_succ_cons, List.drop_zero]
  change wpStill _ _ (World.drew _) _ _ _
  repeat still_step
  refine wpStill_nil ?_
  change wpList _ _ _ _ _ (World.drew _)
  go_wp2_with (go_at_call 202; refine (HC.out _).mono ?_; rintro r w1 ⟨rfl, f1⟩)
  go_ret
  exact ⟨rfl, ((Frm.refl [] w).drew).trans f1 (by simp)⟩
/-- Two entries exchanged, cell by cell. -/
def exQ (W : World) (g i j : Nat) (x y : En) : World :=
  (((W.setCell ⟨g, i * 2, none⟩ (.int .i64 y.1)).setCell ⟨g, i * 2 + 1, none⟩ (.string (sB y.2))).setCell ⟨g, j * 2, none⟩ (.int .i64 x.1)).setCell ⟨g, j * 2 + 1, none⟩ (.string (sB x.2))
theorem OwnQ.put {w : World} {g n cap : Nat} {l : List En} {sp : List Value} (h : OwnQ w (.slice (some ⟨g, 0, none⟩) n cap) l sp) (i : Nat) (hi : i < l.length) (y : En) :
    OwnQ ((w.setCell ⟨g, i * 2, none⟩ (.int .i64 y.1)).setCell ⟨g, i * 2 + 1, none⟩ (.string (sB y.2))) (.slice (some ⟨g, 0, none⟩) n cap) (l.set i y) sp := by
  have h1 := OwnE.store EEn h i 0 hi (by omega) (y.1, (l[i]).2) (.int .i64 y.1) rfl
  have h2 := OwnE.store EEn h1 i 1 (by simpa using hi) (by omega) y (.string (sB y.2)) (by simp [eEn])
  rw [List.set_set, Nat.add_zero] at h2
  exact h2
theorem OwnQ.ex {w : World} {g n cap : Nat} {l : List En} {sp : List Value} (h : OwnQ w (.slice (some ⟨g, 0, none⟩) n cap) l sp) (i j : Nat) (hi : i < l.length) (hj : j < l.length) :
    OwnQ (exQ w g i j (en l i) (en l j)) (.slice (some ⟨g, 0, none⟩) n cap) (swp l i j) sp :=
  OwnQ.put (OwnQ.put h i hi (en l j)) j (by simpa using hj) (en l i)
theorem exQ_frm (W : World) (g i j : Nat) (x y : En) : Frm [g] W (exQ W g i j x y) :=
  ((((Frm.refl [g] W).setCell _ _ (.inl (by simp))).setCell _ _ (.inl (by simp))).setCell _ _ (.inl (by simp))).setCell _ _ (.inl (by simp))
set_option maxHeartbeats 4000000 in
theorem SwapQ_any (v : Value) (l : List En) (sp : List Value) (i j : Nat) (w : World) (h : OwnQ w v l sp) (hi : i < l.length) (hj : j < l.length) :
    Calls Tryz.prog 125 #[v, .int .i64 i, .int .i64 j] w fun e w' => e = .returned (.tuple #[]) ∧ OwnQ w' v (swp l i j) sp ∧ Frm (blk v) w w' := by
  obtain ⟨g, cap, rfl, _⟩ := OwnQ.at h (by omega)
  obtain ⟨c0, c1, z0, z1⟩ := OwnQ.cells h i hi
  obtain ⟨d0, d1, y0, y1⟩ := OwnQ.cells h j hj
  have HE := Lib.hid (OwnQ.ex h i j hi hj)
  have HF := Lib.hid (exQ_frm w g i j (en l i) (en l j))
  unfold exQ at HE HF
  generalize (en l i).1 = x1 at *
  generalize (en l i).2 = x2 at *
  generalize (en l j).1 = u1 at *
  generalize (en l j).2 = u2 at *
  have hi' : (i : Int) < (l.length : Int) := by omega
  have hj' : (j : Int) < (l.length : Int) := by omega
  clear h hi hj
  have hmix : Tryz.prog.follows .mixedOrders = true := by kernel_rfl
  by_cases hij : i = j
  · subst hij
    obtain rfl : x1 = u1 := by rw [c0] at d0; simpa using d0
    have e2 : x2 = u2 := by rw [c1] at d1; exact sB_inj (by simpa using d1)
    rw [← e2] at HE HF
    clear d0 d1 y0 y1 e2
    go_enter Tryz.func125, Tryz.ntmps125
    go_big_region_o
    go_wp2_with fail
    go_end0
    exact ⟨rfl, HE.out.keep0 ((Frm.refl [] _).drew), HF.out.drew⟩
  · have n1 : ¬ i * 2 = j * 2 := by omega
    have n2 : ¬ i * 2 + 1 = j * 2 := by omega
    have n3 : ¬ i * 2 = j * 2 + 1 := by omega
    have n4 : ¬ j * 2 = i * 2 := by omega
    have n5 : ¬ j * 2 + 1 = i * 2 := by omega
    have n6 : ¬ j * 2 = i * 2 + 1 := by omega
    go_enter Tryz.func125, Tryz.ntmps125
    go_big_region_o
    go_wp2_with fail
    go_end0
    exact ⟨rfl, HE.out.keep0 ((Frm.refl [] _).drew), HF.out.drew⟩
theorem mAt (g : Nat) (W : World) (x : Value) (h : W.cell? ⟨g, 0, none⟩ = some x) : (loadVar 148 ⟨g, 0, none⟩).run Tryz.prog W = .ok x W := by
  simp [loadVar, isAgg, run_underlying Tryz.underlying148, h, go_sem]
theorem mLess0 (g : Nat) (W : World) : (Go.method 352 114 (.pointer (some ⟨g, 0, none⟩)) "Less").run Tryz.prog W = (do let x ← loadVar 148 ⟨g, 0, none⟩; pure (201, x)).run Tryz.prog W := by kernel_rfl
theorem mSwap0 (g : Nat) (W : World) : (Go.method 352 114 (.pointer (some ⟨g, 0, none⟩)) "Swap").run Tryz.prog W = (do let x ← loadVar 148 ⟨g, 0, none⟩; pure (125, x)).run Tryz.prog W := by kernel_rfl
theorem mLen0 (g : Nat) (W : World) : (Go.method 352 114 (.pointer (some ⟨g, 0, none⟩)) "Len").run Tryz.prog W = (do let x ← loadVar 148 ⟨g, 0, none⟩; pure (86, x)).run Tryz.prog W := by kernel_rfl
theorem mLess (g : Nat) (W : World) (x : Value) (h : W.cell? ⟨g, 0, none⟩ = some x) : (Go.method 352 114 (.pointer (some ⟨g, 0, none⟩)) "Less").run Tryz.prog W = .ok (201, x) W := by
  rw [mLess0]; simp [Sem.run_bind, mAt g W x h]
theorem mSwap (g : Nat) (W : World) (x : Value) (h : W.cell? ⟨g, 0, none⟩ = some x) : (Go.method 352 114 (.pointer (some ⟨g, 0, none⟩)) "Swap").run Tryz.prog W = .ok (125, x) W := by
  rw [mSwap0]; simp [Sem.run_bind, mAt g W x h]
theorem mLen (g : Nat) (W : World) (x : Value) (h : W.cell? ⟨g, 0, none⟩ = some x) : (Go.method 352 114 (.pointer (some ⟨g, 0, none⟩)) "Len").run Tryz.prog W = .ok (86, x) W := by
  rw [mLen0]; simp [Sem.run_bind, mAt g W x h]
end Go.Proofs.YtjdejhgfkjeeiaaGreatDoor

namespace Go.Proofs.YtjdejhgfkjeeiaaGreatDoor
open Go.RowKit
set_option linter.unusedVariables false
set_option linter.unusedSimpArgs false
set_option maxRecDepth 100000

/-- A queue whose row has been changed in place. -/
def Mv (g : Nat) (v : Value) (l' : List En) (sp : List Value) (w w' : World) : Prop := Qu w' g v l' sp ∧ Frm (blk v) w w'
theorem Qu.swap {w w' : World} {g : Nat} {v : Value} {l l' : List En} {sp : List Value} (h : Qu w g v l sp) (ho : OwnQ w' v l' sp) (f : Frm (blk v) w w') : Qu w' g v l' sp :=
  ⟨f.heap h.box (fun hm => h.ne _ hm rfl), ho, h.ne⟩
theorem Qu.form {w : World} {g : Nat} {v : Value} {l : List En} {sp : List Value} (h : Qu w g v l sp) : ∃ a cap, v = .slice a l.length cap := by
  obtain ⟨a, cap, e, _, _⟩ := h.own.sl.form
  exact ⟨a, cap, e⟩
def DnRel (g : Nat) (v : Value) (l : List En) (sp : List Value) (i : Nat) (w : World) (cv : Value) (wr : World) : Prop :=
  ∃ (k : Nat) (lk : List En), cv = .int .i64 k ∧ Qu wr g v lk sp ∧ downL lk k = downL l i ∧ lk.length = l.length ∧ k ≤ l.length ∧ Frm (blk v) w wr
theorem LessQ_int (a b : Int) (v : Value) (l : List En) (sp : List Value) (i j : Nat) (w : World) (h : OwnQ w v l sp) (hi : i < l.length) (hj : j < l.length) (ha : a = (i : Int)) (hb : b = (j : Int)) :
    Calls Tryz.prog 201 #[v, .int .i64 a, .int .i64 b] w fun e w' => e = .returned (.bool (ltE (en l i) (en l j))) ∧ Frm [] w w' := by
  subst ha; subst hb; exact LessQ_any v l sp i j w h hi hj
theorem SwapQ_int (a b : Int) (v : Value) (l : List En) (sp : List Value) (i j : Nat) (w : World) (h : OwnQ w v l sp) (hi : i < l.length) (hj : j < l.length) (ha : a = (i : Int)) (hb : b = (j : Int)) :
    Calls Tryz.prog 125 #[v, .int .i64 a, .int .i64 b] w fun e w' => e = .returned (.tuple #[]) ∧ OwnQ w' v (swp l i j) sp ∧ Frm (blk v) w w' := by
  subst ha; subst hb; exact SwapQ_any v l sp i j w h hi hj
set_option maxHeartbeats 4000000 in
theorem down_any (g : Nat) (v : Value) (l : List En) (sp : List Value) (i : Nat) (w : World) (h : Qu w g v l sp) (hi : i ≤ l.length) (hl : l.length ≤ 1000000) :
    Calls Tryz.prog 163 #[.iface 114 (.pointer (some ⟨g, 0, none⟩)), .int .i64 i, .int .i64 l.length] w fun e w' => e = .returned (.bool (decide (i < (downL l i).2))) ∧ Mv g v (downL l i).1 sp w w' := by
  have hl9 : (l.length : Int) ≤ 1000000 := by omega
  obtain ⟨n, hn⟩ : ∃ n, n = l.length := ⟨_, rfl⟩
  have HN := Lib.hid hn
  rw [← hn] at hl9 hi ⊢
  have H := Lib.hid h
  have HI := Lib.hid hi
  clear h hi hl hn
  go_enter Tryz.func163, Tryz.ntmps163
  go_wp2_with fail
  go_loopw [7] (DnRel g v l sp i w) (fun cv _ => n - (intOf cv).toNat)
  case atStart => exact ⟨i, l, rfl, H.out, rfl, rfl, by rw [← HN.out]; exact HI.out, Frm.refl _ _⟩
  case round =>
    obtain ⟨k, lk, rfl, q, hd, hlk, hkl, f⟩ := hrel
    rw [← HN.out] at hlk hkl
    have Q := Lib.hid q
    have F := Lib.hid f
    have HD := Lib.hid hd
    have HLK := Lib.hid hlk
    have hk9 : (k : Int) ≤ (n : Int) := by omega
    have ml := mLess g wr v q.cell
    clear q f hd hlk H HI
    by_cases h1 : 2 * k + 1 < n
    · have h1' : 2 * (k : Int) + 1 < (n : Int) := by omega
      by_cases h2 : 2 * k + 2 < n
      · have h2' : 2 * (k : Int) + 1 + 1 < (n : Int) := by omega
        have HL1 := Lib.hid (LessQ_int (2 * (k : Int) + 1 + 1) (2 * (k : Int) + 1) v lk sp (2 * k + 2) (2 * k + 1) wr Q.out.own (by rw [HLK.out]; omega) (by rw [HLK.out]; omega) (by omega) (by omega))
        obtain ⟨b1, hb1⟩ : ∃ b1, ltE (en lk (2 * k + 2)) (en lk (2 * k + 1)) = b1 := ⟨_, rfl⟩
        rw [hb1] at HL1
        have HB1 := Lib.hid hb1
        clear hb1
        cases b1 with
        | true =>
          go_upto_region 8 with (fail)
          refine HL1.out.mono ?_
          rintro r w1 ⟨rfl, f1⟩
          have Q1 := Lib.hid (Q.out.keep0 f1)
          have F1 := Lib.hid (F.out.trans f1 (by simp))
          clear f1
          go_upto_region 8 with (fail)
          obtain ⟨j, hj⟩ : ∃ j, kid lk k = j := ⟨_, rfl⟩
          have HJ := Lib.hid hj
          have hje : (2 * k + 2) = j := by rw [← hj]; unfold kid; rw [if_pos ⟨by rw [HLK.out]; omega, HB1.out⟩]
          have hjn : j < lk.length := by rw [← hj]; exact kid_lt (by rw [HLK.out]; omega)
          subst hje
          have HJN := Lib.hid hjn
          clear hj hjn
          have ml1 := mLess g w1 v Q1.out.cell
          have HMS := Lib.hid (fun (W : World) (f : Frm [] w1 W) => mSwap g W v (Q1.out.keep0 f).cell)
          have HL2 := Lib.hid (LessQ_int (2 * (k : Int) + 1 + 1) k v lk sp (2 * k + 2) k w1 Q1.out.own HJN.out (by rw [HLK.out]; omega) (by omega) rfl)
          obtain ⟨b2, hb2⟩ : ∃ b2, ltE (en lk (2 * k + 2)) (en lk k) = b2 := ⟨_, rfl⟩
          rw [hb2] at HL2
          have HB2 := Lib.hid hb2
          clear hb2
          cases b2 with
          | false =>
            go_wp2_with fail
            refine HL2.out.mono ?_
            rintro r w2 ⟨rfl, f2⟩
            go_wp2_with fail
            go_ret
            have e := HD.out
            rw [downL_stop (.inr (by rw [HJ.out]; exact HB2.out))] at e
            rw [← e]
            exact ⟨by simp, Q1.out.keep0 f2, F1.out.trans f2 (by simp)⟩
          | true =>
            go_wp2_with fail
            refine HL2.out.mono ?_
            rintro r w2 ⟨rfl, f2⟩
            have ms2 := HMS.out w2 f2
            have HS := Lib.hid (SwapQ_int k (2 * (k : Int) + 1 + 1) v lk sp k (2 * k + 2) w2 (Q1.out.keep0 f2).own (by rw [HLK.out]; omega) HJN.out rfl (by omega))
            have Q2 := Lib.hid (Q1.out.keep0 f2)
            have F2 := Lib.hid (F1.out.trans f2 (by simp))
            clear f2
            go_wp2_with fail
            refine HS.out.mono ?_
            rintro r w3 ⟨rfl, o3, f3⟩
            go_wp2_with fail
            go_roundw
            case rel =>
              refine ⟨2 * k + 2, swp lk k (2 * k + 2), congrArg (Value.int .i64) (by omega), Q2.out.swap o3 f3, ?_, by rw [swp_len]; exact HLK.out.trans HN.out, by have := HJN.out; rw [HLK.out, HN.out] at this; omega, F2.out.trans f3 (fun i hi => .inl hi)⟩
              have e := HD.out
              rw [downL_step (by rw [HLK.out]; omega) (by rw [HJ.out]; exact HB2.out), HJ.out] at e
              exact e
            case measure => simp [intOf]; omega
        | false =>
          go_upto_region 8 with (fail)
          refine HL1.out.mono ?_
          rintro r w1 ⟨rfl, f1⟩
          have Q1 := Lib.hid (Q.out.keep0 f1)
          have F1 := Lib.hid (F.out.trans f1 (by simp))
          clear f1
          go_upto_region 8 with (fail)
          obtain ⟨j, hj⟩ : ∃ j, kid lk k = j := ⟨_, rfl⟩
          have HJ := Lib.hid hj
          have hje : (2 * k + 1) = j := by rw [← hj]; unfold kid; rw [if_neg (fun h => by rw [HB1.out] at h; exact absurd h.2 (by decide))]
          have hjn : j < lk.length := by rw [← hj]; exact kid_lt (by rw [HLK.out]; omega)
          subst hje
          have HJN := Lib.hid hjn
          clear hj hjn
          have ml1 := mLess g w1 v Q1.out.cell
          have HMS := Lib.hid (fun (W : World) (f : Frm [] w1 W) => mSwap g W v (Q1.out.keep0 f).cell)
          have HL2 := Lib.hid (LessQ_int (2 * (k : Int) + 1) k v lk sp (2 * k + 1) k w1 Q1.out.own HJN.out (by rw [HLK.out]; omega) (by omega) rfl)
          obtain ⟨b2, hb2⟩ : ∃ b2, ltE (en lk (2 * k + 1)) (en lk k) = b2 := ⟨_, rfl⟩
          rw [hb2] at HL2
          have HB2 := Lib.hid hb2
          clear hb2
          cases b2 with
          | false =>
            go_wp2_with fail
            refine HL2.out.mono ?_
            rintro r w2 ⟨rfl, f2⟩
            go_wp2_with fail
            go_ret
            have e := HD.out
            rw [downL_stop (.inr (by rw [HJ.out]; exact HB2.out))] at e
            rw [← e]
            exact ⟨by simp, Q1.out.keep0 f2, F1.out.trans f2 (by simp)⟩
          | true =>
            go_wp2_with fail
            refine HL2.out.mono ?_
            rintro r w2 ⟨rfl, f2⟩
            have ms2 := HMS.out w2 f2
            have HS := Lib.hid (SwapQ_int k (2 * (k : Int) + 1) v lk sp k (2 * k + 1) w2 (Q1.out.keep0 f2).own (by rw [HLK.out]; omega) HJN.out rfl (by omega))
            have Q2 := Lib.hid (Q1.out.keep0 f2)
            have F2 := Lib.hid (F1.out.trans f2 (by simp))
            clear f2
            go_wp2_with fail
            refine HS.out.mono ?_
            rintro r w3 ⟨rfl, o3, f3⟩
            go_wp2_with fail
            go_roundw
            case rel =>
              refine ⟨2 * k + 1, swp lk k (2 * k + 1), congrArg (Value.int .i64) (by omega), Q2.out.swap o3 f3, ?_, by rw [swp_len]; exact HLK.out.trans HN.out, by have := HJN.out; rw [HLK.out, HN.out] at this; omega, F2.out.trans f3 (fun i hi => .inl hi)⟩
              have e := HD.out
              rw [downL_step (by rw [HLK.out]; omega) (by rw [HJ.out]; exact HB2.out), HJ.out] at e
              exact e
            case measure => simp [intOf]; omega
      · have h2' : (n : Int) ≤ 2 * (k : Int) + 1 + 1 := by omega
        obtain ⟨j, hj⟩ : ∃ j, kid lk k = j := ⟨_, rfl⟩
        have HJ := Lib.hid hj
        have hje : (2 * k + 1) = j := by rw [← hj]; unfold kid; rw [if_neg (fun h => by rw [HLK.out] at h; omega)]
        have hjn : j < lk.length := by rw [← hj]; exact kid_lt (by rw [HLK.out]; omega)
        subst hje
        have HJN := Lib.hid hjn
        clear hj hjn
        have HMS := Lib.hid (fun (W : World) (f : Frm [] wr W) => mSwap g W v (Q.out.keep0 f).cell)
        have HL2 := Lib.hid (LessQ_int (2 * (k : Int) + 1) k v lk sp (2 * k + 1) k wr Q.out.own HJN.out (by rw [HLK.out]; omega) (by omega) rfl)
        obtain ⟨b2, hb2⟩ : ∃ b2, ltE (en lk (2 * k + 1)) (en lk k) = b2 := ⟨_, rfl⟩
        rw [hb2] at HL2
        have HB2 := Lib.hid hb2
        clear hb2
        cases b2 with
        | false =>
          go_wp2_with fail
          refine HL2.out.mono ?_
          rintro r w2 ⟨rfl, f2⟩
          go_wp2_with fail
          go_ret
          have e := HD.out
          rw [downL_stop (.inr (by rw [HJ.out]; exact HB2.out))] at e
          rw [← e]
          exact ⟨by simp, Q.out.keep0 f2, F.out.trans f2 (by simp)⟩
        | true =>
          go_wp2_with fail
          refine HL2.out.mono ?_
          rintro r w2 ⟨rfl, f2⟩
          have ms2 := HMS.out w2 f2
          have HS := Lib.hid (SwapQ_int k (2 * (k : Int) + 1) v lk sp k (2 * k + 1) w2 (Q.out.keep0 f2).own (by rw [HLK.out]; omega) HJN.out rfl (by omega))
          have Q2 := Lib.hid (Q.out.keep0 f2)
          have F2 := Lib.hid (F.out.trans f2 (by simp))
          clear f2
          go_wp2_with fail
          refine HS.out.mono ?_
          rintro r w3 ⟨rfl, o3, f3⟩
          go_wp2_with fail
          go_roundw
          case rel =>
            refine ⟨2 * k + 1, swp lk k (2 * k + 1), congrArg (Value.int .i64) (by omega), Q2.out.swap o3 f3, ?_, by rw [swp_len]; exact HLK.out.trans HN.out, by have := HJN.out; rw [HLK.out, HN.out] at this; omega, F2.out.trans f3 (fun i hi => .inl hi)⟩
            have e := HD.out
            rw [downL_step (by rw [HLK.out]; omega) (by rw [HJ.out]; exact HB2.out), HJ.out] at e
            exact e
          case measure => simp [intOf]; omega
    · have h1' : (n : Int) ≤ 2 * (k : Int) + 1 := by omega
      go_wp2_with fail
      go_ret
      have e := HD.out
      rw [downL_stop (.inl (by rw [HLK.out]; omega))] at e
      rw [← e]
      exact ⟨by simp, Q.out, F.out⟩
end Go.Proofs.YtjdejhgfkjeeiaaGreatDoor

namespace Go.Proofs.YtjdejhgfkjeeiaaGreatDoor
open Go.RowKit
set_option linter.unusedVariables false
set_option linter.unusedSimpArgs false
set_option maxRecDepth 100000

def UpRel (g : Nat) (v : Value) (l : List En) (sp : List Value) (j : Nat) (w : World) (cv : Value) (wr : World) : Prop :=
  ∃ (k : Nat) (lk : List En), cv = .int .i64 k ∧ Qu wr g v lk sp ∧ upL lk k = upL l j ∧ lk.length = l.length ∧ (k = 0 ∨ k < l.length) ∧ Frm (blk v) w wr
set_option maxHeartbeats 4000000 in
theorem up_any (g : Nat) (v : Value) (l : List En) (sp : List Value) (j : Nat) (w : World) (h : Qu w g v l sp) (hj : j = 0 ∨ j < l.length) (hl : l.length ≤ 1000000) :
    Calls Tryz.prog 164 #[.iface 114 (.pointer (some ⟨g, 0, none⟩)), .int .i64 j] w fun e w' => e = .returned (.tuple #[]) ∧ Mv g v (upL l j) sp w w' := by
  have H := Lib.hid h
  have HJ := Lib.hid hj
  have HL := Lib.hid hl
  clear h hj hl
  go_enter Tryz.func164, Tryz.ntmps164
  go_wp2_with fail
  go_loopw [1] (UpRel g v l sp j w) (fun cv _ => (intOf cv).toNat)
  case atStart => exact ⟨j, l, rfl, H.out, rfl, rfl, HJ.out, Frm.refl _ _⟩
  case round =>
    obtain ⟨k, lk, rfl, q, hd, hlk, hkl, f⟩ := hrel
    have Q := Lib.hid q
    have F := Lib.hid f
    have HD := Lib.hid hd
    have HLK := Lib.hid hlk
    have HKL := Lib.hid hkl
    have ml := mLess g wr v q.cell
    have HMS := Lib.hid (fun (W : World) (f : Frm [] wr W) => mSwap g W v (Q.out.keep0 f).cell)
    clear q f hd hlk hkl H HJ
    by_cases h0 : k = 0
    · subst h0
      go_wp2_with fail
      go_end0
      have e := HD.out
      rw [upL_stop (.inl rfl)] at e
      exact ⟨rfl, by rw [← e]; exact Q.out, F.out⟩
    · have hk9 : (k : Int) ≤ 1000000 := by have := HKL.out; have := HL.out; omega
      have hk1 : (1 : Int) ≤ (k : Int) := by omega
      obtain ⟨p, hp⟩ : ∃ p, par k = p := ⟨_, rfl⟩
      have hpk : p < k := by rw [← hp]; exact par_lt (by omega)
      have hq : ((k : Int) - 1).tdiv 2 = (p : Int) := by
        rw [Int.tdiv_eq_ediv_of_nonneg (by omega)]
        unfold par at hp
        omega
      have hne : ¬ (p : Int) = (k : Int) := by omega
      have hwq : IntKind.i64.wrap (p : Int) = (p : Int) := IntWalk.i64_in _ (by omega)
      have HP := Lib.hid (And.intro hp hpk)
      have hkn : k < lk.length := by have := HKL.out; rw [HLK.out]; omega
      have HL2 := Lib.hid (LessQ_any v lk sp k p wr Q.out.own hkn (by omega))
      obtain ⟨b2, hb2⟩ : ∃ b2, ltE (en lk k) (en lk p) = b2 := ⟨_, rfl⟩
      rw [hb2] at HL2
      have HB2 := Lib.hid hb2
      have HKN := Lib.hid hkn
      clear hb2 hp hkn
      cases b2 with
      | false =>
        go_wp2_with fail
        refine HL2.out.mono ?_
        rintro r w2 ⟨rfl, f2⟩
        go_wp2_with fail
        go_end0
        have e := HD.out
        rw [upL_stop (.inr (by rw [HP.out.1]; exact HB2.out))] at e
        exact ⟨rfl, by rw [← e]; exact Q.out.keep0 f2, F.out.trans f2 (by simp)⟩
      | true =>
        go_wp2_with fail
        refine HL2.out.mono ?_
        rintro r w2 ⟨rfl, f2⟩
        have ms2 := HMS.out w2 f2
        have HS := Lib.hid (SwapQ_any v lk sp p k w2 (Q.out.keep0 f2).own (by have := HKN.out; have := HP.out.2; omega) HKN.out)
        have Q2 := Lib.hid (Q.out.keep0 f2)
        have F2 := Lib.hid (F.out.trans f2 (by simp))
        clear f2
        go_wp2_with fail
        refine HS.out.mono ?_
        rintro r w3 ⟨rfl, o3, f3⟩
        go_wp2_with fail
        go_roundw
        case rel =>
          refine ⟨p, swp lk p k, rfl, Q2.out.swap o3 f3, ?_, by rw [swp_len]; exact HLK.out, .inr (by have := HKN.out; rw [HLK.out] at this; have := HP.out.2; omega), F2.out.trans f3 (fun i hi => .inl hi)⟩
          have e := HD.out
          rw [upL_step (by have := HP.out; omega) (by rw [HP.out.1]; exact HB2.out), HP.out.1] at e
          exact e
        case measure => simp [intOf]; have := HP.out.2; omega
end Go.Proofs.YtjdejhgfkjeeiaaGreatDoor

namespace Go.Proofs.YtjdejhgfkjeeiaaGreatDoor
open Go.RowKit
set_option linter.unusedVariables false
set_option linter.unusedSimpArgs false
set_option maxRecDepth 100000

open Kr (OwnE SlE Enco RowTys)
theorem Mv.trans {g : Nat} {v : Value} {l1 l2 : List En} {sp : List Value} {w w1 w2 : World} (h1 : Mv g v l1 sp w w1) (h2 : Mv g v l2 sp w1 w2) : Mv g v l2 sp w w2 := ⟨h2.1, h1.2.trans h2.2 (fun i hi => .inl hi)⟩
theorem downL_last (l : List En) (x : En) : downL (l ++ [x]) l.length = (l ++ [x], l.length) := downL_stop (.inl (by simp; omega))
set_option maxHeartbeats 1000000 in
/-- Fix at the last place: what was put behind goes up. -/
theorem FixLast_any (g : Nat) (v : Value) (l : List En) (x : En) (sp : List Value) (w : World) (h : Qu w g v (l ++ [x]) sp) (hl : l.length + 1 ≤ 1000000) :
    Calls Tryz.prog 127 #[.iface 114 (.pointer (some ⟨g, 0, none⟩)), .int .i64 l.length] w fun e w' => e = .returned (.tuple #[]) ∧ Mv g v (putQ l x) sp w w' := by
  obtain ⟨a, cap, rfl⟩ := h.form
  have hlen : (l ++ [x]).length = l.length + 1 := by simp
  have HD := Lib.hid (down_any g _ (l ++ [x]) sp l.length w h (by rw [hlen]; omega) (by rw [hlen]; omega))
  rw [downL_last] at HD
  rw [hlen] at HD
  have HU := Lib.hid (fun W (q : Qu W g (.slice a (l ++ [x]).length cap) (l ++ [x]) sp) => up_any g _ (l ++ [x]) sp l.length W q (.inr (by rw [hlen]; omega)) (by rw [hlen]; omega))
  have ml := mLen g w _ h.cell
  rw [hlen] at ml HU h ⊢
  clear h hlen
  go_enter Tryz.func127, Tryz.ntmps127
  go_wp2_with fail
  refine (Len_any _ _ _ _).mono ?_
  rintro r w1 ⟨rfl, rfl⟩
  go_wp2_with fail
  refine HD.out.mono ?_
  rintro r w2 ⟨rfl, m2⟩
  have M2 := Lib.hid m2
  clear m2
  go_wp2_with fail
  refine (HU.out w2 M2.out.1).mono ?_
  rintro r w3 ⟨rfl, m3⟩
  go_wp2_with fail
  go_end0
  exact ⟨rfl, M2.out.trans m3⟩
set_option maxHeartbeats 1000000 in
/-- Fix at the first place. -/
theorem FixFirst_any (g : Nat) (v : Value) (l : List En) (sp : List Value) (w : World) (h : Qu w g v l sp) (hl : l.length ≤ 1000000) :
    Calls Tryz.prog 127 #[.iface 114 (.pointer (some ⟨g, 0, none⟩)), .int .i64 0] w fun e w' => e = .returned (.tuple #[]) ∧ Mv g v (downL l 0).1 sp w w' := by
  obtain ⟨a, cap, rfl⟩ := h.form
  have HD := Lib.hid (down_any g _ l sp 0 w h (by omega) hl)
  have hlen : (downL l 0).1.length = l.length := by
    have : ∀ (m : Nat) (l : List En) (k : Nat), l.length - k ≤ m → (downL l k).1.length = l.length := by
      intro m
      induction m with
      | zero => intro l k hm; rw [downL_stop (.inl (by omega))]
      | succ m ih =>
        intro l k hm
        by_cases hs : l.length ≤ 2 * k + 1 ∨ ltE (en l (kid l k)) (en l k) = false
        · rw [downL_stop hs]
        · have h1 : 2 * k + 1 < l.length := by
            rcases Nat.lt_or_ge (2 * k + 1) l.length with h | h
            · exact h
            · exact absurd (.inl h) hs
          have h2 : ltE (en l (kid l k)) (en l k) = true := by
            cases hb : ltE (en l (kid l k)) (en l k) with
            | true => rfl
            | false => exact absurd (.inr hb) hs
          rw [downL_step h1 h2, ih _ _ (by rw [swp_len]; have := kid_gt l k; have := kid_lt h1; omega), swp_len]
    exact this _ l 0 (Nat.le_refl _)
  have HU := Lib.hid (fun W (q : Qu W g (.slice a l.length cap) (downL l 0).1 sp) => up_any g _ (downL l 0).1 sp 0 W q (.inl rfl) (by rw [hlen]; exact hl))
  rw [upL_stop (.inl rfl)] at HU
  have ml := mLen g w _ h.cell
  obtain ⟨b, hb⟩ : ∃ b, decide (0 < (downL l 0).2) = b := ⟨_, rfl⟩
  rw [hb] at HD
  clear h hlen hb
  go_enter Tryz.func127, Tryz.ntmps127
  go_wp2_with fail
  refine (Len_any _ _ _ _).mono ?_
  rintro r w1 ⟨rfl, rfl⟩
  go_wp2_with fail
  refine HD.out.mono ?_
  rintro r w2 ⟨rfl, m2⟩
  have M2 := Lib.hid m2
  clear m2
  cases b with
  | true =>
    go_wp2_with fail
    go_end0
    exact ⟨rfl, M2.out⟩
  | false =>
    go_wp2_with fail
    refine (HU.out w2 M2.out.1).mono ?_
    rintro r w3 ⟨rfl, m3⟩
    go_wp2_with fail
    go_end0
    exact ⟨rfl, M2.out.trans m3⟩
end Go.Proofs.YtjdejhgfkjeeiaaGreatDoor

namespace Go.Proofs.YtjdejhgfkjeeiaaGreatDoor
open Go.RowKit
set_option linter.unusedVariables false
set_option linter.unusedSimpArgs false
set_option maxRecDepth 100000

open Kr (OwnE SlE Enco RowTys)
open Kr (step_append_e)
/-- A queue, changed. -/
def QTo (g : Nat) (v : Value) (l' : List En) (w w' : World) : Prop := ∃ v' sp', Qu w' g v' l' sp' ∧ Frm (g :: blk v) w w' ∧ ∀ i ∈ blk v', i ∈ blk v ∨ w.heap.size ≤ i
theorem Mv.to {g : Nat} {v : Value} {l : List En} {sp : List Value} {w w' : World} (h : Mv g v l sp w w') : QTo g v l w w' := ⟨v, sp, h.1, Frm.mono h.2 (by intro i hi; simp [hi]), fun i hi => .inl hi⟩
theorem heap_at {w : World} {o : Obj} {n : Nat} (hn : n = w.heap.size) : (w.alloc o).heap[n]? = some o := by subst hn; exact heap_alloc_new _ _
theorem oneEn (W : World) (x : En) : SlE eEn 2 ((W.alloc (.cells #[.int .i64 x.1, .string (sB x.2)] 118)).drew) (.slice (some ⟨W.heap.size, 0, none⟩) 1 1) [x] [] :=
  Kr.SlE.of_block EEn (T := 118) (show (W.alloc (.cells #[.int .i64 x.1, .string (sB x.2)] 118)).heap[W.heap.size]? = _ from heap_at rfl) rfl (by omega)
theorem assert118 (v : Value) (W : World) : (Instr.typeAssert (.iface 118 v) 20 118 false).run Tryz.prog W = .ok v W := by kernel_rfl
set_option maxHeartbeats 4000000 in
theorem PushQ_any (g : Nat) (v : Value) (l : List En) (x : En) (sp : List Value) (w : World) (h : Qu w g v l sp) (hl : l.length ≤ 1000000) :
    Calls Tryz.prog 162 #[.pointer (some ⟨g, 0, none⟩), .iface 118 (vEn x)] w fun e w' => e = .returned (.tuple #[]) ∧ QTo g v (l ++ [x]) w w' := by
  have c0 := h.cell
  have glt := h.lt
  have H := Lib.hid h
  have HL := Lib.hid (show l.length + [x].length ≤ 1000000000 by simp; omega)
  have ha := assert118 (.agg #[.int .i64 x.1, .string (sB x.2)])
  have hmix : Tryz.prog.follows .mixedOrders = true := by kernel_rfl
  clear h hl
  unfold vEn
  have O1 := Lib.hid (H.out.own.keep0 (((Frm.refl [] w).alloc (.cells #[.int .i64 x.1, .string (sB x.2)] 118)).drew))
  have S1 := Lib.hid (oneEn w x)
  have HB := Lib.hid ((((Frm.refl [] w).alloc (.cells #[.int .i64 x.1, .string (sB x.2)] 118)).drew).heap H.out.box (by simp))
  go_enter Tryz.func162, Tryz.ntmps162
  go_region_law ((refine step_append_e EEn tysEn O1.out S1.out HL.out (by omega) (by rfl) (.tmp 7) (.tmp 10) (by rfl) (by rfl) (by rfl) ?_; intro a4 cap4 w4 sp4 o4 f4 n4; have hb4 := f4.heap HB.out (fun hm => H.out.ne _ hm rfl); have c4 : w4.cell? ⟨g, 0, none⟩ = some v := cell_of_heap hb4 0; have z4 := frozen_of_heap hb4 0))
  all_goals
    go_end0
    have hnb : ∀ i ∈ blk (.slice a4 (l.length + 1) cap4), i ≠ g := fun i hi => by
      rcases n4 i hi with h | h
      · exact H.out.ne i h
      · simp at h; omega
    refine ⟨rfl, .slice a4 (l.length + 1) cap4, sp4, ⟨?_, o4.keep ((Frm.refl [g] w4).setCell _ _ (.inl (by simp))) (fun i hi => by simpa using hnb i hi), hnb⟩, ?_, fun i hi => ?_⟩
    · rw [heap_setCell_same _ hb4]; rfl
    · exact (((Frm.refl (g :: blk v) w).alloc (.cells #[.int .i64 x.1, .string (sB x.2)] 118)).drew).trans (L' := g :: blk v) ((f4.mono (L' := g :: blk v) (by intro i hi; simp [hi])).setCell ⟨g, 0, none⟩ _ (.inl (by simp))) (fun i hi => .inl hi)
    · rcases n4 i hi with h | h
      · exact .inl h
      · simp at h; exact .inr (by omega)
theorem last_cell (l : List En) (x : En) : en (l ++ [x]) l.length = x := by rw [en_eq (by simp)]; simp
set_option maxHeartbeats 4000000 in
theorem PopQ_any (g : Nat) (v : Value) (l : List En) (x : En) (sp : List Value) (w : World) (h : Qu w g v (l ++ [x]) sp) (hl : l.length ≤ 1000000) :
    Calls Tryz.prog 126 #[.pointer (some ⟨g, 0, none⟩)] w fun e w' => e = .returned (.iface 118 (vEn x)) ∧ QTo g v l w w' := by
  obtain ⟨b, cap, rfl, hcap⟩ := OwnQ.at h.own (by simp)
  obtain ⟨d0, d1, _, _⟩ := OwnQ.cells h.own l.length (by simp)
  rw [last_cell] at d0 d1
  have c0 := h.cell
  have z0 := h.frozen
  have H := Lib.hid h
  have hbg : b ≠ g := h.ne b (by simp [blk])
  have hgb : ¬ g = b := fun e => hbg e.symm
  have hle : (l ++ [x]).length = l.length + 1 := by simp
  have HLE := Lib.hid hle
  have hfin := OwnE.heap h.own
  have hcaps := OwnE.caps EEn h.own
  have HFIN := Lib.hid hfin
  have HCAPS := Lib.hid hcaps
  obtain ⟨m, hm⟩ : ∃ m, m = (l ++ [x]).length := ⟨_, rfl⟩
  rw [← hm] at c0 hcap ⊢
  have hw : IntKind.i64.wrap ((m : Int) - 1) = (l.length : Int) := by rw [IntWalk.i64_in _ (by omega)]; omega
  have hm1 : (l.length : Int) < (m : Int) := by omega
  have hm2 : (l.length : Int) ≤ (cap : Int) := by omega
  have HM := Lib.hid hm
  clear h hle hfin hcaps hm hl
  unfold vEn
  obtain ⟨x1, x2⟩ := x
  simp only at d0 d1 ⊢
  go_enter Tryz.func126, Tryz.ntmps126
  go_wp2_with fail
  refine (Len_any _ _ _ _).mono ?_
  rintro r w1 ⟨rfl, rfl⟩
  go_upto_region 3 with (fail)
  have f1 : Frm [] w1 (w1.alloc (.cells #[.int .i64 x1, .string (sB x2)] 118)) := (Frm.refl [] w1).alloc _
  have hnew := heap_alloc_new w1 (.cells #[.int .i64 x1, .string (sB x2)] 118)
  have hlt := H.out.lt
  have Q2 := Lib.hid (H.out.keep0 f1)
  have c2 := (H.out.keep0 f1).cell
  rw [← HM.out] at c2
  have z2 := (H.out.keep0 f1).frozen
  have F1 := Lib.hid f1
  have hng : ¬ w1.heap.size = g := by omega
  have hgn : ¬ g = w1.heap.size := by omega
  clear f1 c0 z0 d0 d1 hlt
  generalize w1.alloc (.cells #[.int .i64 x1, .string (sB x2)] 118) = W2 at *
  have e0 : W2.cell? ⟨w1.heap.size, 0, none⟩ = some (.int .i64 x1) := by rw [cell_of_heap hnew]; rfl
  have e1 : W2.cell? ⟨w1.heap.size, 1, none⟩ = some (.string (sB x2)) := by rw [cell_of_heap hnew]; rfl
  clear hnew
  generalize w1.heap.size = n1 at *
  go_wp2_with fail
  go_ret
  have hq := Q2.out
  have hcp := HCAPS.out
  refine ⟨rfl, .slice (some ⟨b, 0, none⟩) l.length cap, eEn (x1, x2) ++ sp, ⟨?_, ?_, fun i hi => by simp [blk] at hi; subst hi; exact hbg⟩, ?_, fun i hi => .inl hi⟩
  · rw [heap_setCell_same _ hq.box]; rfl
  · refine OwnE.of_heap EEn ?_ rfl (by omega) ?_ hcp.2.2.2
    · rw [heap_setCell_ne _ hbg, OwnE.heap hq.own, Kr.flt_append, Kr.flt_one, List.append_assoc]
    · have := hcp.2.2.1
      rw [HLE.out] at this
      simp [eEn]
      omega
  · exact (F1.out.mono (by simp)).setCell ⟨g, 0, none⟩ _ (.inl (by simp))
end Go.Proofs.YtjdejhgfkjeeiaaGreatDoor

namespace Go.Proofs.YtjdejhgfkjeeiaaGreatDoor
open Go.RowKit
set_option linter.unusedVariables false
set_option linter.unusedSimpArgs false
set_option maxRecDepth 100000

open Kr (OwnE SlE Enco RowTys)
theorem Qu.to {g : Nat} {v v1 : Value} {l2 : List En} {w w1 w2 : World} (f : Frm (g :: blk v) w w1) (hb : ∀ i ∈ blk v1, i ∈ blk v ∨ w.heap.size ≤ i) (h2 : QTo g v1 l2 w1 w2) : QTo g v l2 w w2 := by
  obtain ⟨v2, sp2, q2, f2, n2⟩ := h2
  refine ⟨v2, sp2, q2, f.trans f2 (fun i hi => ?_), fun i hi => ?_⟩
  · rcases List.mem_cons.1 hi with rfl | hi
    · exact .inl (by simp)
    · rcases hb i hi with h | h
      · exact .inl (by simp [h])
      · exact .inr h
  · rcases n2 i hi with h | h
    · exact hb i h
    · exact .inr (Nat.le_trans f.size h)
set_option maxHeartbeats 2000000 in
theorem putQ_any (g : Nat) (v : Value) (l : List En) (x : En) (sp : List Value) (w : World) (h : Qu w g v l sp) (hl : l.length + 1 ≤ 1000000) :
    Calls Tryz.prog 124 #[.pointer (some ⟨g, 0, none⟩), vEn x] w fun e w' => e = .returned (.tuple #[]) ∧ QTo g v (putQ l x) w w' := by
  have f0 : Frm [] w (w.alloc (.cells #[.int .i64 x.1, .string (sB x.2)] 118)) := (Frm.refl [] w).alloc _
  have hb := heap_alloc_new w (.cells #[.int .i64 x.1, .string (sB x.2)] 118)
  have H := Lib.hid (h.keep0 f0)
  have F0 := Lib.hid f0
  have HL := Lib.hid hl
  have HFX := Lib.hid (fun (v1 : Value) (sp1 : List Value) (W : World) (q : Qu W g v1 (l ++ [x]) sp1) => FixLast_any g v1 l x sp1 W q hl)
  have hw : IntKind.i64.wrap (((l.length + 1 : Nat) : Int) - 1) = (l.length : Int) := by rw [IntWalk.i64_in _ (by omega)]; omega
  have HW := Lib.hid hw
  clear h f0 hl hw
  unfold vEn
  go_enter Tryz.func124, Tryz.ntmps124
  go_upto_region 1 with (fail)
  have b0 : (w.alloc (.cells #[.int .i64 x.1, .string (sB x.2)] 118)).cell? ⟨w.heap.size, 0, none⟩ = some (.int .i64 x.1) := by rw [cell_of_heap hb]; rfl
  have b1 : (w.alloc (.cells #[.int .i64 x.1, .string (sB x.2)] 118)).cell? ⟨w.heap.size, 1, none⟩ = some (.string (sB x.2)) := by rw [cell_of_heap hb]; rfl
  clear hb
  generalize w.alloc (.cells #[.int .i64 x.1, .string (sB x.2)] 118) = W at *
  generalize w.heap.size = n0 at *
  go_wp2_with fail
  refine (PushQ_any g v l x sp W H.out (by have := HL.out; omega)).mono ?_
  rintro r w1 ⟨rfl, v1, sp1, q1, f1, n1⟩
  obtain ⟨a1, cap1, rfl⟩ := q1.form
  have c1 := q1.cell
  have Q1 := Lib.hid q1
  have F1 := Lib.hid f1
  have N1 := Lib.hid n1
  have hle : (l ++ [x]).length = l.length + 1 := by simp
  have hw := HW.out
  have HF := Lib.hid (HFX.out _ _ w1 q1)
  rw [hle] at c1 HF
  clear q1 f1 n1 b0 b1 hle
  generalize hm : l.length + 1 = m at *
  go_wp2_with fail
  refine (Len_any _ _ _ _).mono ?_
  rintro r w2 ⟨rfl, rfl⟩
  go_wp2_with fail
  refine HF.out.mono ?_
  rintro r w3 ⟨rfl, m3⟩
  go_wp2_with fail
  go_end0
  rw [show m = (l ++ [x]).length by simp [← hm]] at m3
  exact ⟨rfl, Qu.to (F0.out.mono (by simp)) (fun i hi => .inl hi) (Qu.to F1.out N1.out m3.to)⟩
set_option maxHeartbeats 4000000 in
theorem takeQ_any (g : Nat) (v : Value) (l : List En) (sp : List Value) (w : World) (h : Qu w g v l sp) (h0 : 0 < l.length) (hl : l.length ≤ 1000000) :
    Calls Tryz.prog 87 #[.pointer (some ⟨g, 0, none⟩)] w fun e w' => e = .returned (vEn (en l 0)) ∧ QTo g v (takeQ l) w w' := by
  have hb := heap_alloc_new w (.cells #[.int .i64 0, .string (sB [])] 118)
  have f0 : Frm [] w (w.alloc (.cells #[.int .i64 0, .string (sB [])] 118)) := (Frm.refl [] w).alloc _
  have H := Lib.hid (h.keep0 f0)
  have F0 := Lib.hid f0
  have hgl := h.lt
  have hne : ¬ w.heap.size = g := by omega
  have hvl : ∀ i ∈ blk v, ¬ w.heap.size = i := fun i hi => by have := h.own.lt i hi; omega
  have HV := Lib.hid hvl
  have HNE := Lib.hid hne
  have HL := Lib.hid (And.intro h0 hl)
  obtain ⟨a, cap, rfl⟩ := h.form
  have c0 := (h.keep0 f0).cell
  have HSW := Lib.hid (fun (W : World) (q : Qu W g (.slice a l.length cap) l sp) => SwapQ_any (.slice a l.length cap) l sp 0 (l.length - 1) W q.own h0 (by omega))
  have hw : IntKind.i64.wrap ((l.length : Int) - 1) = ((l.length - 1 : Nat) : Int) := by rw [IntWalk.i64_in _ (by omega)]; omega
  have HCUT := Lib.hid (swp_cut h0)
  have hcl := cutQ_len l
  have HCL := Lib.hid hcl
  have HT : takeQ l = (downL (cutQ l) 0).1 := rfl
  have HTT := Lib.hid HT
  clear h f0 hgl hne hvl h0 hl hcl HT
  generalize hln : l.length - 1 = n1 at *
  go_enter Tryz.func87, Tryz.ntmps87
  go_upto_region 1 with (fail)
  rw [show ({ data := #[] } : ByteArray) = sB [] from rfl]
  generalize w.alloc (.cells #[.int .i64 0, .string (sB [])] 118) = W at *
  generalize hn0w : w.heap.size = n0 at *
  have HN0W := Lib.hid hn0w
  clear hn0w
  refine wp_region_still_tail 8 (by kernel_rfl) (by kernel_rfl) ?_
  simp only [List.take_succ_cons, List.take_zero, List.drop_succ_cons, List.drop_zero]
  change wpStill _ _ (World.drew _) _ _ _
  iterate 6 still_step
  still_call (Len_any _ _ _ _)
  repeat still_step
  refine wpStill_nil ?_
  change wpList _ _ _ _ _ (World.drew _)
  have hq := H.out.keep0 ((Frm.refl [] W).drew)
  have HS := Lib.hid (HSW.out _ hq)
  have HQ := Lib.hid hq
  have hn0 : W.heap[n0]? = some (.cells #[.int .i64 0, .string (sB [])] 118 (0, 0)) := hb
  have HN0 := Lib.hid hn0
  clear hq c0 hb hn0 hw
  go_wp2_with fail
  refine HS.out.mono ?_
  rintro r w2 ⟨rfl, o2, f2⟩
  have q2 := HQ.out.swap o2 f2
  rw [HCUT.out] at q2
  have Q2 := Lib.hid q2
  have F2 := Lib.hid (((Frm.refl [] W).drew).mono (L' := g :: blk (.slice a l.length cap)) (by simp) |>.trans (L' := blk (.slice a l.length cap)) f2 (fun i hi => .inl (by simp [hi])))
  clear q2 o2 f2
  have ha := assert118 (vEn (en l 0))
  have HP := Lib.hid (PopQ_any g _ (cutQ l) (en l 0) sp w2 Q2.out (by rw [HCL.out]; have := HL.out; omega))
  go_wp2_with fail
  refine HP.out.mono ?_
  rintro r w3 ⟨rfl, v3, sp3, q3, f3, n3⟩
  have Q3 := Lib.hid q3
  have F3 := Lib.hid (F2.out.trans f3 (fun i hi => .inl hi))
  have N3 := Lib.hid n3
  clear q3 f3 n3
  unfold vEn at ha ⊢
  obtain ⟨x, hx⟩ : ∃ x, en l 0 = x := ⟨_, rfl⟩
  rw [hx] at ha ⊢
  have HX := Lib.hid hx
  clear hx
  have hn3 := F3.out.heap HN0.out (fun hm => by
    rcases List.mem_cons.1 hm with e | hm
    · exact HNE.out e
    · exact HV.out _ hm rfl)
  have f4 : Frm [] w3 (w3.alloc (.cells #[.int .i64 x.1, .string (sB x.2)] 118)) := (Frm.refl [] w3).alloc _
  have Q4 := Lib.hid (Q3.out.keep0 f4)
  have h4 := f4.heap hn3 (by simp)
  have H4 := Lib.hid h4
  have F4 := Lib.hid f4
  have b4 := heap_alloc_new w3 (.cells #[.int .i64 x.1, .string (sB x.2)] 118)
  have hc0 : w3.cell? ⟨n0, 0, none⟩ = some (.int .i64 0) := by rw [cell_of_heap hn3]; rfl
  have hlt := World.block_lt_of_cell? _ _ hc0
  clear hc0
  have hlt2 := Q3.out.lt
  clear f4 h4 hn3
  go_upto_region 3 with (fail)
  have hv3 : ∀ i ∈ blk v3, ¬ i = n0 ∧ ¬ i = w3.heap.size := fun i hi => by
    have h1 := Q3.out.own.lt i hi
    have h2 := World.block_lt_of_cell? W ⟨n0, 0, none⟩ (by rw [cell_of_heap HN0.out]; rfl)
    have h3 := F2.out.size
    rcases N3.out i hi with h | h
    · have := HV.out i h; exact ⟨fun e => this e.symm, by omega⟩
    · simp at h2; exact ⟨by omega, by omega⟩
  have HV3 := Lib.hid hv3
  have HFX := Lib.hid (FixFirst_any g v3 (cutQ l) sp3 _ Q4.out (by rw [HCL.out]; have := HL.out; omega))
  have B4 := Lib.hid b4
  have HLT := Lib.hid (And.intro hlt hlt2)
  rw [← HTT.out] at HFX
  have hs4 : w3.heap.size ≤ (w3.alloc (.cells #[.int .i64 x.1, .string (sB x.2)] 118)).heap.size := F4.out.size
  clear hv3 b4 hlt hlt2 ha
  generalize w3.alloc (.cells #[.int .i64 x.1, .string (sB x.2)] 118) = W4 at *
  generalize hn5 : w3.heap.size = n5 at *
  have hn05 : ¬ n5 = n0 := by have := HLT.out; omega
  have hn50 : ¬ n0 = n5 := by have := HLT.out; omega
  go_wp2_with fail
  refine HFX.out.mono ?_
  rintro r w5 ⟨rfl, m5⟩
  have k5 := m5.2.heap B4.out (fun hm => (HV3.out _ hm).2 rfl)
  have k0 := m5.2.heap H4.out (fun hm => (HV3.out _ hm).1 rfl)
  have c50 : w5.cell? ⟨n5, 0, none⟩ = some (.int .i64 x.1) := by rw [cell_of_heap k5]; rfl
  have c51 : w5.cell? ⟨n5, 1, none⟩ = some (.string (sB x.2)) := by rw [cell_of_heap k5]; rfl
  have c00 : w5.cell? ⟨n0, 0, none⟩ = some (.int .i64 0) := by rw [cell_of_heap k0]; rfl
  have c01 : w5.cell? ⟨n0, 1, none⟩ = some (.string (sB [])) := by rw [cell_of_heap k0]; rfl
  have z00 := frozen_of_heap k0 0
  have z01 := frozen_of_heap k0 1
  have M5 := Lib.hid m5
  have K0 := Lib.hid k0
  clear m5 k5 k0 hs4
  go_wp2_with fail
  have hfin : ((w5.setCell ⟨n0, 0, none⟩ (.int .i64 x.1)).setCell ⟨n0, 1, none⟩ (.string (sB x.2))).heap[n0]? = some (.cells #[.int .i64 x.1, .string (sB x.2)] 118 (0, 0)) := by
    rw [heap_setCell_same _ (heap_setCell_same _ K0.out)]; rfl
  have ff : Frm [n0] w5 ((w5.setCell ⟨n0, 0, none⟩ (.int .i64 x.1)).setCell ⟨n0, 1, none⟩ (.string (sB x.2))) := ((Frm.refl [n0] w5).setCell ⟨n0, 0, none⟩ _ (.inl (by simp))).setCell ⟨n0, 1, none⟩ _ (.inl (by simp))
  refine bodyPost_ret (v := vEn x) (results_cell_row (p := 2) rfl _ _ n0 118 _ (0, 0) _ rfl hfin Tryz.underlying118 rfl (by kernel_rfl)) rfl ?_
  refine ⟨by rw [HX.out], v3, sp3, ⟨ff.heap M5.out.1.box (by have := HNE.out; simp; omega), M5.out.1.own.keep ff (fun i hi => by have := (HV3.out i hi).1; simpa using this), M5.out.1.ne⟩, ?_, fun i hi => ?_⟩
  · have hz := HN0W.out
    have hz2 := F0.out.size
    have hz3 := F2.out.size
    have g1 : Frm (g :: blk (.slice a l.length cap)) w w3 := (F0.out.mono (by simp)).trans F3.out (fun i hi => .inl hi)
    have g2 : Frm (g :: blk (.slice a l.length cap)) w w5 := (g1.trans F4.out (by simp)).trans M5.out.2 (fun i hi => by
      rcases N3.out i hi with h | h
      · exact .inl (List.mem_cons_of_mem _ h)
      · exact .inr (by omega))
    exact g2.trans ff (fun i hi => by simp at hi; exact .inr (by omega))
  · have hz := HN0W.out
    have hz2 := F0.out.size
    have hz3 := F2.out.size
    rcases N3.out i hi with h | h
    · exact .inl h
    · exact .inr (by omega)
end Go.Proofs.YtjdejhgfkjeeiaaGreatDoor

namespace Go.Proofs.YtjdejhgfkjeeiaaGreatDoor
open Go.RowKit
set_option linter.unusedVariables false
set_option linter.unusedSimpArgs false
set_option maxRecDepth 100000

open Pt (Pt may enc readPt readE zeroPt pc pv PtV SlA OwnA)
open Kr (OwnE SlE Enco RowTys)
/-- A row that is an uberblock. -/
def RowV (w : World) (r : RowT) (u : Ub) : Prop := ∃ a cap sp, r.1 = uc (.slice a u.root.ads.length cap) u ∧ SlA w (.slice a u.root.ads.length cap) u.root.ads sp ∧ WfU u
/-- A slice that is a list of uberblocks. -/
def Us (w : World) (v : Value) (l : List Ub) : Prop := ∃ rs sp, SlE eR 69 w v rs sp ∧ rs.length = l.length ∧ ∀ (i : Nat) r u, rs[i]? = some r → l[i]? = some u → RowV w r u
theorem Us.keep0 {w w' : World} {v : Value} {l : List Ub} (h : Us w v l) (f : Frm [] w w') : Us w' v l := by
  obtain ⟨rs, sp, hs, hl, hr⟩ := h
  refine ⟨rs, sp, hs.keep0 f, hl, fun i r u h1 h2 => ?_⟩
  obtain ⟨a, cap, s, e, hA, hw⟩ := hr i r u h1 h2
  exact ⟨a, cap, s, e, hA.keep f (by simp), hw⟩
theorem Us.form {w : World} {v : Value} {l : List Ub} (h : Us w v l) : ∃ a cap, v = .slice a l.length cap := by
  obtain ⟨rs, sp, hs, hl, hr⟩ := h
  obtain ⟨a, cap, e, _, _⟩ := hs.form
  exact ⟨a, cap, by rw [← hl]; exact e⟩
theorem Us.at {w : World} {v : Value} {l : List Ub} (h : Us w v l) (hp : 0 < l.length) : ∃ b off cap, v = .slice (some ⟨b, off, none⟩) l.length cap := by
  obtain ⟨a, cap, rfl⟩ := h.form
  obtain ⟨rs, sp, hs, hl, hr⟩ := h
  obtain ⟨b, off, rfl⟩ := hs.at (by omega)
  exact ⟨b, off, cap, rfl⟩
theorem Us.wf {w : World} {v : Value} {l : List Ub} (h : Us w v l) : AllU l := fun u hu => by
  obtain ⟨rs, sp, hs, hl, hr⟩ := h
  obtain ⟨i, hi, rfl⟩ := List.getElem_of_mem hu
  obtain ⟨a, cap, s, e, hA, hw⟩ := hr i (rs[i]'(by omega)) l[i] (List.getElem?_eq_getElem _) (List.getElem?_eq_getElem _)
  exact hw
theorem Us.nil (w : World) : Us w (.slice none 0 0) [] := ⟨[], [], SlE.nil _ _ _, rfl, fun i r u h => by simp at h⟩
/-- An element, loaded whole. -/
theorem Us.load {w : World} {b off n cap : Nat} {l : List Ub} (h : Us w (.slice (some ⟨b, off, none⟩) n cap) l) (i : Nat) (hi : i < l.length) :
    ∃ a c, (Instr.loadAt 28 (.pointer (some ⟨b, off + i * 69, none⟩))).run Tryz.prog w = .ok (uv (.slice a (l[i]).root.ads.length c) l[i]) w ∧ UbV w (uv (.slice a (l[i]).root.ads.length c) l[i]) l[i] ∧
      w.cell? ⟨b, off + i * 69, none⟩ = some (.int .i64 (l[i]).txg) ∧ w.cell? ⟨b, off + i * 69 + 1, none⟩ = some (.slice a (l[i]).root.ads.length c) := by
  obtain ⟨rs, sp, hs, hl, hr⟩ := h
  have hi2 : i < rs.length := by omega
  obtain ⟨a, c, s, e, hA, hw⟩ := hr i rs[i] l[i] (List.getElem?_eq_getElem _) (List.getElem?_eq_getElem _)
  have hc : ∀ j u, (uc (.slice a (l[i]).root.ads.length c) l[i])[j]? = some u → w.cell? ⟨b, off + i * 69 + j, none⟩ = some u := fun j u hu => by
    have := SlE.cell encR hs i hi2 j (u := u) (by rw [show eR rs[i] = (rs[i]).1 from rfl, e]; exact hu)
    rw [Nat.add_assoc]; exact this
  refine ⟨a, c, ?_, ⟨a, c, s, rfl, hA, hw⟩, hc 0 _ rfl, hc 1 _ rfl⟩
  obtain ⟨d, h1, h2⟩ := Option.map_eq_some_iff.1 d28
  exact run_loadAt_mid w b (off + i * 69) 28 _ d (fun j u hu => hc j u hu) h1 h2 (by rw [i28, uc_length hw])
/-- The blocks of a row's addresses. -/
def rb (r : RowT) : List Nat := match r.1[1]? with
  | some v => blk v
  | none => []
theorem rb_uc {r : RowT} {v : Value} {u : Ub} (h : r.1 = uc v u) : rb r = blk v := by unfold rb; rw [h]; rfl
def RowO (w : World) (r : RowT) (u : Ub) : Prop := ∃ a cap sp, r.1 = uc (.slice a u.root.ads.length cap) u ∧ OwnA 47 w (.slice a u.root.ads.length cap) u.root.ads sp ∧ WfU u
theorem RowO.v {w : World} {r : RowT} {u : Ub} (h : RowO w r u) : RowV w r u := by
  obtain ⟨a, cap, sp, e, hA, hw⟩ := h
  exact ⟨a, cap, sp, e, hA.sl, hw⟩
theorem RowO.lt {w : World} {r : RowT} {u : Ub} (h : RowO w r u) : ∀ i ∈ rb r, i < w.heap.size := by
  obtain ⟨a, cap, sp, e, hA, hw⟩ := h
  rw [rb_uc e]; exact hA.lt
theorem RowO.keep {w w' : World} {r : RowT} {u : Ub} {L : List Nat} (h : RowO w r u) (f : Frm L w w') (hL : ∀ i ∈ rb r, i ∉ L) : RowO w' r u := by
  obtain ⟨a, cap, sp, e, hA, hw⟩ := h
  rw [rb_uc e] at hL
  exact ⟨a, cap, sp, e, hA.keep f hL, hw⟩
/-- A list of uberblocks that a call has told since a world; B: all its blocks. -/
structure Tl (w0 w : World) (v : Value) (l : List Ub) (rs : List RowT) (B : List Nat) : Prop where
  own : ∃ sp, OwnE eR 69 28 w v rs sp
  len : rs.length = l.length
  row : ∀ (i : Nat) r u, rs[i]? = some r → l[i]? = some u → RowO w r u
  sep : ∀ (i j : Nat) r s, i ≠ j → rs[i]? = some r → rs[j]? = some s → ∀ k ∈ rb r, k ∉ rb s
  vsep : ∀ (i : Nat) r, rs[i]? = some r → ∀ k ∈ rb r, k ∉ blk v
  inv : ∀ k ∈ blk v, k ∈ B
  inr : ∀ (i : Nat) r, rs[i]? = some r → ∀ k ∈ rb r, k ∈ B
  lo : ∀ k ∈ B, w0.heap.size ≤ k ∧ k < w.heap.size
theorem Tl.nil (w : World) : Tl w w (.slice none 0 0) [] [] [] := ⟨⟨[], OwnE.nil _ _ _ _⟩, rfl, fun i r u h => by simp at h, fun i j r s _ h => by simp at h, fun i r h => by simp at h, by simp [blk], fun i r h => by simp at h, fun k h => by cases h⟩
theorem Tl.us {w0 w : World} {v : Value} {l : List Ub} {rs : List RowT} {B : List Nat} (h : Tl w0 w v l rs B) : Us w v l := by
  obtain ⟨sp, ho⟩ := h.own
  exact ⟨rs, sp, ho.sl, h.len, fun i r u h1 h2 => (h.row i r u h1 h2).v⟩
theorem Tl.form {w0 w : World} {v : Value} {l : List Ub} {rs : List RowT} {B : List Nat} (h : Tl w0 w v l rs B) : ∃ a cap, v = .slice a l.length cap := h.us.form
theorem Tl.keep {w0 w w' : World} {v : Value} {l : List Ub} {rs : List RowT} {B L : List Nat} (h : Tl w0 w v l rs B) (f : Frm L w w') (hL : ∀ i ∈ L, i ∉ B) : Tl w0 w' v l rs B := by
  obtain ⟨sp, ho⟩ := h.own
  exact ⟨⟨sp, ho.keep f (fun k hk hm => hL k hm (h.inv k hk))⟩, h.len, fun i r u h1 h2 => (h.row i r u h1 h2).keep f (fun k hk hm => hL k hm (h.inr i r h1 k hk)), h.sep, h.vsep, h.inv, h.inr, fun k hk => ⟨(h.lo k hk).1, Nat.lt_of_lt_of_le (h.lo k hk).2 f.size⟩⟩
theorem Tl.keep0 {w0 w w' : World} {v : Value} {l : List Ub} {rs : List RowT} {B : List Nat} (h : Tl w0 w v l rs B) (f : Frm [] w w') : Tl w0 w' v l rs B := h.keep f (fun i hi => by cases hi)
/-- With an older base. -/
theorem Tl.base {w0 w1 w : World} {v : Value} {l : List Ub} {rs : List RowT} {B : List Nat} (h : Tl w1 w v l rs B) (hs : w0.heap.size ≤ w1.heap.size) : Tl w0 w v l rs B :=
  ⟨h.own, h.len, h.row, h.sep, h.vsep, h.inv, h.inr, fun k hk => ⟨Nat.le_trans hs (h.lo k hk).1, (h.lo k hk).2⟩⟩
/-- One more: a row whose addresses are newer than all that was there. -/
theorem Tl.more {w0 w w' : World} {v v' : Value} {l : List Ub} {rs : List RowT} {B : List Nat} {x : RowT} {u : Ub} {sp : List Value} (h : Tl w0 w v l rs B) (f : Frm (blk v) w w') (ho : OwnE eR 69 28 w' v' (rs ++ [x]) sp) (hn : ∀ i ∈ blk v', i ∈ blk v ∨ w.heap.size ≤ i)
    (hx : RowO w x u) (hxn : ∀ k ∈ rb x, k ∉ B) (hx0 : ∀ k ∈ rb x, w0.heap.size ≤ k) (h0 : w0.heap.size ≤ w.heap.size) : Tl w0 w' v' (l ++ [u]) (rs ++ [x]) (rb x ++ blk v' ++ B) := by
  have hrow : ∀ (i : Nat) r, (rs ++ [x])[i]? = some r → (rs[i]? = some r ∧ i < rs.length) ∨ (i = rs.length ∧ r = x) := fun i r hr => by
    rcases Nat.lt_or_ge i rs.length with hi | hi
    · rw [List.getElem?_append_left hi] at hr; exact .inl ⟨hr, hi⟩
    · rw [List.getElem?_append_right hi] at hr
      rcases Nat.eq_or_lt_of_le hi with e | e
      · subst e; simp at hr; exact .inr ⟨rfl, hr.symm⟩
      · rw [List.getElem?_eq_none (by simp; omega)] at hr; cases hr
  have hxv : ∀ k ∈ rb x, k ∉ blk v := fun k hk hm => hxn k hk (h.inv k hm)
  refine ⟨⟨sp, ho⟩, by simp [h.len], fun i r u2 h1 h2 => ?_, fun i j r s hij h1 h2 k hk hm => ?_, fun i r h1 k hk hm => ?_, fun k hk => by simp [hk], fun i r h1 k hk => ?_, fun k hk => ?_⟩
  · rcases hrow i r h1 with ⟨h3, hi⟩ | ⟨rfl, rfl⟩
    · rw [List.getElem?_append_left (by have := h.len; omega)] at h2
      exact (h.row i r u2 h3 h2).keep f (fun k hk => h.vsep i r h3 k hk)
    · rw [h.len] at h2
      simp at h2
      subst h2
      exact hx.keep f hxv
  · rcases hrow i r h1 with ⟨h3, hi⟩ | ⟨rfl, rfl⟩ <;> rcases hrow j s h2 with ⟨h4, hj⟩ | ⟨rfl, rfl⟩
    · exact h.sep i j r s hij h3 h4 k hk hm
    · exact hxn k hm (h.inr i r h3 k hk)
    · exact hxn k hk (h.inr j s h4 k hm)
    · exact hij rfl
  · rcases hrow i r h1 with ⟨h3, hi⟩ | ⟨rfl, rfl⟩
    · rcases hn k hm with q | q
      · exact h.vsep i r h3 k hk q
      · have := (h.lo k (h.inr i r h3 k hk)).2; omega
    · rcases hn k hm with q | q
      · exact hxv k hk q
      · have := hx.lt k hk; omega
  · rcases hrow i r h1 with ⟨h3, hi⟩ | ⟨rfl, rfl⟩
    · simp [h.inr i r h3 k hk]
    · simp [hk]
  · simp only [List.mem_append] at hk
    rcases hk with (hk | hk) | hk
    · exact ⟨hx0 k hk, Nat.lt_of_lt_of_le (hx.lt k hk) f.size⟩
    · have hlt := ho.lt k hk
      rcases hn k hk with q | q
      · exact ⟨(h.lo k (h.inv k q)).1, hlt⟩
      · exact ⟨Nat.le_trans h0 q, hlt⟩
    · exact ⟨(h.lo k hk).1, Nat.lt_of_lt_of_le (h.lo k hk).2 f.size⟩
/-- A text as bytes. -/
theorem conv_str (w : World) (l : List UInt8) (hl : l.length ≤ 1000000) : ∃ w' cap sp, (convert 9 32 (.string (sB l))).run Tryz.prog w = .ok (.slice (some ⟨w.heap.size, 0, none⟩) l.length cap) w' ∧ SlB w' (.slice (some ⟨w.heap.size, 0, none⟩) l.length cap) l sp ∧ Frm [] w w' := by
  have hr := Lib.run_convert_string_bytes (P := Tryz.prog) w 9 32 5 (sB l) Tryz.underlying9 Tryz.underlying32 Tryz.underlying5
  have hsz : (sB l).size = l.length := by simp [sB, ByteArray.size]
  rw [hsz] at hr
  have hge := grownCap_ge w l.length 0 5
  have hm := grownCap_le_maxLen w l.length 0 5 (by simp only [maxLen]; omega)
  have hnew := Lib.bytesWorld_at_new w 5 (sB l)
  refine ⟨_, _, List.replicate (grownCap w l.length 0 5 - l.length) 0, hr, ⟨by rw [bvs_length, Nat.mul_one], .inr (.inr ⟨w.heap.size, 0, _, rfl, hge, hm, ?_, fun i u hu => ?_⟩)⟩, ⟨rfl, rfl, rfl, by rw [Lib.bytesWorld_size]; omega, fun k hk _ => Lib.bytesWorld_at_old w 5 (sB l) k hk⟩⟩
  · rw [← bvs_append, bvs_length]; simp; omega
  · rw [cell_of_heap hnew, Nat.zero_add]
    have hcells : Lib.bytesCells w 5 (sB l) = (bvs l ++ bvs (List.replicate (grownCap w l.length 0 5 - l.length) 0)).toArray := by
      apply Array.ext'
      simp [Lib.bytesCells, sB, bvs, bv, ByteArray.size, Array.toList_replicate]
    rw [hcells, List.getElem?_toArray]
    exact hu
end Go.Proofs.YtjdejhgfkjeeiaaGreatDoor
