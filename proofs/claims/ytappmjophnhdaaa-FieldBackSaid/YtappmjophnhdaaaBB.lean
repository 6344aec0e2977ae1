/-
  The walk of FieldFirst: for all lists of acts that can be read it returns true and changes nothing that was there; no conditions but that the lists can be read.
-/
import Derived.Test.YtappmjophnhdaaaBA
import Derived.Test.YtappmjophnhdaaaAE
namespace Go.Proofs.Ytappmjophnhdaaa
open Go.RowKit
set_option linter.unusedVariables false
set_option linter.unusedSimpArgs false

theorem rightA_m (x : Act0) : (rightA x).m = x.m := by
  unfold rightA; split
  · rfl
  · split <;> rfl
theorem rightA_n (x : Act0) (h : x.n ≤ 9223372036854775807) : (rightA x).n ≤ 9223372036854775807 := by
  unfold rightA; split
  · have p7 := pickI_range x.size 7 (by decide)
    have h7 : (1 + pickI x.size 7).toNat ≤ 7 := by omega
    have h1 : (2 : Int) ^ (8 * (1 + pickI x.size 7).toNat) ≤ 2 ^ 56 := by
      have : 2 ^ (8 * (1 + pickI x.size 7).toNat) ≤ 2 ^ 56 := Nat.pow_le_pow_right (by omega) (by omega)
      exact_mod_cast this
    have h2 : 1 ≤ (2 : Int) ^ (8 * (1 + pickI x.size 7).toNat) := by
      have : 1 ≤ 2 ^ (8 * (1 + pickI x.size 7).toNat) := Nat.one_le_two_pow
      exact_mod_cast this
    have := pickI_range x.n _ h2
    simp only
    omega
  · split <;> exact h
theorem right_step (x : Act0) (l : List UInt8) (h : l.length + 300 ≤ 65536) (hm : x.m.length ≤ 300) : ((rightA x).step (l, 0)).2 = 0 ∧ ((rightA x).step (l, 0)).1.length ≤ l.length + 300 := by
  have add : ∀ m : List UInt8, m.length ≤ 300 → (addStep l m).2 = 0 ∧ (addStep l m).1.length ≤ l.length + 300 := by
    intro m hm
    unfold addStep
    rw [if_pos (by omega)]
    simp; omega
  unfold rightA
  split
  · rename_i k0
    have p7 := pickI_range x.size 7 (by decide)
    have h2 : 1 ≤ (2 : Int) ^ (8 * (1 + pickI x.size 7).toNat) := by
      have : 1 ≤ 2 ^ (8 * (1 + pickI x.size 7).toNat) := Nat.one_le_two_pow
      exact_mod_cast this
    have hp := pickI_range x.n _ h2
    simp only [Act0.step, k0, if_true, wStep, numStep]
    rw [if_neg (by simp [isSizeB]; omega), if_neg (by omega)]
    exact add _ (by rw [beBytes_length]; omega)
  · rename_i k0
    split
    · rename_i k1
      have p7 := pickI_range x.size 256 (by decide)
      simp only [Act0.step, k1, wStep, textStep]
      rw [if_neg (by decide)]
      simp only [if_true]
      have hs : ((if pickI x.size 256 < x.s.size then x.s.extract 0 (pickI x.size 256).toNat else x.s).data.toList.length : Int) ≤ pickI x.size 256 := by
        show ((ByteArray.size _ : Nat) : Int) ≤ _
        split
        · rw [ByteArray.size_extract]; omega
        · omega
      rw [if_neg (by simp [isMostB]; omega), if_neg (by omega)]
      exact add _ (by rw [textBytes_length _ _ (by omega)]; omega)
    · simp only [Act0.step, wStep]
      exact add _ hm
theorem err_step (x : Act0) (l : List UInt8) (e : Int) (he : e ≠ 0) : x.step (l, e) = (l, e) := by
  unfold Act0.step wStep
  simp [he]
theorem err_steps (xs : List Act0) (l : List UInt8) (e : Int) (he : e ≠ 0) : steps xs (l, e) = (l, e) := by
  induction xs with
  | nil => rfl
  | cons x xs ih => show steps xs (x.step (l, e)) = _; rw [err_step x l e he]; exact ih
set_option maxRecDepth 100000 in
theorem right_steps (xs : List Act0) (hm : ∀ x ∈ xs, x.m.length ≤ 300) : ∀ l : List UInt8, l.length + 300 * xs.length ≤ 65536 → (steps (xs.map rightA) (l, 0)).2 = 0 ∧ (steps (xs.map rightA) (l, 0)).1.length ≤ l.length + 300 * xs.length := by
  induction xs with
  | nil => intro l _; exact ⟨rfl, by simp [steps]⟩
  | cons x xs ih =>
    intro l hl
    simp at hl
    obtain ⟨h1, h2⟩ := right_step x l (by omega) (hm x (by simp))
    show (steps (xs.map rightA) ((rightA x).step (l, 0))).2 = 0 ∧ _
    rcases hst : (rightA x).step (l, 0) with ⟨l', e'⟩
    rw [hst] at h1 h2
    simp only at h1 h2
    subst h1
    obtain ⟨h3, h4⟩ := ih (fun y hy => hm y (by simp [hy])) l' (by omega)
    refine ⟨h3, ?_⟩
    show (steps (xs.map rightA) ((rightA x).step (l, 0))).1.length ≤ _
    rw [hst]
    simp only [List.length_cons]
    omega
end Go.Proofs.Ytappmjophnhdaaa
