/-
  Plain lemmas: what is read without a fault is written as the bytes that it was read from; no conditions but those that each theorem names.
-/
import Derived.Test.YtappmjophnhdaaaCI
namespace Go.Proofs.Ytappmjophnhdaaa
open Go.RowKit
set_option linter.unusedVariables false
set_option linter.unusedSimpArgs false

theorem beBytes_high (k : Nat) : ∀ c x : Nat, beBytes (c * 256 ^ k + x) k = beBytes x k := by
  induction k with
  | zero => intro c x; rfl
  | succ k ih =>
    intro c x
    have h1 : 2 ^ (8 * k) = 256 ^ k := by rw [Nat.pow_mul]
    have h2 : c * 256 ^ (k + 1) + x = (c * 256) * 256 ^ k + x := by rw [Nat.pow_succ, Nat.mul_comm (256 ^ k) 256, Nat.mul_assoc]
    show UInt8.ofNat _ :: _ = UInt8.ofNat _ :: _
    rw [h2, ih, h1]
    congr 1
    have hp : 0 < 256 ^ k := Nat.pow_pos (by omega)
    rw [Nat.mul_comm (c * 256), Nat.mul_add_div hp]
    apply UInt8.toNat_inj.1
    simp
theorem beNat_cons (b : UInt8) (r : List UInt8) : beNat (b :: r) = b.toNat * 256 ^ r.length + beNat r := by
  have h : ∀ (r : List UInt8) (n : Nat), r.foldl (fun n b => n * 256 + b.toNat) n = n * 256 ^ r.length + r.foldl (fun n b => n * 256 + b.toNat) 0 := by
    intro r
    induction r with
    | nil => intro n; simp
    | cons c r ih =>
      intro n
      simp only [List.foldl_cons, List.length_cons]
      rw [ih (n * 256 + c.toNat), ih (0 * 256 + c.toNat), Nat.pow_succ, Nat.add_mul, Nat.zero_mul, Nat.zero_add, Nat.mul_comm (256 ^ r.length) 256, Nat.mul_assoc]
      omega
  have := h r b.toNat
  simpa [beNat] using this
theorem beBytes_back (m : List UInt8) : beBytes (beNat m) m.length = m := by
  induction m with
  | nil => rfl
  | cons b r ih =>
    have h1 : 2 ^ (8 * r.length) = 256 ^ r.length := by rw [Nat.pow_mul]
    have hp : 0 < 256 ^ r.length := Nat.pow_pos (by omega)
    show UInt8.ofNat _ :: beBytes _ r.length = b :: r
    rw [beNat_cons, beBytes_high, ih, h1, Nat.mul_comm, Nat.mul_add_div hp, Nat.div_eq_of_lt (beNat_lt r)]
    simp
theorem take_more (l : List UInt8) (p k : Nat) : l.take p ++ (l.drop p).take k = l.take (p + k) := by rw [List.take_add]
theorem add_more (l m : List UInt8) (p k : Nat) (hl : l.length ≤ 1000) (hm : m = (l.drop p).take k) : addStep (l.take p) m = (l.take (p + k), 0) := by
  subst hm
  unfold addStep
  rw [if_pos (by simp; omega), take_more]
theorem num_again {l : List UInt8} {p p' : Nat} {fa fa' size low high n : Int} (hp : p ≤ l.length) (hl : l.length ≤ 1000) (h : rNum l (p, 0, fa) size low high = (n, p', 0, fa')) : numStep (l.take p) n size = (l.take p', 0) := by
  unfold rNum stepR at h
  simp only [if_true] at h
  cases hn : numRead l p size low high with
  | inl f =>
    rw [hn] at h
    simp at h
    obtain ⟨_, _, h3, _⟩ := h
    unfold numRead at hn
    split at hn
    · cases hn; cases h3
    split at hn
    · cases hn; cases h3
    split at hn
    · cases hn; cases h3
    · cases hn
  | inr m =>
    rw [hn] at h
    simp at h
    obtain ⟨rfl, rfl, _⟩ := h
    unfold numRead at hn
    split at hn
    · cases hn
    rename_i hs
    split at hn
    · cases hn
    rename_i hle
    split at hn
    · cases hn
    cases hn
    have hs' : isSizeB size = true := by simpa using hs
    have hb : 1 ≤ size ∧ size ≤ 7 := by simpa [isSizeB] using hs'
    obtain ⟨z, rfl⟩ := Int.eq_ofNat_of_zero_le (show 0 ≤ size by omega)
    simp only [Int.toNat_natCast] at *
    have hml : ((l.drop p).take z).length = z := by simp; omega
    have hlt := beNat_lt ((l.drop p).take z)
    rw [hml] at hlt
    have hpow : (2 : Int) ^ (8 * z) = ((256 ^ z : Nat) : Int) := by rw [Int.pow_mul]; norm_cast
    have hbb := beBytes_back ((l.drop p).take z)
    rw [hml] at hbb
    unfold numStep
    rw [if_neg hs, if_neg (by rw [Int.toNat_natCast, hpow]; omega), Int.toNat_natCast, Int.toNat_natCast, hbb]
    exact add_more l _ p z hl rfl
theorem raw_again {l m : List UInt8} {p p' : Nat} {fa fa' n : Int} (hp : p ≤ l.length) (hl : l.length ≤ 1000) (h : rRaw l (p, 0, fa) n = (m, p', 0, fa')) : addStep (l.take p) m = (l.take p', 0) := by
  unfold rRaw stepR at h
  simp only [if_true] at h
  cases hn : rawRead l p n with
  | inl f =>
    rw [hn] at h
    simp at h
    obtain ⟨_, _, h3, _⟩ := h
    unfold rawRead at hn
    split at hn
    · cases hn; cases h3
    split at hn
    · cases hn; cases h3
    · cases hn
  | inr k =>
    rw [hn] at h
    simp at h
    obtain ⟨rfl, rfl, _⟩ := h
    unfold rawRead at hn
    split at hn
    · cases hn
    split at hn
    · cases hn
    cases hn
    exact add_more l _ p _ hl rfl
theorem zeros_of {r : List UInt8} (h : firstNot r < 0) : r = List.replicate r.length 0 := by
  unfold firstNot at h
  split at h
  · omega
  · rename_i hn
    rw [List.findIdx?_eq_none_iff] at hn
    exact List.eq_replicate_iff.2 ⟨rfl, fun x hx => by simpa using hn x hx⟩
theorem rest_again {l : List UInt8} {p p' : Nat} {fa fa' : Int} (hp : p ≤ l.length) (hl : l.length ≤ 1000) (h : rRest l (p, 0, fa) = (p', 0, fa')) : padStep (l.take p) p' = (l.take p', 0) := by
  unfold rRest at h
  simp only [if_true] at h
  split at h
  · rename_i hf
    cases h
    have hz := zeros_of hf
    unfold padStep
    rw [if_neg (by simp; omega)]
    have := add_more l (List.replicate (l.length - p) 0) p (l.length - p) hl (by
      rw [List.take_of_length_le (by simp)]
      conv => rhs; rw [hz]
      simp)
    rw [show p + (l.length - p) = l.length by omega] at this
    simpa [Nat.min_eq_left hp] using this
  · cases h
theorem text_again {l m : List UInt8} {p p' : Nat} {fa fa' most : Int} (hp : p ≤ l.length) (hl : l.length ≤ 1000) (h : rText l (p, 0, fa) most = (m, p', 0, fa')) : textStep (l.take p) m most = (l.take p', 0) := by
  unfold rText stepR at h
  simp only [if_true] at h
  cases hn : textRead l p most with
  | inl f =>
    rw [hn] at h
    simp at h
    obtain ⟨_, _, h3, _⟩ := h
    unfold textRead at hn
    split at hn
    · cases hn; cases h3
    split at hn
    · cases hn; cases h3
    split at hn
    · cases hn; cases h3
    split at hn
    · cases hn; cases h3
    split at hn
    · cases hn; cases h3
    · cases hn
  | inr k =>
    rw [hn] at h
    simp at h
    obtain ⟨rfl, rfl, _⟩ := h
    unfold textRead at hn
    split at hn
    · cases hn
    rename_i hs
    split at hn
    · cases hn
    rename_i hle
    split at hn
    · cases hn
    rename_i b r hroom
    split at hn
    · cases hn
    rename_i hbig
    split at hn
    · cases hn
    rename_i hf
    cases hn
    have hs' : isMostB most = true := by simpa using hs
    have hb : 0 ≤ most ∧ most ≤ 255 := by simpa [isMostB] using hs'
    obtain ⟨z, rfl⟩ := Int.eq_ofNat_of_zero_le hb.1
    simp only [Int.toNat_natCast] at *
    have hrl : r.length = z := by
      have := congrArg List.length hroom
      simp at this; omega
    have hbz : b.toNat ≤ z := by omega
    have hmn : (r.take b.toNat).length = b.toNat := by simp; omega
    have hz := zeros_of (show firstNot (r.drop b.toNat) < 0 by omega)
    unfold textStep
    rw [if_neg hs, if_neg (by rw [hmn]; omega)]
    refine add_more l _ p (1 + z) hl ?_
    rw [hroom]
    unfold textBytes
    rw [hmn]
    have h1 : UInt8.ofNat b.toNat = b := by simp
    rw [h1, Int.toNat_natCast]
    congr 1
    conv => rhs; rw [← List.take_append_drop b.toNat r]
    rw [hz]
    congr 2
    simp
    omega
theorem stepR_fault {α : Type} {s s' : Nat × Int × Int} {z a : α} {o : (Int × Int) ⊕ α} {n : Nat} (h : stepR s z o n = (a, s')) (hf : s'.2.1 ≠ 0) : a = z ∧ s'.1 = s.1 ∧ (s.2.1 ≠ 0 → s' = s) := by
  unfold stepR at h
  split at h
  · rename_i h0
    cases o with
    | inl f => cases h; exact ⟨rfl, rfl, fun h => absurd h0 h⟩
    | inr x => cases h; exact absurd rfl hf
  · cases h; exact ⟨rfl, rfl, fun _ => rfl⟩
theorem stepR_ok {α : Type} {s s' : Nat × Int × Int} {z a : α} {o : (Int × Int) ⊕ α} {n : Nat} (h : stepR s z o n = (a, s')) (hf : s'.2.1 = 0) : s.2.1 = 0 := by
  unfold stepR at h
  split at h
  · assumption
  · cases h; exact hf
theorem rRest_fault {l : List UInt8} {s s' : Nat × Int × Int} (h : rRest l s = s') (hf : s'.2.1 ≠ 0) : s'.1 = s.1 ∧ (s.2.1 ≠ 0 → s' = s) := by
  unfold rRest at h
  split at h
  · rename_i h0
    split at h
    · subst h; exact absurd rfl hf
    · subst h; exact ⟨rfl, fun h => absurd h0 h⟩
  · subst h; exact ⟨rfl, fun _ => rfl⟩
theorem rRest_ok {l : List UInt8} {s s' : Nat × Int × Int} (h : rRest l s = s') (hf : s'.2.1 = 0) : s.2.1 = 0 := by
  unfold rRest at h
  split at h
  · assumption
  · subst h; exact hf
end Go.Proofs.Ytappmjophnhdaaa
