/-
  Texts and IDs, there and back: plain facts; no conditions but those that each theorem names.
-/
import Derived.Test.YtopjbiccipgnjaaDoorHS
import Derived.Test.YtopjbiccipgnjaaDoorHT
namespace Go.Proofs.YtopjbiccipgnjaaDoor
open Go.RowKit
set_option linter.unusedVariables false
set_option linter.unusedSimpArgs false

theorem hv_lt : ∀ n : Fin 16, hv (lt n.val) = (n.val : Int) := by decide +kernel
theorem hv_lt' (n : Nat) (h : n < 16) : hv (lt n) = (n : Int) := hv_lt ⟨n, h⟩
theorem lt_hv (c : UInt8) (h : 0 ≤ hv c) : lt (hv c).toNat = c := by
  have key : ∀ c : Fin 256, 0 ≤ hv (UInt8.ofNat c.val) → lt (hv (UInt8.ofNat c.val)).toNat = UInt8.ofNat c.val := by decide +kernel
  have := key ⟨c.toNat, c.toNat_lt⟩
  simp only [UInt8.ofNat_toNat] at this
  exact this h
theorem hv_le (c : UInt8) : hv c ≤ 15 := by
  rcases hv_cases c with ⟨k, hk, h⟩ | h <;> omega
/-- The bytes that the first m pairs of letters are. -/
def pairs (s : List UInt8) (m : Nat) : List UInt8 := (List.range m).map fun i => UInt8.ofNat ((hv (s.getD (2 * i) 0)).toNat * 16 + (hv (s.getD (2 * i + 1) 0)).toNat)
theorem pairs_length (s : List UInt8) (m : Nat) : (pairs s m).length = m := by simp [pairs]
theorem idK_pairs (s : List UInt8) (hn : ∀ j, j < 64 → 0 ≤ hv (s.getD j 0)) : ∀ m, m ≤ 32 → idK s (2 * m) = pairs s m ++ List.replicate (32 - m) 0
  | 0, _ => rfl
  | m + 1, h => by
    have ih := idK_pairs s hn m (by omega)
    have h1 := hn (2 * m) (by omega)
    have h2 := hn (2 * m + 1) (by omega)
    have l1 := hv_le (s.getD (2 * m) 0)
    have l2 := hv_le (s.getD (2 * m + 1) 0)
    have e0 : (pairs s m ++ List.replicate (32 - m) (0 : UInt8)).getD m 0 = 0 := by
      simp only [List.getD_eq_getElem?_getD]
      rw [List.getElem?_append_right (by rw [pairs_length]; exact Nat.le_refl _), pairs_length, Nat.sub_self, show 32 - m = (32 - (m + 1)) + 1 by omega, List.replicate_succ]
      rfl
    have e1 : idK s (2 * m + 1) = pairs s m ++ (UInt8.ofNat (hv (s.getD (2 * m) 0)).toNat :: List.replicate (32 - (m + 1)) 0) := by
      rw [idK, ih, show 2 * m / 2 = m by omega, e0, List.set_append_right _ _ (by rw [pairs_length]; exact Nat.le_refl _), pairs_length, Nat.sub_self, show 32 - m = (32 - (m + 1)) + 1 by omega, List.replicate_succ, List.set_cons_zero]
      simp [nib]
    have e2 : (pairs s m ++ (UInt8.ofNat (hv (s.getD (2 * m) 0)).toNat :: List.replicate (32 - (m + 1)) (0 : UInt8))).getD m 0 = UInt8.ofNat (hv (s.getD (2 * m) 0)).toNat := by
      simp only [List.getD_eq_getElem?_getD]
      rw [List.getElem?_append_right (by rw [pairs_length]; exact Nat.le_refl _), pairs_length, Nat.sub_self]
      rfl
    rw [show 2 * (m + 1) = (2 * m + 1) + 1 by omega, idK, e1, show (2 * m + 1) / 2 = m by omega, e2, List.set_append_right _ _ (by rw [pairs_length]; exact Nat.le_refl _), pairs_length, Nat.sub_self, List.set_cons_zero]
    have e3 : nib (UInt8.ofNat (hv (s.getD (2 * m) 0)).toNat) (hv (s.getD (2 * m + 1) 0)) = UInt8.ofNat ((hv (s.getD (2 * m) 0)).toNat * 16 + (hv (s.getD (2 * m + 1) 0)).toNat) := by
      unfold nib
      rw [UInt8.toNat_ofNat', Nat.mod_eq_of_lt (by omega), Nat.mod_eq_of_lt (by omega)]
    rw [e3]
    simp [pairs, List.range_succ]
theorem idK_all (s : List UInt8) (hn : ∀ j, j < 64 → 0 ≤ hv (s.getD j 0)) : idK s 64 = pairs s 32 := by
  have := idK_pairs s hn 32 (by omega)
  simpa using this
theorem txt_getD : ∀ (a : List UInt8) (i : Nat), i < a.length → (txt a).getD (2 * i) 0 = lt ((a.getD i 0).toNat / 16) ∧ (txt a).getD (2 * i + 1) 0 = lt ((a.getD i 0).toNat % 16)
  | x :: r, 0, _ => ⟨rfl, rfl⟩
  | x :: r, i + 1, h => by
    have ih := txt_getD r i (by simpa using h)
    have e : txt (x :: r) = lt (x.toNat / 16) :: lt (x.toNat % 16) :: txt r := by simp [txt]
    rw [e]
    exact ⟨by rw [show 2 * (i + 1) = (2 * i + 1) + 1 by omega]; simpa using ih.1, by rw [show 2 * (i + 1) + 1 = (2 * i + 1 + 1) + 1 by omega]; simpa using ih.2⟩
  | [], i, h => by simp at h
theorem txt_ok (a : List UInt8) (ha : a.length = 32) (j : Nat) (hj : j < 64) : 0 ≤ hv ((txt a).getD j 0) := by
  have hx : ∀ n : Nat, n < 16 → 0 ≤ hv (lt n) := fun n hn => by rw [hv_lt' n hn]; omega
  have := (a.getD (j / 2) 0).toNat_lt
  rcases (show j = 2 * (j / 2) ∨ j = 2 * (j / 2) + 1 by omega) with h | h
  · rw [h, (txt_getD a (j / 2) (by omega)).1]; exact hx _ (by omega)
  · rw [h, (txt_getD a (j / 2) (by omega)).2]; exact hx _ (by omega)
/-- An ID's text is read as it. -/
theorem prs_txt (a : List UInt8) (ha : a.length = 32) : prsV (txt a) = tV (bvs a).toArray 0 0 := by
  rw [prs_ok (txt a) (by rw [txt_length, ha]) (txt_ok a ha), idK_all _ (txt_ok a ha)]
  have : pairs (txt a) 32 = a := by
    apply List.ext_getElem
    · rw [pairs_length, ha]
    · intro i h1 h2
      have hx := (a.getD i 0).toNat_lt
      obtain ⟨g1, g2⟩ := txt_getD a i h2
      simp only [pairs, List.getElem_map, List.getElem_range, g1, g2]
      rw [hv_lt' _ (by omega), hv_lt' _ (by omega)]
      have e : a.getD i 0 = a[i] := by simp [List.getD_eq_getElem?_getD, List.getElem?_eq_getElem h2]
      rw [e] at hx ⊢
      apply UInt8.toNat_inj.1
      rw [UInt8.toNat_ofNat']
      omega
  rw [this]
/-- What is read without a fault is told as that text. -/
theorem txt_prs (s : List UInt8) (hs : s.length = 64) (hn : ∀ j, j < 64 → 0 ≤ hv (s.getD j 0)) : txt (pairs s 32) = s := by
  apply List.ext_getElem
  · rw [txt_length, pairs_length, hs]
  · intro j h1 h2
    have hp : ∀ i, i < 32 → (pairs s 32).getD i 0 = UInt8.ofNat ((hv (s.getD (2 * i) 0)).toNat * 16 + (hv (s.getD (2 * i + 1) 0)).toNat) := fun i hi => by
      simp [pairs, List.getD_eq_getElem?_getD, List.getElem?_map, List.getElem?_range hi]
    obtain ⟨g1, g2⟩ := txt_getD (pairs s 32) (j / 2) (by rw [pairs_length]; omega)
    rw [hp _ (by omega)] at g1 g2
    have q1 := hn (2 * (j / 2)) (by omega)
    have q2 := hn (2 * (j / 2) + 1) (by omega)
    have l1 := hv_le (s.getD (2 * (j / 2)) 0)
    have l2 := hv_le (s.getD (2 * (j / 2) + 1) 0)
    have hm : ((hv (s.getD (2 * (j / 2)) 0)).toNat * 16 + (hv (s.getD (2 * (j / 2) + 1) 0)).toNat) % 2 ^ 8 = (hv (s.getD (2 * (j / 2)) 0)).toNat * 16 + (hv (s.getD (2 * (j / 2) + 1) 0)).toNat := Nat.mod_eq_of_lt (by omega)
    rw [UInt8.toNat_ofNat', hm] at g1 g2
    rw [show ((hv (s.getD (2 * (j / 2)) 0)).toNat * 16 + (hv (s.getD (2 * (j / 2) + 1) 0)).toNat) / 16 = (hv (s.getD (2 * (j / 2)) 0)).toNat by omega, lt_hv _ q1] at g1
    rw [show ((hv (s.getD (2 * (j / 2)) 0)).toNat * 16 + (hv (s.getD (2 * (j / 2) + 1) 0)).toNat) % 16 = (hv (s.getD (2 * (j / 2) + 1) 0)).toNat by omega, lt_hv _ q2] at g2
    have t1 : ∀ (l : List UInt8) (i : Nat) (h : i < l.length), l.getD i 0 = l[i] := fun l i h => by simp [List.getD_eq_getElem?_getD, List.getElem?_eq_getElem h]
    rw [← t1 _ _ h1, ← t1 _ _ h2]
    rcases (show j = 2 * (j / 2) ∨ j = 2 * (j / 2) + 1 by omega) with h | h
    · rw [h]; exact g1
    · rw [h]; exact g2
/-- What a text is read as: a fault, or the ID whose text it is. -/
theorem prs_form2 (s : List UInt8) : (∃ e at_, (e : Int) ≠ 0 ∧ 0 ≤ (at_ : Int) ∧ at_ ≤ s.length ∧ at_ ≤ 64 ∧ prsV s = .tuple #[.agg Z32, .agg #[.int .i64 e, .int .i64 at_]]) ∨
    ∃ D, D.length = 32 ∧ txt D = s ∧ prsV s = .tuple #[.agg (bvs D).toArray, .agg #[.int .i64 0, .int .i64 0]] := by
  by_cases h : s.length = 64
  · by_cases hn : ∀ j, j < 64 → 0 ≤ hv (s.getD j 0)
    · right
      exact ⟨pairs s 32, pairs_length _ _, txt_prs s h hn, by rw [prs_ok s h hn, idK_all s hn]; rfl⟩
    · left
      unfold prsV
      rw [if_neg (by simp [h])]
      split
      · rename_i i hi
        have := List.mem_of_find?_eq_some hi
        rw [List.mem_range] at this
        exact ⟨2, i, by omega, by omega, by omega, by omega, rfl⟩
      · rename_i hnone
        rw [List.find?_range_eq_none] at hnone
        exact absurd (fun j hj => by have := hnone j hj; simpa using this) hn
  · left
    rw [prs_len s h]
    exact ⟨4, min (s.length : Int) 64, by omega, by omega, by omega, by omega, rfl⟩
theorem lt_mono : ∀ i j : Fin 16, (lt i.val < lt j.val) = (i.val < j.val) := by decide +kernel
theorem lt_inj : ∀ i j : Fin 16, (lt i.val == lt j.val) = (i.val == j.val) := by decide +kernel
/-- IDs order as their texts. -/
theorem less_txt : ∀ (a b : List UInt8), a.length = b.length → Op.bytesLess (txt a) (txt b) = decide (Lib.compareBytes a b < 0)
  | [], [], _ => rfl
  | x :: r, y :: q, h => by
    have ih := less_txt r q (by simpa using h)
    have e1 : txt (x :: r) = lt (x.toNat / 16) :: lt (x.toNat % 16) :: txt r := by simp [txt]
    have e2 : txt (y :: q) = lt (y.toNat / 16) :: lt (y.toNat % 16) :: txt q := by simp [txt]
    have hx := x.toNat_lt
    have hy := y.toNat_lt
    rw [e1, e2]
    simp only [Op.bytesLess, ih]
    have m1 := lt_mono ⟨x.toNat / 16, by omega⟩ ⟨y.toNat / 16, by omega⟩
    have m2 := lt_mono ⟨x.toNat % 16, by omega⟩ ⟨y.toNat % 16, by omega⟩
    have n1 := lt_inj ⟨x.toNat / 16, by omega⟩ ⟨y.toNat / 16, by omega⟩
    have n2 := lt_inj ⟨x.toNat % 16, by omega⟩ ⟨y.toNat % 16, by omega⟩
    simp only at m1 m2 n1 n2
    rw [n1, n2]
    simp only [m1, m2]
    have c : Lib.compareBytes (x :: r) (y :: q) = if x < y then -1 else if y < x then 1 else Lib.compareBytes r q := rfl
    by_cases h1 : x.toNat < y.toNat
    · have hlt : x < y := UInt8.lt_iff_toNat_lt.2 h1
      have hc : Lib.compareBytes (x :: r) (y :: q) = -1 := by rw [c, if_pos hlt]
      have : decide (Lib.compareBytes (x :: r) (y :: q) < 0) = true := by rw [hc]; rfl
      rw [this]
      rcases (show x.toNat / 16 < y.toNat / 16 ∨ (x.toNat / 16 = y.toNat / 16 ∧ x.toNat % 16 < y.toNat % 16) by omega) with g | ⟨g1, g2⟩
      · simp [g]
      · simp [g1, g2]
    · by_cases h2 : y.toNat < x.toNat
      · have hlt : y < x := UInt8.lt_iff_toNat_lt.2 h2
        have hnl : ¬ x < y := fun e => h1 (UInt8.lt_iff_toNat_lt.1 e)
        have hc : Lib.compareBytes (x :: r) (y :: q) = 1 := by rw [c, if_neg hnl, if_pos hlt]
        have : decide (Lib.compareBytes (x :: r) (y :: q) < 0) = false := by rw [hc]; rfl
        rw [this]
        rcases (show y.toNat / 16 < x.toNat / 16 ∨ (x.toNat / 16 = y.toNat / 16 ∧ y.toNat % 16 < x.toNat % 16) by omega) with g | ⟨g1, g2⟩
        · have k1 : ¬ x.toNat / 16 < y.toNat / 16 := by omega
          have k2 : ¬ x.toNat / 16 = y.toNat / 16 := by omega
          simp [k1, k2]
        · have k1 : ¬ x.toNat % 16 < y.toNat % 16 := by omega
          have k2 : ¬ x.toNat % 16 = y.toNat % 16 := by omega
          simp [g1, k1, k2]
      · have hxy : x = y := UInt8.toNat_inj.1 (by omega)
        subst hxy
        have hc : Lib.compareBytes (x :: r) (x :: q) = Lib.compareBytes r q := by rw [c, if_neg (by simp), if_neg (by simp)]
        have : decide (Lib.compareBytes (x :: r) (x :: q) < 0) = decide (Lib.compareBytes r q < 0) := by rw [hc]
        rw [this]
        simp
  | [], _ :: _, h => by simp at h
  | _ :: _, [], h => by simp at h
theorem txt_inj : ∀ (a b : List UInt8), a.length = b.length → (txt a == txt b) = (a == b)
  | [], [], _ => rfl
  | x :: r, y :: q, h => by
    have ih := txt_inj r q (by simpa using h)
    have e1 : txt (x :: r) = lt (x.toNat / 16) :: lt (x.toNat % 16) :: txt r := by simp [txt]
    have e2 : txt (y :: q) = lt (y.toNat / 16) :: lt (y.toNat % 16) :: txt q := by simp [txt]
    have hx := x.toNat_lt
    have hy := y.toNat_lt
    rw [e1, e2]
    have n1 := lt_inj ⟨x.toNat / 16, by omega⟩ ⟨y.toNat / 16, by omega⟩
    have n2 := lt_inj ⟨x.toNat % 16, by omega⟩ ⟨y.toNat % 16, by omega⟩
    simp only at n1 n2
    simp only [List.cons_beq_cons, n1, n2, ih]
    by_cases hxy : x = y
    · subst hxy; simp
    · have k : ¬ (x.toNat / 16 = y.toNat / 16 ∧ x.toNat % 16 = y.toNat % 16) := fun ⟨k1, k2⟩ => hxy (UInt8.toNat_inj.1 (by omega))
      have hf : (x == y) = false := by simpa using hxy
      rw [hf]
      by_cases k1 : x.toNat / 16 = y.toNat / 16
      · have k2 : ¬ x.toNat % 16 = y.toNat % 16 := fun e => k ⟨k1, e⟩
        simp [k2]
      · simp [k1]
  | [], _ :: _, h => by simp at h
  | _ :: _, [], h => by simp at h
/-- Of two unlike IDs just one is the lesser. -/
theorem less_not : ∀ (a b : List UInt8), a.length = b.length → a ≠ b → decide (Lib.compareBytes b a < 0) = !decide (Lib.compareBytes a b < 0)
  | [], [], _, h => absurd rfl h
  | x :: r, y :: q, h, hne => by
    have c1 : Lib.compareBytes (x :: r) (y :: q) = if x < y then -1 else if y < x then 1 else Lib.compareBytes r q := rfl
    have c2 : Lib.compareBytes (y :: q) (x :: r) = if y < x then -1 else if x < y then 1 else Lib.compareBytes q r := rfl
    by_cases h1 : x < y
    · have h2 : ¬ y < x := fun e => by have := UInt8.lt_iff_toNat_lt.1 e; have := UInt8.lt_iff_toNat_lt.1 h1; omega
      have d1 : Lib.compareBytes (x :: r) (y :: q) = -1 := by rw [c1, if_pos h1]
      have d2 : Lib.compareBytes (y :: q) (x :: r) = 1 := by rw [c2, if_neg h2, if_pos h1]
      rw [d1, d2]; rfl
    · by_cases h2 : y < x
      · have d1 : Lib.compareBytes (x :: r) (y :: q) = 1 := by rw [c1, if_neg h1, if_pos h2]
        have d2 : Lib.compareBytes (y :: q) (x :: r) = -1 := by rw [c2, if_pos h2]
        rw [d1, d2]; rfl
      · have hxy : x = y := UInt8.toNat_inj.1 (by
          have g1 : ¬ x.toNat < y.toNat := fun e => h1 (UInt8.lt_iff_toNat_lt.2 e)
          have g2 : ¬ y.toNat < x.toNat := fun e => h2 (UInt8.lt_iff_toNat_lt.2 e)
          omega)
        subst hxy
        have d1 : Lib.compareBytes (x :: r) (x :: q) = Lib.compareBytes r q := by rw [c1, if_neg h1, if_neg h1]
        have d2 : Lib.compareBytes (x :: q) (x :: r) = Lib.compareBytes q r := by rw [c2, if_neg h1, if_neg h1]
        rw [d1, d2]
        exact less_not r q (by simpa using h) (fun e => hne (by rw [e]))
  | [], _ :: _, h, _ => by simp at h
  | _ :: _, [], h, _ => by simp at h
end Go.Proofs.YtopjbiccipgnjaaDoor
