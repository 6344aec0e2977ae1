/-
  Rows of lists of addresses; bits; what a map of bits holds. No conditions but those that each theorem names.
-/
import Derived.Test.YtafedmahehbggaaKI
import Derived.Test.YtafedmahehbggaaUP
import Derived.Test.YtafedmahehbggaaCC

import Derived.WideKeyEntry
namespace Go.Proofs.Ytafedmahehbggaa
open Go.RowKit Go.Sort Go.Maps
set_option linter.unusedVariables false
set_option linter.unusedSimpArgs false
set_option maxRecDepth 100000

open Kr (OwnE SlE Enco RowTys)
open Go.MapKept Go.ChangeMaps Go.WideElems
/-- A cell of a row. -/
abbrev CelT := { v : Value // v.oneCell' = true }
def eC (x : CelT) : List Value := [x.1]
theorem encC : Enco eC 1 := ⟨fun _ => rfl, fun x u hu => by simp [eC] at hu; subst hu; exact x.2, by omega, fun x y h => Subtype.ext (by simpa [eC] using h)⟩
/-- A slice of lists of addresses. -/
def LsA (w : World) (v : Value) (L : List (List Ad)) : Prop := ∃ cs sp, SlE eC 1 w v cs sp ∧ cs.length = L.length ∧ ∀ (i : Nat) (c : CelT) l, cs[i]? = some c → L[i]? = some l → ∃ s, SlA w c.1 l s
theorem LsA.keep0 {w w' : World} {v : Value} {L : List (List Ad)} (h : LsA w v L) (f : Frm [] w w') : LsA w' v L := by
  obtain ⟨cs, sp, hs, hl, hr⟩ := h
  refine ⟨cs, sp, hs.keep0 f, hl, fun i c b h1 h2 => ?_⟩
  obtain ⟨s, h⟩ := hr i c b h1 h2
  exact ⟨s, h.keep f (by simp)⟩
theorem LsA.form {w : World} {v : Value} {L : List (List Ad)} (h : LsA w v L) : ∃ a cap, v = .slice a L.length cap ∧ L.length ≤ cap := by
  obtain ⟨cs, sp, hs, hl, hr⟩ := h
  obtain ⟨a, cap, e, h1, _⟩ := hs.form
  exact ⟨a, cap, by rw [← hl]; exact e, by omega⟩
theorem LsA.at {w : World} {a : Option Addr} {n cap : Nat} {L : List (List Ad)} (h : LsA w (.slice a n cap) L) (hp : 0 < L.length) : ∃ b off, a = some ⟨b, off, none⟩ := by
  obtain ⟨cs, sp, hs, hl, hr⟩ := h
  obtain ⟨b, off, rfl⟩ := hs.at (by omega)
  exact ⟨b, off, rfl⟩
/-- An element: its cell, its addresses. -/
theorem LsA.cell {w : World} {b off n cap : Nat} {L : List (List Ad)} (h : LsA w (.slice (some ⟨b, off, none⟩) n cap) L) (i : Nat) (hi : i < L.length) : ∃ c s, w.cell? ⟨b, off + i, none⟩ = some c ∧ SlA w c L[i] s := by
  obtain ⟨cs, sp, hs, hl, hr⟩ := h
  have hi2 : i < cs.length := by omega
  obtain ⟨s, hS⟩ := hr i cs[i] L[i] (List.getElem?_eq_getElem _) (List.getElem?_eq_getElem _)
  have := SlE.cell encC hs i hi2 0 (u := (cs[i]).1) rfl
  rw [Nat.mul_one, Nat.add_zero] at this
  exact ⟨_, s, this, hS⟩
theorem LsA.nil (w : World) : LsA w (.slice none 0 0) [] := ⟨[], [], SlE.nil _ _ _, rfl, fun i c l h => by simp at h⟩

theorem pow_lt64 {i : Nat} (hi : i < 64) : 2 ^ i < 18446744073709551616 := by
  have := Nat.pow_lt_pow_right (a := 2) (by omega) hi
  exact this
theorem wrap_pow {i : Nat} (hi : i < 64) : IntKind.u64.wrap ((2 : Int) ^ i) = 2 ^ i := by
  have e : ((2 ^ i : Nat) : Int) = (2 : Int) ^ i := by simp
  rw [← e]
  have h := pow_lt64 hi
  show ((2 ^ i : Nat) : Int) % 18446744073709551616 = ((2 ^ i : Nat) : Int)
  exact Int.emod_eq_of_lt (Int.natCast_nonneg _) (Int.ofNat_lt.2 h)
theorem bit_any (i : Nat) (hi : i < 64) (w : World) : Calls Try.prog 56 #[.int .i64 (i : Int)] w fun e w' => e = .returned (.int .u64 ((2 ^ i : Nat) : Int)) ∧ w' = w := by
  have h0 : (0 : Int) ≤ (i : Int) := by omega
  have h1 : ¬ (64 : Int) ≤ (i : Int) := by omega
  have e : ((2 ^ i : Nat) : Int) = (2 : Int) ^ i := by simp
  have hw := Lib.hid (wrap_pow hi)
  rw [e]
  clear e
  go_enter Try.func56, Try.ntmps56
  go_wp2
  go_ret
  exact ⟨by simp [hw.out], rfl⟩
theorem and_pow (n i : Nat) : n &&& 2 ^ i = if n.testBit i then 2 ^ i else 0 := Nat.eq_of_testBit_eq fun j => by
  rw [Nat.testBit_and, Nat.testBit_two_pow]
  by_cases h : i = j
  · subst h
    cases hc : n.testBit i <;> simp
  · cases hc : n.testBit i <;> simp [h]
theorem has2_any (n i : Nat) (hn : n < 18446744073709551616) (hi : i < 64) (w : World) : Calls Try.prog 49 #[.int .u64 (n : Int), .int .i64 (i : Int)] w fun e w' => e = .returned (.bool (n.testBit i)) ∧ w' = w := by
  have hb : bits BinOp.and IntKind.u64 (n : Int) ((2 ^ i : Nat) : Int) = ((n &&& 2 ^ i : Nat) : Int) := u64_and_nat _ _ hn (pow_lt64 hi)
  have ht : (((n &&& 2 ^ i : Nat) : Int) != 0) = n.testBit i := by
    rw [and_pow]
    cases n.testBit i
    · rfl
    · have : 0 < 2 ^ i := Nat.pos_of_ne_zero (by simp)
      simp only [if_true, bne_iff_ne, ne_eq]
      omega
  have HB := Lib.hid (fun W => bit_any i hi W)
  clear hn hi
  generalize ((2 ^ i : Nat) : Int) = p at *
  generalize ((n &&& 2 ^ i : Nat) : Int) = q at *
  generalize n.testBit i = r at *
  go_enter Try.func49, Try.ntmps49
  go_wp2_with (go_at_call 56; refine (HB.out _).mono ?_; rintro e w1 ⟨rfl, hw1⟩; obtain rfl := hw1.symm)
  go_ret
  exact ⟨rfl, rfl⟩
/-- The functions over bits. -/
theorem bany_any (n : Nat) (w : World) : Calls Try.prog 39 #[.int .u64 (n : Int)] w fun e w' => e = .returned (.bool (n != 0)) ∧ w' = w := by
  have ht : ((n : Int) != 0) = (n != 0) := by cases n <;> rfl
  rw [← ht]
  clear ht
  go_enter Try.func39, Try.ntmps39
  go_wp2
  go_ret
  exact ⟨rfl, rfl⟩
theorem bsome_any (n m g : Nat) (hn : n < 18446744073709551616) (hm : m < 18446744073709551616) (w : World) (hg : w.cell? ⟨g, 2, none⟩ = some (.int .u64 (m : Int))) :
    Calls Try.prog 40 #[.int .u64 (n : Int), .pointer (some ⟨g, 0, none⟩)] w fun e w' => e = .returned (.bool ((n &&& m) != 0)) ∧ w' = w := by
  have hb : bits BinOp.and IntKind.u64 (n : Int) (m : Int) = ((n &&& m : Nat) : Int) := u64_and_nat _ _ hn hm
  have ht : (((n &&& m : Nat) : Int) != 0) = ((n &&& m) != 0) := by cases n &&& m <;> rfl
  rw [← ht]
  clear hn hm ht
  generalize ((n &&& m : Nat) : Int) = q at *
  go_enter Try.func40, Try.ntmps40
  go_wp2
  go_ret
  exact ⟨rfl, rfl⟩
theorem belse_any (n m g : Nat) (hn : n < 18446744073709551616) (hm : m < 18446744073709551616) (w : World) (hg : w.cell? ⟨g, 2, none⟩ = some (.int .u64 (m : Int))) :
    Calls Try.prog 41 #[.int .u64 (n : Int), .pointer (some ⟨g, 0, none⟩)] w fun e w' => e = .returned (.bool ((n &&& (18446744073709551615 - m)) != 0)) ∧ w' = w := by
  have hb : bits BinOp.andNot IntKind.u64 (n : Int) (m : Int) = ((n &&& (18446744073709551615 - m) : Nat) : Int) := u64_andNot_nat _ _ hn hm
  have ht : (((n &&& (18446744073709551615 - m) : Nat) : Int) != 0) = ((n &&& (18446744073709551615 - m)) != 0) := by cases n &&& (18446744073709551615 - m) <;> rfl
  rw [← ht]
  clear hn hm ht
  generalize ((n &&& (18446744073709551615 - m) : Nat) : Int) = q at *
  go_enter Try.func41, Try.ntmps41
  go_wp2
  go_ret
  exact ⟨rfl, rfl⟩
theorem ball_any (n m g : Nat) (hn : n < 18446744073709551616) (hm : m < 18446744073709551616) (w : World) (hg : w.cell? ⟨g, 2, none⟩ = some (.int .u64 (m : Int))) :
    Calls Try.prog 43 #[.int .u64 (n : Int), .pointer (some ⟨g, 0, none⟩)] w fun e w' => e = .returned (.bool ((n &&& m) == m)) ∧ w' = w := by
  have hb : bits BinOp.and IntKind.u64 (n : Int) (m : Int) = ((n &&& m : Nat) : Int) := u64_and_nat _ _ hn hm
  have ht : (((n &&& m : Nat) : Int) == (m : Int)) = ((n &&& m) == m) := by
    by_cases h : (n &&& m) = m
    · rw [h]; simp
    · have : ¬ ((n &&& m : Nat) : Int) = (m : Int) := by omega
      rw [beq_eq_false_iff_ne.2 h, beq_eq_false_iff_ne.2 this]
  rw [← ht]
  clear hn hm ht
  generalize ((n &&& m : Nat) : Int) = q at *
  generalize (m : Int) = z at *
  go_enter Try.func43, Try.ntmps43
  go_wp2
  go_ret
  exact ⟨rfl, rfl⟩
/-- What a map of bits holds: of each address some bits; those of S are in it. -/
def BitD (D : DataW Unit) (f : Ad → Nat) : Prop := ∀ x, WfA x → (Maps.has D (kA x) = true ↔ f x ≠ 0) ∧ D.atKey (kA x) (.lit (.int .u64 0)) = .lit (.int .u64 (f x : Nat))
theorem BitD.empty : BitD (.map []) fun _ => 0 := fun x _ => ⟨by simp [Maps.has], by simp [DataW.atKey]⟩
theorem BitD.put {D : DataW Unit} {f : Ad → Nat} (h : BitD D f) (hD : Maps.IsMap D) {x : Ad} (hx : WfA x) (n : Nat) (hn : f x ||| n ≠ 0) : BitD (D.put (kA x) (.lit (.int .u64 ((f x ||| n : Nat) : Int)))) (fun y => if y = x then f x ||| n else f y) := fun y hy => by
  by_cases e : y = x
  · subst e
    refine ⟨by simp [Maps.has_put_same hD (kA_key hx), hn], ?_⟩
    rw [Maps.atKey_put_same hD (kA_key hx)]
    simp
  · have hk : kA y ≠ kA x := fun e1 => e (kA_inj hy hx e1)
    refine ⟨by rw [Maps.has_put_other hk, (h y hy).1]; simp [e], ?_⟩
    rw [Maps.atKey_put_other hk, (h y hy).2]
    simp [e]
theorem BitD.congr {D : DataW Unit} {f g : Ad → Nat} (h : BitD D f) (e : ∀ x, WfA x → f x = g x) : BitD D g := fun x hx => by rw [← e x hx]; exact h x hx
theorem BitD.has {D : DataW Unit} {f : Ad → Nat} (h : BitD D f) {x : Ad} (hx : WfA x) : Maps.has D (kA x) = decide (f x ≠ 0) := by
  have := (h x hx).1
  by_cases e : f x ≠ 0
  · rw [this.2 e]; simp [e]
  · cases hc : Maps.has D (kA x)
    · simp at e; simp [e]
    · exact absurd (this.1 hc) e
end Go.Proofs.Ytafedmahehbggaa
