/-
  Contracts of letters, of a part, of the library's search by a function. No conditions but those that each theorem names.
-/
import Derived.Test.YtnpjgccannebpaaNP
import Derived.Test.YtnpjgccannebpaaK
import Derived.Test.YtnpjgccannebpaaChecked
import Derived.Lib.Hide
import Derived.Lib.OthersKept
import Derived.Deep.Draws
import Derived.WalkMore
namespace Go.Proofs.Ytnpjgccannebpaa
open Go.RowKit
set_option linter.unusedVariables false
set_option linter.unusedSimpArgs false
set_option maxRecDepth 100000

theorem letter_any (c : Int) (w : World) : Calls Try.prog 25 #[.int .i32 c] w fun e w' => e = .returned (.bool (decide (97 ≤ c) && decide (c ≤ 122))) ∧ w' = w := by
  by_cases h1 : 97 ≤ c <;> by_cases h2 : c ≤ 122
  all_goals
    go_enter Try.func25, Try.ntmps25
    go_wp2
    all_goals first | (exfalso; omega) | (go_ret; exact ⟨by simp [h1, h2], rfl⟩)
/-- What foreign tells of a rune. -/
def forR (r : Nat) : Bool := !(decide (97 ≤ r) && decide (r ≤ 122)) && (!(decide (48 ≤ r) && decide (r ≤ 57)) && (!(r == 46) && (!(r == 45) && !(r == 95))))
theorem forR_ok (b : UInt8) : forR b.toNat = !okB b := by
  unfold forR okB letB
  cases decide (97 ≤ b.toNat) <;> cases decide (b.toNat ≤ 122) <;> cases decide (48 ≤ b.toNat) <;> cases decide (b.toNat ≤ 57) <;> cases (b.toNat == 46) <;> cases (b.toNat == 45) <;> cases (b.toNat == 95) <;> rfl
theorem forR_big {r : Nat} (h : 128 ≤ r) : forR r = true := by
  unfold forR
  rw [show decide (r ≤ 122) = false by simp; omega, show decide (r ≤ 57) = false by simp; omega, show (r == 46) = false by simp; omega, show (r == 45) = false by simp; omega, show (r == 95) = false by simp; omega]
  simp
/-- A rune of a text. -/
theorem dec_small (s : ByteArray) (pos : Nat) (b : UInt8) (hb : s.data.toList[pos]? = some b) (h : b.toNat < 128) : Utf8.decode s pos = (b.toNat, 1) := by
  rw [Lib.decode_N]
  have e : s.data.toList.getD pos 0 = b := by simp [List.getD, hb]
  rw [e]
  unfold Lib.decodeN
  rw [if_pos h]
theorem dec_big (s : ByteArray) (pos : Nat) (b : UInt8) (hb : s.data.toList[pos]? = some b) (h : 128 ≤ b.toNat) : 128 ≤ (Utf8.decode s pos).1 := by
  rw [Lib.decode_N]
  have e : s.data.toList.getD pos 0 = b := by simp [List.getD, hb]
  rw [e]
  unfold Lib.decodeN
  rw [if_neg (by omega)]
  repeat' split
  all_goals (simp only; omega)
theorem okB_small {b : UInt8} (h : okB b = true) : b.toNat < 128 := by
  unfold okB letB at h
  simp only [Bool.or_eq_true, Bool.and_eq_true, decide_eq_true_eq, beq_iff_eq] at h
  omega
theorem dec_ok {s : ByteArray} {pos : Nat} {b : UInt8} (hb : s.data.toList[pos]? = some b) (h : okB b = true) : Utf8.decode s pos = (b.toNat, 1) ∧ forR b.toNat = false :=
  ⟨dec_small s pos b hb (okB_small h), by rw [forR_ok, h]; rfl⟩
theorem dec_no {s : ByteArray} {pos : Nat} {b : UInt8} (hb : s.data.toList[pos]? = some b) (h : okB b = false) : forR (Utf8.decode s pos).1 = true := by
  rcases Nat.lt_or_ge b.toNat 128 with h1 | h1
  · rw [dec_small s pos b hb h1, forR_ok, h]; rfl
  · exact forR_big (dec_big s pos b hb h1)
set_option maxHeartbeats 2000000 in
theorem foreign_any (r : Nat) (w : World) : Calls Try.prog 27 #[.int .i32 (r : Int)] w fun e w' => e = .returned (.bool (forR r)) ∧ w' = w := by
  have HL := Lib.hid (fun W => letter_any (r : Int) W)
  obtain ⟨lt, hlt⟩ : ∃ lt, (decide (97 ≤ (r : Int)) && decide ((r : Int) ≤ 122)) = lt := ⟨_, rfl⟩
  rw [hlt] at HL
  have hlt2 : (decide (97 ≤ r) && decide (r ≤ 122)) = lt := by rw [← hlt]; congr 1 <;> simp <;> omega
  have hf : forR r = (!lt && (!(decide (48 ≤ r) && decide (r ≤ 57)) && (!(r == 46) && (!(r == 45) && !(r == 95))))) := by unfold forR; rw [hlt2]
  rw [hf]
  clear hlt hlt2 hf
  cases lt
  all_goals
    go_enter Try.func27, Try.ntmps27
    go_wp2_with (go_at_call 25; refine (HL.out _).mono ?_; rintro e w' ⟨rfl, hw⟩; obtain rfl := hw.symm)
    all_goals (go_ret; refine ⟨congrArg (fun b => Ending.returned (.bool b)) ?_, rfl⟩; rw [Bool.eq_iff_iff]; simp; first | done | omega)
end Go.Proofs.Ytnpjgccannebpaa
