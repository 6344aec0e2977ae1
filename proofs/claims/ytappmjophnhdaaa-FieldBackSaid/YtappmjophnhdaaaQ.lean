/-
  Contract of bytesAsNumber; no conditions but those that the theorem names.
-/
import Derived.Test.YtappmjophnhdaaaO
namespace Go.Proofs.Ytappmjophnhdaaa
open Go.RowKit
set_option linter.unusedVariables false
set_option linter.unusedSimpArgs false

def beNat : List UInt8 → Nat := List.foldl (fun n b => n * 256 + b.toNat) 0
theorem beNat_snoc (l : List UInt8) (b : UInt8) : beNat (l ++ [b]) = beNat l * 256 + b.toNat := by simp [beNat]
theorem beNat_foldl (l : List UInt8) : ∀ n, l.foldl (fun n b => n * 256 + b.toNat) n < (n + 1) * 256 ^ l.length := by
  induction l with
  | nil => intro n; simp
  | cons b l ih =>
    intro n
    have h1 := ih (n * 256 + b.toNat)
    have h2 := b.toNat_lt
    have h3 : (n * 256 + b.toNat + 1) * 256 ^ l.length ≤ ((n + 1) * 256) * 256 ^ l.length := Nat.mul_le_mul_right _ (by omega)
    simp only [List.foldl_cons, List.length_cons, Nat.pow_succ]
    calc _ < _ := h1
      _ ≤ _ := h3
      _ = _ := by rw [Nat.mul_assoc, Nat.mul_comm 256]
theorem beNat_lt (l : List UInt8) : beNat l < 256 ^ l.length := by simpa [beNat] using beNat_foldl l 0
theorem i64_or_nat (a b : Nat) (ha : a < 9223372036854775808) (hb : b < 9223372036854775808) : bits BinOp.or IntKind.i64 (a : Int) (b : Int) = ((a ||| b : Nat) : Int) := by
  have h := Nat.or_lt_two_pow (n := 63) (show a < 2 ^ 63 by omega) (show b < 2 ^ 63 by omega)
  have e : ∀ n : Nat, n < 9223372036854775808 → (BitVec.ofInt 64 (n : Int)).toNat = n := by
    intro n hn
    simp [BitVec.toNat_ofInt]
    omega
  show IntKind.i64.wrap ((BitVec.ofInt 64 (a : Int) ||| BitVec.ofInt 64 (b : Int)).toNat : Int) = _
  rw [BitVec.toNat_or, e a ha, e b hb, IntKind.wrap_i64]
  omega
theorem or_low (a b : Nat) (h : b < 256) : a * 256 ||| b = a * 256 + b := by
  rw [show a * 256 = a <<< 8 by rw [Nat.shiftLeft_eq], Nat.shiftLeft_add_eq_or_of_lt (by simpa using h)]
def BanRel (l : List UInt8) (c n : Value) : Prop := ∃ k m : Nat, k ≤ l.length ∧ c = .int .i64 k ∧ n = .int .i64 m ∧ m = beNat (l.take k) ∧ m < 256 ^ k
set_option maxHeartbeats 1000000 in
theorem ban_any (v : Value) (l sp : List UInt8) (w : World) (hS : SlB w v l sp) (h7 : l.length ≤ 7) :
    Calls Try.prog 59 #[v] w fun r w' => r = .returned (.int .i64 (beNat l)) ∧ w' = w := by
  rcases hS.cases with ⟨rfl, rfl⟩ | ⟨a, rfl, rfl⟩ | ⟨b, off, cap, rfl, hc1, hc2⟩
  iterate 2
    · go_enter Try.func59, Try.ntmps59
      go_wp2
      go_loop [3, 8] (fun n c => c = .int .i64 0 ∧ n = .int .i64 0) (fun _ _ => 0)
      case atStart => exact ⟨rfl, rfl⟩
      case round =>
        obtain ⟨rfl, rfl⟩ := hrel
        go_wp2
        go_ret
        exact ⟨rfl, rfl⟩
  · have HC := Lib.hid hS.cellAt
    clear hS hc2
    go_enter Try.func59, Try.ntmps59
    go_wp2
    go_loop [3, 8] (fun n c => BanRel l c n) (fun _ c => l.length - (intOf c).toNat)
    case atStart => exact ⟨0, 0, Nat.zero_le _, rfl, rfl, by simp [beNat], by simp⟩
    case round =>
      obtain ⟨k, m, hk, rfl, rfl, hm, hlt⟩ := hrel
      by_cases hkl : k < l.length
      · have hc := HC.out k hkl
        have hb : m * 256 < 9223372036854775808 := by
          have : 256 ^ k ≤ 256 ^ 6 := Nat.pow_le_pow_right (by omega) (by omega)
          omega
        have HM := Lib.hid hm
        have HB := Lib.hid hb
        have HL := Lib.hid hlt
        have hu := l[k].toNat_lt
        generalize hg : l[k] = x at *
        have HG := Lib.hid hg
        clear hg hm hb hlt
        go_wp2
        refine ⟨⟨k + 1, m * 256 + x.toNat, by omega, by go_num, ?_, ?_, ?_⟩, by simp [intOf]; omega⟩
        · have := HB.out
          rw [IntWalk.wrap64_in _ (by omega), show ((m : Int) * 256) = ((m * 256 : Nat) : Int) by omega, i64_or_nat _ _ (by omega) (by omega), or_low _ _ hu]
        · rw [List.take_succ_eq_append_getElem hkl, HG.out, beNat_snoc, HM.out]
        · have := HL.out; rw [Nat.pow_succ]; omega
      · obtain rfl : k = l.length := by omega
        have HM := Lib.hid hm
        clear hm hlt
        go_wp2
        go_ret
        refine ⟨?_, rfl⟩
        rw [HM.out, List.take_length]
        rfl
end Go.Proofs.Ytappmjophnhdaaa
