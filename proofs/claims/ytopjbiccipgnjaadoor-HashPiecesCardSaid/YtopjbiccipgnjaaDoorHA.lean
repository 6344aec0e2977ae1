/-
  Words of 32 bits: plain laws, and contracts of the turns of a word; no conditions but those that each theorem names.
-/
import Derived.Test.YtopjbiccipgnjaaDoorRows
import Derived.Test.YtopjbiccipgnjaaDoorKB
import Derived.BigQuiet
import Derived.Deep.QuietTactic
import Derived.Deep.RegionWith
import Derived.Lib.Hide
import Derived.Laws.BitsAllLaws
namespace Go.Proofs.YtopjbiccipgnjaaDoor
open Go.RowKit
set_option linter.unusedVariables false
set_option linter.unusedSimpArgs false

theorem BT : ByteTys Tryd.prog 22 5 := ⟨Tryd.underlying22, Tryd.underlying5, by kernel_rfl⟩
/-- A word as a value. -/
def wi (x : UInt32) : Int := (x.toNat : Int)
theorem wi_lo (x : UInt32) : 0 ≤ wi x := by unfold wi; omega
theorem wi_hi (x : UInt32) : wi x < 4294967296 := by unfold wi; have := x.toNat_lt; omega
theorem wi_xor (x y : UInt32) : bits BinOp.xor IntKind.u32 (wi x) (wi y) = wi (x ^^^ y) := by
  unfold wi; rw [u32_xor_nat _ _ x.toNat_lt y.toNat_lt, UInt32.toNat_xor]
theorem wi_and (x y : UInt32) : bits BinOp.and IntKind.u32 (wi x) (wi y) = wi (x &&& y) := by
  unfold wi; rw [u32_and_nat _ _ x.toNat_lt y.toNat_lt, UInt32.toNat_and]
theorem wi_or (x y : UInt32) : bits BinOp.or IntKind.u32 (wi x) (wi y) = wi (x ||| y) := by
  unfold wi; rw [u32_or_nat _ _ x.toNat_lt y.toNat_lt, UInt32.toNat_or]
theorem wi_add (x y : UInt32) : IntKind.u32.wrap (wi x + wi y) = wi (x + y) := by
  unfold wi; rw [UInt32.toNat_add, show IntKind.u32.wrap ((x.toNat : Int) + y.toNat) = ((x.toNat : Int) + y.toNat) % 4294967296 from rfl]; omega
theorem wi_add' (x y : UInt32) : (wi x + wi y) % 4294967296 = wi (x + y) := by
  unfold wi; rw [UInt32.toNat_add]; omega
theorem wi_not (x : UInt32) : 4294967295 - wi x = wi (~~~x) := by
  unfold wi; rw [UInt32.toNat_not]; have := x.toNat_lt; simp only [UInt32.size]; omega
/-- A word moved to the right. -/
def shr32 (x : UInt32) (n : Nat) : UInt32 := UInt32.ofNat (x.toNat / 2 ^ n)
/-- A word turned to the right. -/
def ror32 (x : UInt32) (n : Nat) : UInt32 := UInt32.ofNat (x.toNat / 2 ^ n ||| x.toNat * 2 ^ (32 - n) % 4294967296)
theorem wi_shr (x : UInt32) (n : Nat) : wi x / 2 ^ n = wi (shr32 x n) := by
  unfold wi shr32
  have h : x.toNat / 2 ^ n < 4294967296 := Nat.lt_of_le_of_lt (Nat.div_le_self _ _) x.toNat_lt
  rw [UInt32.toNat_ofNat', Nat.mod_eq_of_lt h]
  simp
theorem ror_val (x : UInt32) (n : Nat) : bits BinOp.or IntKind.u32 (wi x / 2 ^ n) (wi x * 2 ^ (32 - n) % 4294967296) = wi (ror32 x n) := by
  have h1 : x.toNat / 2 ^ n < 4294967296 := Nat.lt_of_le_of_lt (Nat.div_le_self _ _) x.toNat_lt
  have h2 : x.toNat * 2 ^ (32 - n) % 4294967296 < 4294967296 := Nat.mod_lt _ (by decide)
  have e1 : wi x / 2 ^ n = ((x.toNat / 2 ^ n : Nat) : Int) := by unfold wi; simp
  have e2 : wi x * 2 ^ (32 - n) % 4294967296 = ((x.toNat * 2 ^ (32 - n) % 4294967296 : Nat) : Int) := by unfold wi; simp
  rw [e1, e2, u32_or_nat _ _ h1 h2]
  unfold wi ror32
  rw [UInt32.toNat_ofNat', Nat.mod_eq_of_lt (Nat.or_lt_two_pow (n := 32) h1 h2)]
theorem ror_val' (x : UInt32) (n : Nat) : bits BinOp.or IntKind.u32 (wi x * 2 ^ (32 - n) % 4294967296) (wi x / 2 ^ n) = wi (ror32 x n) := by
  have h1 : x.toNat / 2 ^ n < 4294967296 := Nat.lt_of_le_of_lt (Nat.div_le_self _ _) x.toNat_lt
  have h2 : x.toNat * 2 ^ (32 - n) % 4294967296 < 4294967296 := Nat.mod_lt _ (by decide)
  have e1 : wi x / 2 ^ n = ((x.toNat / 2 ^ n : Nat) : Int) := by unfold wi; simp
  have e2 : wi x * 2 ^ (32 - n) % 4294967296 = ((x.toNat * 2 ^ (32 - n) % 4294967296 : Nat) : Int) := by unfold wi; simp
  rw [← ror_val, e1, e2, u32_or_nat _ _ h1 h2, u32_or_nat _ _ h2 h1, Nat.or_comm]
theorem rot_and : ∀ n : Fin 32, 1 ≤ n.val → bits BinOp.and IntKind.u64 (IntKind.u64.wrap (-(n.val : Int))) 31 = 32 - (n.val : Int) := by decide +kernel
theorem RefRight_any (x : UInt32) (k : Nat) (h1 : 1 ≤ k) (h2 : k ≤ 31) (w : World) : Calls Tryd.prog 41 #[.int .u32 (wi x), .int .i64 (k : Int)] w fun e w' => e = .returned (.int .u32 (wi (ror32 x k))) ∧ ∃ m, w' = w.drewN m := by
  have hv := ror_val x k
  have l1 := wi_lo x
  have l2 := wi_hi x
  have g1 : (1 : Int) ≤ k := by omega
  have g2 : (k : Int) ≤ 31 := by omega
  have HV := Lib.hid hv
  clear hv h1 h2
  go_enter Tryd.func41, Tryd.ntmps41
  go_wp2
  go_quiet (fail)
  go_wp2
  go_ret
  exact ⟨by rw [← HV.out]; rfl, _, rfl⟩
theorem Rot_any (x : UInt32) (k : Nat) (h1 : 1 ≤ k) (h2 : k ≤ 31) (w : World) : Calls Tryd.prog 54 #[.int .u32 (wi x), .int .i64 (-(k : Int))] w fun e w' => e = .returned (.int .u32 (wi (ror32 x k))) ∧ w' = w := by
  have e0 := rot_and ⟨k, by omega⟩ h1
  simp only at e0
  have hv := ror_val' x k
  conv at hv => lhs; rw [show wi x / 2 ^ k = wi x / 2 ^ (32 - (32 - k)) from by rw [show 32 - (32 - k) = k by omega]]
  have l1 := wi_lo x
  have l2 := wi_hi x
  have g1 : (1 : Int) ≤ k := by omega
  have g2 : (k : Int) ≤ 31 := by omega
  have HV := Lib.hid hv
  clear hv h1 h2
  go_enter Tryd.func54, Tryd.ntmps54
  go_wp2
  go_ret
  exact ⟨by rw [← HV.out]; rfl, rfl⟩
theorem Right_any (x : UInt32) (k : Nat) (h1 : 1 ≤ k) (h2 : k ≤ 31) (w : World) : Calls Tryd.prog 49 #[.int .u32 (wi x), .int .i64 (k : Int)] w fun e w' => e = .returned (.int .u32 (wi (ror32 x k))) ∧ w' = w := by
  have H1 := Lib.hid h1
  have H2 := Lib.hid h2
  have g1 : (1 : Int) ≤ k := by omega
  have g2 : (k : Int) ≤ 31 := by omega
  clear h1 h2
  go_enter Tryd.func49, Tryd.ntmps49
  go_wp2_with fail
  refine (Rot_any x k H1.out H2.out _).mono ?_
  rintro r w1 ⟨rfl, rfl⟩
  go_wp2_with fail
  go_ret
  exact ⟨rfl, rfl⟩
end Go.Proofs.YtopjbiccipgnjaaDoor
