/-
  Contract of Pick; no conditions but those that the theorem names.
-/
import Derived.Test.YtopjbiccipgnjaaDoorSA
namespace Go.Proofs.YtopjbiccipgnjaaDoor
open Go.RowKit
set_option linter.unusedVariables false
set_option linter.unusedSimpArgs false
set_option maxRecDepth 100000

set_option maxHeartbeats 1000000 in
theorem Pick_any (n : Int) (k : Nat) (hk : 1 ≤ k) (hk2 : k ≤ 1000000) (hn : -9223372036854775808 ≤ n ∧ n ≤ 9223372036854775807) (w : World) :
    Calls Tryd.prog 30 #[.int .i64 n, .int .i64 (k : Int)] w fun r w' => ∃ j : Nat, j < k ∧ r = .returned (.int .i64 (j : Int)) ∧ Frm [] w w' := by
  have h1 : -(k : Int) < n.tmod k := by
    rcases Int.le_total 0 n with h | h
    · have := Int.tmod_nonneg (k : Int) h; omega
    · have h3 := Int.tmod_nonneg (k : Int) (a := -n) (by omega)
      have h4 := Int.tmod_lt_of_pos (-n) (b := (k : Int)) (by omega)
      rw [Int.neg_tmod] at h3 h4
      omega
  have h2 : n.tmod k < (k : Int) := Int.tmod_lt_of_pos n (by omega)
  have hk9 : (k : Int) ≤ 1000000 := by omega
  have hk1 : (1 : Int) ≤ (k : Int) := by omega
  have hk0 : ((k : Int) == 0) = false := by simp; omega
  have hw : IntKind.i64.wrap (n.tmod k) = n.tmod k := IntWalk.i64_in _ (by omega)
  generalize hm : n.tmod k = m at *
  go_enter Tryd.func30, Tryd.ntmps30
  by_cases hneg : m < 0
  · go_wp2_with fail
    go_ret
    refine ⟨(m + k).toNat, by omega, ?_, ?_⟩
    · rw [Int.toNat_of_nonneg (by omega)]; rfl
    · exact Frm.refl _ _
  · go_wp2_with fail
    go_ret
    refine ⟨m.toNat, by omega, ?_, ?_⟩
    · rw [Int.toNat_of_nonneg (by omega)]; rfl
    · exact Frm.refl _ _
end Go.Proofs.YtopjbiccipgnjaaDoor
