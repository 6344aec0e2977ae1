/-
  Contracts of demand, demandWithin and demandMay: which pointers may be. No conditions but those that each theorem names.
-/
import Derived.Test.YtjjcjocomanohaaPA
import Derived.Defers
import Derived.Recover
namespace Go.Proofs.Ytjjcjocomanohaa
open Go.RowKit
set_option linter.unusedVariables false
set_option linter.unusedSimpArgs false
set_option maxRecDepth 100000

def GaveUp (err at' : Int) : Ending := .panicked [{ v := .iface 85 (.agg #[.int .i64 err, .int .i64 at']), recovered := false }]
theorem demand_yes (e at' : Int) (w : World) :
    Calls Try.prog 60 #[.bool true, .int .i64 e, .int .i64 at'] w fun r w' => r = .returned (.tuple #[]) ∧ w' = w := by
  go_enter Try.func60, Try.ntmps60
  go_wp2
  go_end0
  exact ⟨rfl, rfl⟩
theorem demand_no (e at' : Int) (w : World) :
    Calls Try.prog 60 #[.bool false, .int .i64 e, .int .i64 at'] w fun r w' => r = GaveUp e at' ∧ w' = w := by
  go_enter Try.func60, Try.ntmps60
  go_wp2
  exact ⟨rfl, rfl, rfl⟩
/-- Goes on if it holds, else gives up. -/
def Asks (p : Prop) (e : Ending) : Prop := e = .returned (.tuple #[]) ∧ p ∨ e = GaveUp 2 0 ∧ ¬ p
theorem demand_any (b : Bool) (w : World) : Calls Try.prog 60 #[.bool b, .int .i64 2, .int .i64 0] w fun r w' => Asks (b = true) r ∧ w' = w := by
  cases b
  · exact (demand_no _ _ _).mono fun r w' h => ⟨.inr ⟨h.1, by simp⟩, h.2⟩
  · exact (demand_yes _ _ _).mono fun r w' h => ⟨.inl ⟨h.1, rfl⟩, h.2⟩
theorem within_any (n lo hi : Int) (w : World) : Calls Try.prog 73 #[.int .i64 n, .int .i64 lo, .int .i64 hi] w fun r w' => Asks (lo ≤ n ∧ n ≤ hi) r ∧ w' = w := by
  by_cases h1 : lo ≤ n
  · by_cases h2 : n ≤ hi
    · go_enter Try.func73, Try.ntmps73
      go_wp2_with (go_at_call 60; refine (demand_yes _ _ _).mono ?_; rintro r w' ⟨rfl, rfl⟩)
      go_end0
      exact ⟨.inl ⟨rfl, h1, h2⟩, rfl⟩
    · go_enter Try.func73, Try.ntmps73
      go_wp2_with (go_at_call 60; refine (demand_no _ _ _).mono ?_; rintro r w' ⟨rfl, rfl⟩; unfold GaveUp)
      exact ⟨rfl, Or.inr ⟨rfl, fun h => by omega⟩, rfl⟩
  · go_enter Try.func73, Try.ntmps73
    go_wp2_with (go_at_call 60; refine (demand_no _ _ _).mono ?_; rintro r w' ⟨rfl, rfl⟩; unfold GaveUp)
    exact ⟨rfl, Or.inr ⟨rfl, fun h => by omega⟩, rfl⟩
end Go.Proofs.Ytjjcjocomanohaa
