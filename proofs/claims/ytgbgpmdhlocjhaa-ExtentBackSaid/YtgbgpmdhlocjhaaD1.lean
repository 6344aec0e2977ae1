/-
  Contracts of cmp.isNaN, cmp.Compare, and of the comparison of two edges; what an edge lies as. No conditions but those that each theorem names.
-/
import Derived.Test.YtgbgpmdhlocjhaaC3
import Derived.Shelf.SlSortCmp.KitK
import Derived.Lib.Small
namespace Go.Proofs.Ytgbgpmdhlocjhaa
open Go.RowKit Go.Sort
set_option linter.unusedVariables false
set_option linter.unusedSimpArgs false
set_option maxRecDepth 100000

/-- An edge: where it is, of which list, whether a run begins there. -/
abbrev Ed := Int × Int × Bool
def eD (x : Ed) : List Value := [.int .i64 x.1, .int .i64 x.2.1, .bool x.2.2]
def dv (x : Ed) : Value := .agg #[.int .i64 x.1, .int .i64 x.2.1, .bool x.2.2]
theorem encD : Enco eD 3 := ⟨fun _ => rfl, fun x u hu => by simp [eD] at hu; rcases hu with rfl | rfl | rfl <;> rfl, by omega, fun x y h => by
  simp only [eD, List.cons.injEq, Value.int.injEq, Value.bool.injEq, true_and, and_true] at h
  exact Prod.ext h.1 (Prod.ext h.2.1 h.2.2)⟩
abbrev OwnD (w : World) (v : Value) (l : List Ed) (sp : List Value) : Prop := OwnE eD 3 65 w v l sp
theorem tysD : RowTys Try.prog 61 65 3 24 := ⟨Try.underlying61, .agg #[.int .i64 0, .int .i64 0, .bool false], rfl, by kernel_rfl⟩
theorem isNaN_any (x : Int) (w : World) : Calls Try.prog 57 #[.int .i64 x] w fun e w' => e = .returned (.bool false) ∧ w' = w := by
  go_enter Try.func57, Try.ntmps57
  go_wp2
  go_ret
  exact ⟨by simp, rfl⟩
set_option maxHeartbeats 1000000 in
theorem Compare_any (x y : Int) (w : World) : Calls Try.prog 55 #[.int .i64 x, .int .i64 y] w fun e w' => e = .returned (.int .i64 (Lib.compareInt x y)) ∧ w' = w := by
  go_enter Try.func55, Try.ntmps55
  go_wp2_with (go_at_call 57; refine (isNaN_any _ _).mono ?_; rintro e w' ⟨rfl, hw⟩; rw [hw])
  all_goals (go_ret; refine ⟨?_, rfl⟩; unfold Lib.compareInt; (repeat' split) <;> first | rfl | (exfalso; omega))
def cfD (x y : Ed) : Int := Lib.compareInt x.1 y.1
def ltD (x y : Ed) : Bool := decide (x.1 < y.1)
theorem ltOf_cfD : ltOf cfD = ltD := by
  funext x y
  unfold ltOf cfD Lib.compareInt ltD
  rw [Bool.eq_iff_iff]
  simp only [decide_eq_true_eq]
  (repeat' split) <;> omega
theorem swoD : SWO ltD := ⟨fun x => by simp [ltD], fun x y z h1 h2 => by simp only [ltD, decide_eq_true_eq] at *; omega, fun x y z h1 h2 => by simp only [ltD, decide_eq_false_iff_not] at *; omega⟩
set_option maxHeartbeats 1000000 in
theorem cmpD_any (x y : Ed) (w : World) : Calls Try.prog 54 #[dv x, dv y] w fun e w' => e = .returned (.int .i64 (cfD x y)) ∧ ∃ q os', w' = grow (w.drewN q) os' := by
  have HC := Lib.hid (fun W => Compare_any x.1 y.1 W)
  unfold cfD
  generalize Lib.compareInt x.1 y.1 = c at *
  unfold dv
  go_enter Try.func54, Try.ntmps54
  go_wp2_with (go_at_call 55; refine (HC.out _).mono ?_; rintro e w' ⟨rfl, rfl⟩)
  go_ret
  exact ⟨rfl, 0, _, by rw [alloc_eq_grow, alloc_eq_grow, grow_grow]; rfl⟩
end Go.Proofs.Ytgbgpmdhlocjhaa
