/-
  Rows of extents and of numbers. No conditions but those that each law names.
-/
import Derived.Test.YtgbgpmdhlocjhaaKR
import Derived.Test.YtgbgpmdhlocjhaaPX
import Derived.Test.YtgbgpmdhlocjhaaChecked
import Derived.Lib.Hide
import Derived.StillTailTactics
import Derived.WalkHide
import Derived.Deep.RegionHeld3
import Derived.Deep.RegionLaw
import Derived.Deep.RegionWith
import Derived.Deep.MidRow
import Derived.Deep.CutBlock
import Derived.Deep.DeepCutAuto
import Derived.Deep.QuietTactic
import Derived.Deep.Slices
import Derived.OrdersHeld
import Derived.OpenShut
import Derived.BigQuiet
namespace Go.Proofs.Ytgbgpmdhlocjhaa
open Go.RowKit
set_option linter.unusedVariables false
set_option linter.unusedSimpArgs false

def eE (x : Ex) : List Value := [.int .i64 x.1, .int .i64 x.2]
def ev (x : Ex) : Value := .agg #[.int .i64 x.1, .int .i64 x.2]
theorem encE : Enco eE 2 := ⟨fun _ => rfl, fun x u hu => by simp [eE] at hu; rcases hu with rfl | rfl <;> rfl, by omega, fun x y h => by
  simp only [eE, List.cons.injEq, Value.int.injEq, true_and, and_true] at h
  exact Prod.ext h.1 h.2⟩
def iE (n : Int) : List Value := [.int .i64 n]
theorem encI : Enco iE 1 := ⟨fun _ => rfl, fun x u hu => by simp [iE] at hu; subst hu; rfl, by omega, fun x y h => by
  simp only [iE, List.cons.injEq, Value.int.injEq, true_and, and_true] at h
  exact h⟩
/-- Extents: owned; readable. -/
abbrev OwnX (w : World) (v : Value) (l : List Ex) (sp : List Value) : Prop := OwnE eE 2 47 w v l sp
abbrev SlX (w : World) (v : Value) (l : List Ex) (sp : List Value) : Prop := SlE eE 2 w v l sp
/-- Numbers. -/
abbrev OwnI (w : World) (v : Value) (l : List Int) (sp : List Value) : Prop := OwnE iE 1 3 w v l sp
abbrev SlI (w : World) (v : Value) (l : List Int) (sp : List Value) : Prop := SlE iE 1 w v l sp
theorem cellsX {w : World} {b off n cap : Nat} {l : List Ex} {sp : List Value} (h : SlX w (.slice (some ⟨b, off, none⟩) n cap) l sp) (i : Nat) (hi : i < l.length) :
    w.cell? ⟨b, off + i * 2, none⟩ = some (.int .i64 l[i].1) ∧ w.cell? ⟨b, off + i * 2 + 1, none⟩ = some (.int .i64 l[i].2) :=
  ⟨SlE.cell encE h i hi 0 rfl, by rw [Nat.add_assoc]; exact SlE.cell encE h i hi 1 rfl⟩
theorem cellI {w : World} {b off n cap : Nat} {l : List Int} {sp : List Value} (h : SlI w (.slice (some ⟨b, off, none⟩) n cap) l sp) (i : Nat) (hi : i < l.length) :
    w.cell? ⟨b, off + i, none⟩ = some (.int .i64 l[i]) := by
  have := SlE.cell encI h i hi 0 rfl
  simpa using this
theorem tysX : RowTys Try.prog 22 47 2 16 := ⟨Try.underlying22, .agg #[.int .i64 0, .int .i64 0], rfl, by kernel_rfl⟩
theorem tysI : RowTys Try.prog 23 3 1 8 := ⟨Try.underlying23, .int .i64 0, rfl, by kernel_rfl⟩
/-- Lists that the call has made: what they tell, and that nothing that was there has changed. -/
def ToldX (w : World) (l : List Ex) (c : Int) (e : Ending) (w' : World) : Prop := ∃ v sp, e = .returned (.tuple #[v, .int .i64 c]) ∧ OwnX w' v l sp ∧ Frm [] w w' ∧ ∀ i ∈ blk v, w.heap.size ≤ i
def ToldI (w : World) (l : List Int) (c : Int) (e : Ending) (w' : World) : Prop := ∃ v sp, e = .returned (.tuple #[v, .int .i64 c]) ∧ OwnI w' v l sp ∧ Frm [] w w' ∧ ∀ i ∈ blk v, w.heap.size ≤ i
end Go.Proofs.Ytgbgpmdhlocjhaa
