/-
  Rows of extents and of numbers. No conditions but those that each law names.
-/
import Derived.Test.YtojchfpfemofkaaKR
import Derived.Test.YtojchfpfemofkaaPL
import Derived.Test.YtojchfpfemofkaaChecked
import Derived.Lib.Hide
import Derived.StillTailTactics
import Derived.WalkHide
import Derived.Deep.RegionHeld3
import Derived.Deep.RegionLaw
import Derived.Deep.RegionWith
import Derived.Deep.MidRow
import Derived.Deep.CutBlock
import Derived.Deep.DeepCutAuto
import Derived.Deep.QuietTactic
import Derived.Deep.Slices
import Derived.OrdersHeld
import Derived.OpenShut
import Derived.BigQuiet
namespace Go.Proofs.Ytojchfpfemofkaa
open Go.RowKit
set_option linter.unusedVariables false
set_option linter.unusedSimpArgs false

def iE (n : Int) : List Value := [.int .i64 n]
theorem encI : Enco iE 1 := ⟨fun _ => rfl, fun x u hu => by simp [iE] at hu; subst hu; rfl, by omega, fun x y h => by
  simp only [iE, List.cons.injEq, Value.int.injEq, true_and, and_true] at h
  exact h⟩
/-- Numbers. -/
abbrev OwnI (w : World) (v : Value) (l : List Int) (sp : List Value) : Prop := OwnE iE 1 3 w v l sp
abbrev SlI (w : World) (v : Value) (l : List Int) (sp : List Value) : Prop := SlE iE 1 w v l sp
theorem cellI {w : World} {b off n cap : Nat} {l : List Int} {sp : List Value} (h : SlI w (.slice (some ⟨b, off, none⟩) n cap) l sp) (i : Nat) (hi : i < l.length) :
    w.cell? ⟨b, off + i, none⟩ = some (.int .i64 l[i]) := by
  have := SlE.cell encI h i hi 0 rfl
  simpa using this
theorem tysI : RowTys Try.prog 22 3 1 8 := ⟨Try.underlying22, .int .i64 0, rfl, by kernel_rfl⟩
/-- Bools. -/
def bE (b : Bool) : List Value := [.bool b]
theorem encB : Enco bE 1 := ⟨fun _ => rfl, fun x u hu => by simp [bE] at hu; subst hu; rfl, by omega, fun x y h => by
  simp only [bE, List.cons.injEq, Value.bool.injEq, true_and, and_true] at h
  exact h⟩
abbrev OwnO (w : World) (v : Value) (l : List Bool) (sp : List Value) : Prop := OwnE bE 1 4 w v l sp
abbrev SlO (w : World) (v : Value) (l : List Bool) (sp : List Value) : Prop := SlE bE 1 w v l sp
theorem cellO {w : World} {b off n cap : Nat} {l : List Bool} {sp : List Value} (h : SlO w (.slice (some ⟨b, off, none⟩) n cap) l sp) (i : Nat) (hi : i < l.length) :
    w.cell? ⟨b, off + i, none⟩ = some (.bool l[i]) := by
  have := SlE.cell encB h i hi 0 rfl
  simpa using this
theorem tysO : RowTys Try.prog 23 4 1 1 := ⟨Try.underlying23, .bool false, rfl, by kernel_rfl⟩
/-- Numbers of devices, as a list. -/
def cz (l : List Nat) : List Int := l.map fun (n : Nat) => (n : Int)
theorem cz_length (l : List Nat) : (cz l).length = l.length := by simp [cz]
theorem cz_get (l : List Nat) (i : Nat) (h : i < l.length) : (cz l)[i]'(by rw [cz_length]; exact h) = (l[i] : Int) := by simp [cz]
theorem cz_append (l m : List Nat) : cz (l ++ m) = cz l ++ cz m := by simp [cz]
/-- A list that the call has made: what it tells, and that nothing that was there has changed. -/
def ToldI (w : World) (l : List Int) (c : Int) (e : Ending) (w' : World) : Prop := ∃ v sp, e = .returned (.tuple #[v, .int .i64 c]) ∧ OwnI w' v l sp ∧ Frm [] w w' ∧ ∀ i ∈ blk v, w.heap.size ≤ i
end Go.Proofs.Ytojchfpfemofkaa
