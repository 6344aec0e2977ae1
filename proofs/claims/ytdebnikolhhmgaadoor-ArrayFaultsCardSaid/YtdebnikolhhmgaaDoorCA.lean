/-
  ArrayFaults: what each call answers, in numbers. No conditions but those that each theorem names.
-/
import Derived.Test.YtdebnikolhhmgaaDoorBX
import Derived.Test.YtdebnikolhhmgaaDoorBU
namespace Go.Proofs.YtdebnikolhhmgaaDoor
open Go.RowKit
set_option linter.unusedVariables false
set_option linter.unusedSimpArgs false
set_option maxRecDepth 100000

open Kr (OwnE SlE Enco RowTys)
def zz1 (b : UInt8) (i : Nat) : St := (wrR (newS 8 2) 0 i (ofL b)).2
def zz2 (b : UInt8) (i : Nat) : St := (loR (zz1 b i) 0).2
def zz3 (b c : UInt8) (i : Nat) : St := (wrR (zz2 b i) 0 i (ofL c)).2
def zz4 (b c : UInt8) (i j : Nat) : St := (stR (zz3 b c i) 0 j).2
def zz5 (b c : UInt8) (i j : Nat) : St := (wrR (zz4 b c i j) 0 i (ofL c)).2
def zz6 (b c : UInt8) (i j : Nat) : St := (wrR (zz5 b c i j) 0 i (ofL b)).2
/-- So many reads fail. -/
def zzF (b c : UInt8) (i j : Nat) (f : Nat) (m : Int) : St := setD (zz6 b c i j) 0 fun q => { q with f := f, fl := m }
structure Fx (b c : UInt8) (i j : Nat) : Prop where
  e1 : (wrR (newS 8 2) 0 i (ofL b)).1 = 0
  e2 : (loR (zz1 b i) 0).1 = 0
  e3 : (wrR (zz2 b i) 0 i (ofL c)).1 = 0
  k3 : pkR (zz3 b c i) 0 i = none
  t3 : tellAt (zz3 b c i) 0 i = ofL b
  l3 : ((zz3 b c i).row.length : Int) = 1
  e4 : (stR (zz3 b c i) 0 j).1 = 0
  e5 : (wrR (zz4 b c i j) 0 i (ofL c)).1 = 0
  k5 : pkR (zz5 b c i j) 0 j = none
  t5 : tellAt (zz5 b c i j) 0 j = ofL c
  n5 : i = j ∨ (pkR (zz5 b c i j) 0 i = none ∧ tellAt (zz5 b c i j) 0 i = ofL b)
  e6 : (wrR (zz5 b c i j) 0 i (ofL b)).1 = 0
  k6 : pkR (zz6 b c i j) 0 i = none
  t6 : tellAt (zz6 b c i j) 0 i = ofL b
  d6 : nD (zz6 b c i j) 0 = none ∧ nT (zz6 b c i j) 0 = none
  f6 : ∀ m, setD (zz6 b c i j) 0 (fun q => failD q m) = zzF b c i j (failF 0 m) m
  rF : ∀ m, rdR (zzF b c i j 8 m) 0 i = (some 5, zzF b c i j (failF 8 (m - 1)) (m - 1))
  kF : ∀ m, pkR (zzF b c i j 8 m) 0 i = none
  tF : ∀ m, tellAt (zzF b c i j 8 m) 0 i = ofL b
  k0 : ∀ m, pkR (zzF b c i j 0 m) 0 i = none
  t0 : ∀ m, tellAt (zzF b c i j 0 m) 0 i = ofL b
  r0 : ∀ m, rdR (zzF b c i j 0 m) 0 i = (none, zzF b c i j 0 m)
  n0 : i = j ∨ ∀ m, (rdR (zzF b c i j 0 m) 0 j = (none, zzF b c i j 0 m) ∧ tellAt (zzF b c i j 0 m) 0 j = ofL c)
set_option maxHeartbeats 0 in
theorem fx (b c : UInt8) : ∀ i, i < 8 → ∀ j, j < 8 → Fx b c i j := by
  intro i hi j hj
  have h1 : i = 0 ∨ i = 1 ∨ i = 2 ∨ i = 3 ∨ i = 4 ∨ i = 5 ∨ i = 6 ∨ i = 7 := by omega
  have h2 : j = 0 ∨ j = 1 ∨ j = 2 ∨ j = 3 ∨ j = 4 ∨ j = 5 ∨ j = 6 ∨ j = 7 := by omega
  clear hi hj
  rcases h1 with rfl | rfl | rfl | rfl | rfl | rfl | rfl | rfl <;> rcases h2 with rfl | rfl | rfl | rfl | rfl | rfl | rfl | rfl <;> constructor <;>
    first | kernel_rfl | (intro m; kernel_rfl) | exact Or.inl rfl | exact ⟨by kernel_rfl, by kernel_rfl⟩ | exact Or.inr ⟨by kernel_rfl, by kernel_rfl⟩ | exact Or.inr fun m => ⟨by kernel_rfl, by kernel_rfl⟩
end Go.Proofs.YtdebnikolhhmgaaDoor

