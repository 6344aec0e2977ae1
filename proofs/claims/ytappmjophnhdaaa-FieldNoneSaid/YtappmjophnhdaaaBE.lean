/-
  Contracts of readers that are none; no conditions but those that each theorem names.
-/
import Derived.Test.YtappmjophnhdaaaV
namespace Go.Proofs.Ytappmjophnhdaaa
open Go.RowKit
set_option linter.unusedVariables false
set_option linter.unusedSimpArgs false

theorem runless_none (a : Option Addr) (K : Value) (w : World) (h : WNone w a) : Calls Try.prog 55 #[.pointer a, K] w fun r w' => r = .returned (.tuple #[]) ∧ Frm [] w w' :=
  uf_none a K w fun w1 f1 => rmade a w1 (h.keep f1)
theorem RNum_none (a : Option Addr) (n m k : Int) (w : World) (h : WNone w a) : Calls Try.prog 30 #[.pointer a, .int .i64 n, .int .i64 m, .int .i64 k] w fun r w' => r = .returned (.int .i64 0) ∧ Frm [] w w' := by
  have f5 : ∀ x y z u v, Frm [] w (((((w.alloc x).alloc y).alloc z).alloc u).alloc v) := fun x y z u v => (((((Frm.refl [] w).alloc _).alloc _).alloc _).alloc _).alloc _
  go_enter Try.func30, Try.ntmps30
  go_wp2_with fail
  refine (runless_none a _ _ (h.keep (f5 _ _ _ _ _))).mono ?_
  rintro r w' ⟨rfl, f⟩
  have c0 := f.cell (p := ⟨w.heap.size + 4, 0, none⟩) (v := .int .i64 0) (by simp [go_sem]) (by simp)
  go_wp2
  go_ret
  exact ⟨rfl, (f5 _ _ _ _ _).trans f (by simp)⟩
theorem RText_none (a : Option Addr) (n : Int) (w : World) (h : WNone w a) : Calls Try.prog 31 #[.pointer a, .int .i64 n] w fun r w' => r = .returned (.string ByteArray.empty) ∧ Frm [] w w' := by
  have f3 : ∀ x y z, Frm [] w (((w.alloc x).alloc y).alloc z) := fun x y z => (((Frm.refl [] w).alloc _).alloc _).alloc _
  go_enter Try.func31, Try.ntmps31
  go_wp2_with fail
  refine (runless_none a _ _ (h.keep (f3 _ _ _))).mono ?_
  rintro r w' ⟨rfl, f⟩
  have c0 := f.cell (p := ⟨w.heap.size + 2, 0, none⟩) (v := .string ByteArray.empty) (by simp [go_sem]; rfl) (by simp)
  go_wp2
  go_ret
  exact ⟨rfl, (f3 _ _ _).trans f (by simp)⟩
theorem RRaw_none (a : Option Addr) (n : Int) (w : World) (h : WNone w a) : Calls Try.prog 32 #[.pointer a, .int .i64 n] w fun r w' => r = .returned (.slice none 0 0) ∧ Frm [] w w' := by
  have f3 : ∀ x y z, Frm [] w (((w.alloc x).alloc y).alloc z) := fun x y z => (((Frm.refl [] w).alloc _).alloc _).alloc _
  go_enter Try.func32, Try.ntmps32
  go_wp2_with fail
  refine (runless_none a _ _ (h.keep (f3 _ _ _))).mono ?_
  rintro r w' ⟨rfl, f⟩
  have c0 := f.cell (p := ⟨w.heap.size + 2, 0, none⟩) (v := .slice none 0 0) (by simp [go_sem]) (by simp)
  go_wp2
  go_ret
  exact ⟨rfl, (f3 _ _ _).trans f (by simp)⟩
theorem RRest_none (a : Option Addr) (w : World) (h : WNone w a) : Calls Try.prog 33 #[.pointer a] w fun r w' => r = .returned (.tuple #[]) ∧ Frm [] w w' := by
  have f1 : ∀ x, Frm [] w (w.alloc x) := fun x => (Frm.refl [] w).alloc _
  go_enter Try.func33, Try.ntmps33
  go_wp2_with fail
  refine (runless_none a _ _ (h.keep (f1 _))).mono ?_
  rintro r w' ⟨rfl, f⟩
  go_wp2
  go_end0
  exact ⟨rfl, (f1 _).trans f (by simp)⟩
theorem RAt_none (a : Option Addr) (w : World) (h : WNone w a) : Calls Try.prog 23 #[.pointer a] w fun r w' => r = .returned (.int .i64 0) ∧ w' = w := by
  go_enter Try.func23, Try.ntmps23
  go_wp2_with fail
  refine (rmade a _ h).mono ?_
  rintro r w' ⟨rfl, hw⟩
  subst hw
  go_wp2
  go_ret
  exact ⟨rfl, rfl⟩
theorem RLeft_none (a : Option Addr) (w : World) (h : WNone w a) : Calls Try.prog 24 #[.pointer a] w fun r w' => r = .returned (.int .i64 0) ∧ w' = w := by
  go_enter Try.func24, Try.ntmps24
  go_wp2_with fail
  refine (rmade a _ h).mono ?_
  rintro r w' ⟨rfl, hw⟩
  subst hw
  go_wp2
  go_ret
  exact ⟨rfl, rfl⟩
end Go.Proofs.Ytappmjophnhdaaa
