/-
  The walk of AddrMay. No conditions but those that the theorem names.
-/
import Derived.Test.YtpgekoicbceliaaCN
namespace Go.Proofs.Ytpgekoicbceliaa
open Go.RowKit Go.Sort Go.Maps
set_option linter.unusedVariables false
set_option linter.unusedSimpArgs false
set_option maxRecDepth 100000
set_option maxHeartbeats 2000000 in
theorem law_may (a b : Ad) (d s : Int) (w : World) : Calls Try.prog 3 #[av a, av b, .int .i64 d, .int .i64 s] w (Yes w) := by
  have m1 : ∀ W, Calls Try.prog 9 #[.agg #[.int .i64 a.1, .int .i64 a.2], .int .i64 d, .int .i64 s] W (fun e w' => e = .returned (.bool (mayB a d s)) ∧ Frm [] W w') := fun W => May_any a d s W
  have m2 : ∀ W, Calls Try.prog 10 #[.agg #[.int .i64 a.1, .int .i64 a.2], .int .i64 d, .int .i64 s] W (fun e w' => e = .returned (.bool (mayB a d s)) ∧ Frm [] W w') := fun W => RefMay_any a d s W
  have l1 : ∀ (x1 x2 y1 y2 : Int) W, Calls Try.prog 11 #[.agg #[.int .i64 x1, .int .i64 x2], .agg #[.int .i64 y1, .int .i64 y2]] W (fun e w' => e = .returned (.bool (ltA (x1, x2) (y1, y2))) ∧ Frm [] W w') := fun x1 x2 y1 y2 W => Less_any (x1, x2) (y1, y2) W
  have l2 : ∀ (x1 x2 y1 y2 : Int) W, Calls Try.prog 12 #[.agg #[.int .i64 x1, .int .i64 x2], .agg #[.int .i64 y1, .int .i64 y2]] W (fun e w' => e = .returned (.bool (ltA (x1, x2) (y1, y2))) ∧ Frm [] W w') := fun x1 x2 y1 y2 W => RefLess_any (x1, x2) (y1, y2) W
  generalize mayB a d s = q0 at *
  have M1 := Lib.hid m1
  have M2 := Lib.hid m2
  have L1 := Lib.hid l1
  have L2 := Lib.hid l2
  clear m1 m2 l1 l2
  unfold av
  go_enter Try.func3, Try.ntmps3
  go_wp2_with fail
  have q0' := heap_alloc_lt (o := .cells #[.int .i64 b.1, .int .i64 b.2] 23) (heap_alloc_new w (.cells #[.int .i64 a.1, .int .i64 a.2] 23))
  have q1' : ((w.alloc (.cells #[.int .i64 a.1, .int .i64 a.2] 23)).alloc (.cells #[.int .i64 b.1, .int .i64 b.2] 23)).heap[w.heap.size + 1]? = some (.cells #[.int .i64 b.1, .int .i64 b.2] 23 (0, 0)) := heap_alloc_at (by simp)
  have f2 : Frm [] w ((w.alloc (.cells #[.int .i64 a.1, .int .i64 a.2] 23)).alloc (.cells #[.int .i64 b.1, .int .i64 b.2] 23)) := ((Frm.refl [] w).alloc _).alloc _
  generalize (w.alloc (.cells #[.int .i64 a.1, .int .i64 a.2] 23)).alloc (.cells #[.int .i64 b.1, .int .i64 b.2] 23) = w2 at *
  have i0 : w2.cell? ⟨w.heap.size, 0, none⟩ = some (.int .i64 a.1) := by rw [cell_of_heap q0']; rfl
  have i1 : w2.cell? ⟨w.heap.size, 1, none⟩ = some (.int .i64 a.2) := by rw [cell_of_heap q0']; rfl
  have i2 : w2.cell? ⟨w.heap.size + 1, 0, none⟩ = some (.int .i64 b.1) := by rw [cell_of_heap q1']; rfl
  have i3 : w2.cell? ⟨w.heap.size + 1, 1, none⟩ = some (.int .i64 b.2) := by rw [cell_of_heap q1']; rfl
  have F2 := Lib.hid f2
  clear q0' q1' f2
  go_region_held3 (fun y => y.cell? ⟨w.heap.size, 0, none⟩ = some (.int .i64 a.1) ∧ y.cell? ⟨w.heap.size, 1, none⟩ = some (.int .i64 a.2) ∧ y.cell? ⟨w.heap.size + 1, 0, none⟩ = some (.int .i64 b.1) ∧ y.cell? ⟨w.heap.size + 1, 1, none⟩ = some (.int .i64 b.2) ∧ Frm [] w y)
    (first | exact ⟨i0, i1, i2, i3, F2.out.drew⟩ | (go_split_ands; exact ⟨f1.cell ‹_› (by simp), f1.cell ‹_› (by simp), f1.cell ‹_› (by simp), f1.cell ‹_› (by simp), (‹Frm [] w _›).trans f1 (by simp)⟩) | go_keep)
    (first | (go_at_call 9; (with_reducible refine (M1.out _).mono ?_); rintro r w1 ⟨rfl, f1⟩) | (go_at_call 10; (with_reducible refine (M2.out _).mono ?_); rintro r w1 ⟨rfl, f1⟩) | (go_at_call 13; (with_reducible refine (awake_any _).mono ?_); rintro r w1 ⟨rfl, f1⟩) | (go_at_call 11; (with_reducible refine (L1.out _ _ _ _ _).mono ?_); rintro r w1 ⟨rfl, f1⟩) | (go_at_call 12; (with_reducible refine (L2.out _ _ _ _ _).mono ?_); rintro r w1 ⟨rfl, f1⟩))
  all_goals
    go_wp2
    go_ret
    rename_i hh
    exact ⟨rfl, hh.2.2.2.2⟩
theorem may_row (a b : Ad) (d s : Int) (w : World) (_ : WfA a) (_ : WfA b) (_ : -9223372036854775808 ≤ d ∧ d ≤ 9223372036854775807) (_ : -9223372036854775808 ≤ s ∧ s ≤ 9223372036854775807) : Calls Try.prog 3 #[.agg #[.int .i64 a.1, .int .i64 a.2], .agg #[.int .i64 b.1, .int .i64 b.2], .int .i64 d, .int .i64 s] w (Yes w) := law_may a b d s w
end Go.Proofs.Ytpgekoicbceliaa
