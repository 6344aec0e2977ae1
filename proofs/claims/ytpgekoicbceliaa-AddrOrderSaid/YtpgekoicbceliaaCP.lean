/-
  The walk of AddrOrder. No conditions but those that the theorem names.
-/
import Derived.Test.YtpgekoicbceliaaCN
namespace Go.Proofs.Ytpgekoicbceliaa
open Go.RowKit Go.Sort Go.Maps
set_option linter.unusedVariables false
set_option linter.unusedSimpArgs false
set_option maxRecDepth 100000
/-- Two addresses, by all that is asked of them. -/
def Ord (a b : Ad) (x y e1 e2 l1 : Bool) : Prop := ltA (a.1, a.2) (b.1, b.2) = x ∧ ltA (b.1, b.2) (a.1, a.2) = y ∧ (a.1 == b.1) = e1 ∧ (a.2 == b.2) = e2 ∧ decide (a.1 < b.1) = l1
theorem ord_all (a b : Ad) : Ord a b true false false (a.2 == b.2) true ∨ Ord a b false true false (a.2 == b.2) false ∨ Ord a b true false true false false ∨ Ord a b false true true false false ∨ Ord a b false false true true false := by
  unfold Ord
  simp only [ltA_iff, ltA_not, beq_iff_eq, beq_eq_false_iff_ne, decide_eq_true_eq, decide_eq_false_iff_not, ne_eq]
  rcases Int.lt_trichotomy a.1 b.1 with h | h | h
  · left; exact ⟨by omega, by omega, by omega, trivial, h⟩
  · rcases Int.lt_trichotomy a.2 b.2 with g | g | g
    · right; right; left; exact ⟨by omega, by omega, h, by omega, by omega⟩
    · right; right; right; right; exact ⟨by omega, by omega, h, g, by omega⟩
    · right; right; right; left; exact ⟨by omega, by omega, h, by omega, by omega⟩
  · right; left; exact ⟨by omega, by omega, by omega, trivial, by omega⟩
set_option maxHeartbeats 4000000 in
theorem order_walk (a b c : Ad) (x y e1 e2 l1 p q : Bool) (w : World) (h : Ord a b x y e1 e2 l1) (hp : ltA (b.1, b.2) (c.1, c.2) = p) (hq : ltA (a.1, a.2) (c.1, c.2) = q)
    (hk : (x = true ∧ y = false ∧ e1 = false ∧ l1 = true) ∨ (x = false ∧ y = true ∧ e1 = false ∧ l1 = false) ∨ (x = true ∧ y = false ∧ e1 = true ∧ e2 = false ∧ l1 = false) ∨ (x = false ∧ y = true ∧ e1 = true ∧ e2 = false ∧ l1 = false) ∨ (x = false ∧ y = false ∧ e1 = true ∧ e2 = true ∧ l1 = false))
    (hpq : x = true → p = true → q = true) : Calls Try.prog 7 #[av a, av b, av c] w (Yes w) := by
  obtain ⟨g1, g2, g3, g4, g5⟩ := h
  have l1' : ∀ (x1 x2 y1 y2 : Int) W, Calls Try.prog 11 #[.agg #[.int .i64 x1, .int .i64 x2], .agg #[.int .i64 y1, .int .i64 y2]] W (fun e w' => e = .returned (.bool (ltA (x1, x2) (y1, y2))) ∧ Frm [] W w') := fun x1 x2 y1 y2 W => Less_any (x1, x2) (y1, y2) W
  have g0 : ltA (a.1, a.2) (a.1, a.2) = false := ltA_irrefl _
  have L1 := Lib.hid l1'
  clear l1'
  unfold av
  go_enter Try.func7, Try.ntmps7
  go_wp2_with fail
  have q0' := heap_alloc_lt (o := .cells #[.int .i64 c.1, .int .i64 c.2] 23) (heap_alloc_lt (o := .cells #[.int .i64 b.1, .int .i64 b.2] 23) (heap_alloc_new w (.cells #[.int .i64 a.1, .int .i64 a.2] 23)))
  have q1' : (((w.alloc (.cells #[.int .i64 a.1, .int .i64 a.2] 23)).alloc (.cells #[.int .i64 b.1, .int .i64 b.2] 23)).alloc (.cells #[.int .i64 c.1, .int .i64 c.2] 23)).heap[w.heap.size + 1]? = some (.cells #[.int .i64 b.1, .int .i64 b.2] 23 (0, 0)) := heap_alloc_lt (heap_alloc_at (by simp))
  have q2' : (((w.alloc (.cells #[.int .i64 a.1, .int .i64 a.2] 23)).alloc (.cells #[.int .i64 b.1, .int .i64 b.2] 23)).alloc (.cells #[.int .i64 c.1, .int .i64 c.2] 23)).heap[w.heap.size + 1 + 1]? = some (.cells #[.int .i64 c.1, .int .i64 c.2] 23 (0, 0)) := heap_alloc_at (by simp)
  have f2 : Frm [] w (((w.alloc (.cells #[.int .i64 a.1, .int .i64 a.2] 23)).alloc (.cells #[.int .i64 b.1, .int .i64 b.2] 23)).alloc (.cells #[.int .i64 c.1, .int .i64 c.2] 23)) := (((Frm.refl [] w).alloc _).alloc _).alloc _
  generalize ((w.alloc (.cells #[.int .i64 a.1, .int .i64 a.2] 23)).alloc (.cells #[.int .i64 b.1, .int .i64 b.2] 23)).alloc (.cells #[.int .i64 c.1, .int .i64 c.2] 23) = w2 at *
  have i0 : w2.cell? ⟨w.heap.size, 0, none⟩ = some (.int .i64 a.1) := by rw [cell_of_heap q0']; rfl
  have i1 : w2.cell? ⟨w.heap.size, 1, none⟩ = some (.int .i64 a.2) := by rw [cell_of_heap q0']; rfl
  have i2 : w2.cell? ⟨w.heap.size + 1, 0, none⟩ = some (.int .i64 b.1) := by rw [cell_of_heap q1']; rfl
  have i3 : w2.cell? ⟨w.heap.size + 1, 1, none⟩ = some (.int .i64 b.2) := by rw [cell_of_heap q1']; rfl
  have i4 : w2.cell? ⟨w.heap.size + 1 + 1, 0, none⟩ = some (.int .i64 c.1) := by rw [cell_of_heap q2']; rfl
  have i5 : w2.cell? ⟨w.heap.size + 1 + 1, 1, none⟩ = some (.int .i64 c.2) := by rw [cell_of_heap q2']; rfl
  clear q0' q1' q2'
  refine (awake_any _).mono ?_
  rintro r w3 ⟨rfl, f3⟩
  have j0 := f3.cell i0 (by simp)
  have j1 := f3.cell i1 (by simp)
  have j2 := f3.cell i2 (by simp)
  have j3 := f3.cell i3 (by simp)
  have j4 := f3.cell i4 (by simp)
  have j5 := f3.cell i5 (by simp)
  have F3 := Lib.hid (f2.trans f3 (by simp))
  clear i0 i1 i2 i3 i4 i5 f2 f3
  go_wp2_with fail
  go_region_held3 (fun y => y.cell? ⟨w.heap.size, 0, none⟩ = some (.int .i64 a.1) ∧ y.cell? ⟨w.heap.size, 1, none⟩ = some (.int .i64 a.2) ∧ y.cell? ⟨w.heap.size + 1, 0, none⟩ = some (.int .i64 b.1) ∧ y.cell? ⟨w.heap.size + 1, 1, none⟩ = some (.int .i64 b.2) ∧ y.cell? ⟨w.heap.size + 1 + 1, 0, none⟩ = some (.int .i64 c.1) ∧ y.cell? ⟨w.heap.size + 1 + 1, 1, none⟩ = some (.int .i64 c.2) ∧ Frm [] w y)
    (first | exact ⟨j0, j1, j2, j3, j4, j5, F3.out.drew⟩ | (go_split_ands; exact ⟨f1.cell ‹_› (by simp), f1.cell ‹_› (by simp), f1.cell ‹_› (by simp), f1.cell ‹_› (by simp), f1.cell ‹_› (by simp), f1.cell ‹_› (by simp), (‹Frm [] w _›).trans f1 (by simp)⟩) | go_keep)
    (first | (go_at_call 11; (with_reducible refine (L1.out _ _ _ _ _).mono ?_); rintro r w1 ⟨rfl, f1⟩))
  rename_i hh
  obtain ⟨k0, k1, k2, k3, k4, k5, FW⟩ := hh
  have L2 := L1
  clear j0 j1 j2 j3 j4 j5
  rcases hk with ⟨rfl, rfl, rfl, rfl⟩ | ⟨rfl, rfl, rfl, rfl⟩ | ⟨rfl, rfl, rfl, rfl, rfl⟩ | ⟨rfl, rfl, rfl, rfl, rfl⟩ | ⟨rfl, rfl, rfl, rfl, rfl⟩
  all_goals
    cases p <;> cases q
    all_goals first
      | exact absurd (hpq rfl rfl) (by decide)
      | (clear hpq
         go_wp2_with (go_at_call 11; (with_reducible refine (L2.out _ _ _ _ _).mono ?_); rintro r w9 ⟨rfl, f9⟩; have k0 := f9.cell k0 (by simp); have k1 := f9.cell k1 (by simp); have k2 := f9.cell k2 (by simp); have k3 := f9.cell k3 (by simp); have FW := FW.trans f9 (by simp))
         go_ret
         exact ⟨rfl, FW⟩)
theorem order_row (a b c : Ad) (w : World) (_ : WfA a) (_ : WfA b) (_ : WfA c) : Calls Try.prog 7 #[.agg #[.int .i64 a.1, .int .i64 a.2], .agg #[.int .i64 b.1, .int .i64 b.2], .agg #[.int .i64 c.1, .int .i64 c.2]] w (Yes w) := by
  have hpq : ltA (a.1, a.2) (b.1, b.2) = true → ltA (b.1, b.2) (c.1, c.2) = true → ltA (a.1, a.2) (c.1, c.2) = true := fun h1 h2 => ltA_trans h1 h2
  rcases ord_all a b with h | h | h | h | h
  all_goals
    refine order_walk a b c _ _ _ _ _ _ _ w h rfl rfl (by simp) (fun h1 h2 => hpq ?_ h2)
    have := h.1
    first | exact this | (exact absurd h1 (by decide))
end Go.Proofs.Ytpgekoicbceliaa
