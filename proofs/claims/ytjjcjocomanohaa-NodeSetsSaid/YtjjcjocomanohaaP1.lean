/-
  Pointers as values and in blocks; contracts of sameBlock, nowhere. No conditions but those that each theorem names.
-/
import Derived.Test.YtjjcjocomanohaaB0
namespace Go.Proofs.Ytjjcjocomanohaa
open Go.RowKit
set_option linter.unusedVariables false
set_option linter.unusedSimpArgs false
set_option maxRecDepth 100000

theorem ret_bool {a b : Bool} (h : a = b) : Ending.returned (.bool a) = .returned (.bool b) := by rw [h]
def pc (v : Value) (b l : Int) (s : List UInt8) : List Value := v :: .int .i64 b :: .int .i64 l :: bvs s
def pv (v : Value) (b l : Int) (s : List UInt8) : Value := .agg (pc v b l s).toArray
def idv (s : List UInt8) : Value := .agg (bvs s).toArray
/-- A pointer's block. -/
def PB (w : World) (g : Nat) (v : Value) (b l : Int) (s : List UInt8) : Prop := w.heap[g]? = some (.cells (pc v b l s).toArray 26 (0, 0))
/-- What loads of its parts give. -/
structure Gets (w : World) (g : Nat) (v : Value) (b l : Int) (s : List UInt8) : Prop where
  c0 : w.cell? ⟨g, 0, none⟩ = some v
  c1 : w.cell? ⟨g, 1, none⟩ = some (.int .i64 b)
  c2 : w.cell? ⟨g, 2, none⟩ = some (.int .i64 l)
  all : (Instr.loadAt 26 (.pointer (some ⟨g, 0, none⟩))).run Try.prog w = .ok (pv v b l s) w
  sum : (Instr.loadAt 24 (.pointer (some ⟨g, 3, none⟩))).run Try.prog w = .ok (idv s) w
theorem PB.gets {w : World} {g : Nat} {v : Value} {b l : Int} {s : List UInt8} (h : PB w g v b l s) (hs : s.length = 32) : Gets w g v b l s := by
  unfold PB at h
  refine ⟨by rw [cell_of_heap h]; rfl, by rw [cell_of_heap h]; rfl, by rw [cell_of_heap h]; rfl, ?_, ?_⟩
  · refine run_loadAt_mid w g 0 26 (pc v b l s) _ (fun j u hu => ?_) Try.underlying26 rfl ?_
    · rw [cell_of_heap h]; simpa using hu
    · rw [i26]; simp [pc, bvs_length, hs]
  · refine run_loadAt_mid w g 3 24 (bvs s) _ (fun j u hu => ?_) d24 rfl ?_
    · rw [cell_of_heap h]; simpa [pc, Nat.add_comm 3 j] using hu
    · rw [i24]; simp [bvs_length, hs]
theorem PB.keep {w w' : World} {L : List Nat} {g : Nat} {v : Value} {b l : Int} {s : List UInt8} (h : PB w g v b l s) (f : Frm L w w') (hn : g ∉ L) : PB w' g v b l s := f.heap h hn
theorem PB.new (w : World) (v : Value) (b l : Int) (s : List UInt8) : PB (w.alloc (.cells (pc v b l s).toArray 26)) w.heap.size v b l s := heap_alloc_new _ _
theorem PB.new1 (w : World) (o : Obj) (v : Value) (b l : Int) (s : List UInt8) : PB ((w.alloc o).alloc (.cells (pc v b l s).toArray 26)) (w.heap.size + 1) v b l s := by
  have := heap_alloc_new (w.alloc o) (.cells (pc v b l s).toArray 26)
  simpa [PB, go_sem] using this
theorem PB.alloc {w : World} {g : Nat} {v : Value} {b l : Int} {s : List UInt8} (h : PB w g v b l s) (o : Obj) : PB (w.alloc o) g v b l s := heap_alloc_lt h
theorem PB.lt {w : World} {g : Nat} {v : Value} {b l : Int} {s : List UInt8} (h : PB w g v b l s) : g < w.heap.size := lt_heap h
/-- A load whose value is known, guarded or not. -/
theorem wpList_load_g {P : Program} {ops : Array Oper} {rest : List Oper} {op : Oper} {a : Act} {w : World} {Q : Exit → Act → World → Prop} (hw : Region.wanted op (yielded ops a.tmps) = true) (ty : TypeId) (x : Operand) (ho : op.op = .load ty x)
    (p : Addr) (hx : a.eval x = .pointer (some p)) {v : Value} (hl : (Instr.loadAt ty (.pointer (some p))).run P w = .ok v w)
    (h : wpList P ops Q rest (a.put op.dst v) w) : wpList P ops Q (op :: rest) a w :=
  wpList_step fun K hK => by
    have he : (execOp a.eval op).run P w = .ok (.value v) w := by simp [execOp, ho, hx, hl, Result.andThen]
    rw [if_pos hw]
    unfold Oper.wp
    rw [he]
    exact hK _ _ h
theorem agg_guard (op : BinOp) (x y : Operand) (s s2 : List UInt8) (W : World) : (eqGuard op 24 x y (idv s) (idv s2)).run Try.prog W = .ok () W := guard_agg op 24 x y _ _ (by kernel_rfl) W
theorem sameBlock_any (v v2 : Value) (b l b2 l2 : Int) (s s2 : List UInt8) (hs : s.length = 32) (hs2 : s2.length = 32) (w : World) :
    Calls Try.prog 56 #[pv v b l s, pv v2 b2 l2 s2] w fun e w' => e = .returned (.bool (b == b2 && l == l2 && s == s2)) ∧ Frm [] w w' := by
  have G1 := ((PB.new w v b l s).alloc (.cells (pc v2 b2 l2 s2).toArray 26)).gets hs
  have G2 := (PB.new1 w (.cells (pc v b l s).toArray 26) v2 b2 l2 s2).gets hs2
  have f : Frm [] w ((w.alloc (.cells (pc v b l s).toArray 26)).alloc (.cells (pc v2 b2 l2 s2).toArray 26)) := ((Frm.refl [] w).alloc _).alloc _
  have hq : (binOp .eql 24 (idv s) (idv s2)).run Try.prog = _ := funext fun W => eql24 s s2 hs hs2 W
  have hg := fun op x y W => agg_guard op x y s s2 W
  unfold pv
  generalize hA : (pc v b l s).toArray = A at *
  generalize hB : (pc v2 b2 l2 s2).toArray = B at *
  go_enter Try.func56, Try.ntmps56
  go_upto_region 1 with (fail)
  generalize (w.alloc (.cells A 26)).alloc (.cells B 26) = W at *
  have G1h := Lib.hid G1
  have G2h := Lib.hid G2
  obtain ⟨c0, c1, c2, _, _⟩ := G1
  obtain ⟨d0, d1, d2, _, _⟩ := G2
  clear hA hB
  go_wp2_with (first | refine wpList_load_g (by rfl) 24 _ rfl _ rfl G1h.out.sum ?_ | refine wpList_load_g (by rfl) 24 _ rfl _ rfl G2h.out.sum ?_)
  all_goals
    go_ret
    refine ⟨?_, f⟩
    simp_all
theorem nowhere_any (a : Option Addr) (n cap : Nat) (b l : Int) (s : List UInt8) (w : World) :
    Calls Try.prog 57 #[pv (.slice a n cap) b l s] w fun e w' => e = .returned (.bool (decide (n = 0))) ∧ Frm [] w w' := by
  unfold pv
  have hc : ∀ W : World, (W.alloc (.cells (pc (.slice a n cap) b l s).toArray 26)).cell? ⟨W.heap.size, 0, none⟩ = some (.slice a n cap) := fun W => by simp [pc, go_sem]
  generalize (pc (.slice a n cap) b l s).toArray = cs at *
  go_enter Try.func57, Try.ntmps57
  go_wp2_with fail
  go_ret
  exact ⟨ret_bool (by rw [Bool.eq_iff_iff]; simp), (Frm.refl [] w).alloc _⟩
end Go.Proofs.Ytjjcjocomanohaa
