/-
  Contracts of faultOf and of what it defers. No conditions but those that each theorem names.
-/
import Derived.Test.YtjjcjocomanohaaPC
namespace Go.Proofs.Ytjjcjocomanohaa
open Go.RowKit
set_option linter.unusedVariables false
set_option linter.unusedSimpArgs false
set_option maxRecDepth 100000

theorem frame72 (p : Addr) : (#[Value.pointer (some p)] ++ Array.replicate (Try.f72.ntmps - #[Value.pointer (some p)].size) undef) = #[.pointer (some p), undef, undef, undef, undef, undef, undef, undef, undef, undef, undef, undef, undef, undef, undef, undef] := by
  rw [Try.ntmps72]; rfl
theorem assert85 (W : World) (v : Value) : (Instr.typeAssert (.iface 85 v) 20 85 true).run Try.prog W = .ok (.tuple #[v, .bool true]) W := by kernel_rfl
theorem assertNil (W : World) : (Instr.typeAssert .nilIface 20 85 true).run Try.prog W = .ok (.tuple #[.agg #[.int .i64 0, .int .i64 0], .bool false]) W := by kernel_rfl
theorem catch_idle (p : Addr) (w : World) :
    CallsD Try.prog 72 #[.pointer (some p)] .returning w fun e u' w' => e = .returned (.tuple #[]) ∧ u' = .returning ∧ Frm [] w w' := by
  have h1 := assertNil
  refine callsD_of_wpS Try.func72 rfl fun c₀ cs hu => ?_
  rw [frame72]
  apply wpS_seq
  apply wpS_region
  simp [wpOpsS, go_sem, recoverD, hu, Try.ntmps72, Exit.thenS]
  refine wpS_of_wp ?_
  go_wp2
  cases c₀
  simp_all [bodyPostS, results, Try.results72]
  exact (Frm.refl [] w).alloc _
set_option maxHeartbeats 1000000 in
theorem catch_gave (br : Nat) (err at' : Int) (o1 o2 : Value) (older : List PanicEntry) (w : World) (hr : w.heap[br]? = some (.cells #[o1, o2] 40 (0, 0))) :
    CallsD Try.prog 72 #[.pointer (some ⟨br, 0, none⟩)] (.panicking ({ v := .iface 85 (.agg #[.int .i64 err, .int .i64 at']), recovered := false } :: older)) w fun e u' w' =>
      e = .returned (.tuple #[]) ∧ u' = .panicking ({ v := .iface 85 (.agg #[.int .i64 err, .int .i64 at']), recovered := true } :: older) ∧
      Frm [br] w w' ∧ w'.heap[br]? = some (.cells #[.int .i64 err, .int .i64 at'] 40 (0, 0)) := by
  have c3 : w.cell? ⟨br, 0, none⟩ = some o1 := by rw [cell_of_heap hr]; rfl
  have c4 : w.cell? ⟨br, 1, none⟩ = some o2 := by rw [cell_of_heap hr]; rfl
  have z3 : w.frozen? ⟨br, 0, none⟩ = false := frozen_of_heap hr 0
  have z4 : w.frozen? ⟨br, 1, none⟩ = false := frozen_of_heap hr 1
  have hlt := lt_heap hr
  have has := assert85
  have HR := Lib.hid hr
  clear hr
  refine callsD_of_wpS Try.func72 rfl fun c₀ cs hu => ?_
  rw [frame72]
  apply wpS_seq
  apply wpS_region
  simp [wpOpsS, go_sem, recoverD, hu, Try.ntmps72, Exit.thenS]
  refine wpS_of_wp ?_
  go_wp2
  simp [bodyPostS, results, Try.results72]
  refine ⟨(((Frm.refl [br] w).setCell _ _ (by simp)).setCell _ _ (by simp)).alloc _, ?_⟩
  refine heap_alloc_lt ?_
  rw [heap_setCell_same _ (heap_setCell_same _ HR.out)]
  rfl
/-- What a step that goes through comes to. -/
def Through (R : World → Prop) (w : World) (e : Ending) (w' : World) : Prop := e = .returned (.agg #[.int .i64 0, .int .i64 0]) ∧ ∃ w1, R w1 ∧ Frm [w.heap.size] w1 w'
set_option maxHeartbeats 1000000 in
theorem faultOf_ret (K : FuncId) (cap : Array Value) (R : World → Prop) (w : World)
    (hcf : ∀ w, (callFunc K cap).run Try.prog w = .ok (.enter K cap) w) (hstep : ∀ w1, Frm [] w w1 → Calls Try.prog K cap w1 fun e w' => e = .returned (.tuple #[]) ∧ Frm [] w1 w' ∧ R w') :
    Calls Try.prog 51 #[.func (.func K) #[] cap] w (Through R w) := by
  have HS := Lib.hid hstep
  clear hstep
  have hmf : ∀ (fn : Fn) (first cap : Array Value) (w : World), (Instr.makeFunc fn first cap).run Try.prog w = .ok (.func fn first cap) w := fun _ _ _ _ => rfl
  go_enter_defers Try.func51, Try.ntmps51
  go_wp2_with fail
  have hn := heap_alloc_new w (.cells #[.int .i64 0, .int .i64 0] 40)
  refine (HS.out _ ((Frm.refl [] _).alloc _)).mono ?_
  rintro e w1 ⟨rfl, f1, hr⟩
  have hb := f1.heap hn (by simp)
  have c0 : w1.cell? ⟨w.heap.size, 0, none⟩ = some (.int .i64 0) := by rw [cell_of_heap hb]; rfl
  have c1 : w1.cell? ⟨w.heap.size, 1, none⟩ = some (.int .i64 0) := by rw [cell_of_heap hb]; rfl
  have z0 := frozen_of_heap hb 0
  have z1 := frozen_of_heap hb 1
  have hb2 : ((w1.setCell ⟨w.heap.size, 0, none⟩ (.int .i64 0)).setCell ⟨w.heap.size, 1, none⟩ (.int .i64 0)).heap[w.heap.size]? = some (.cells #[.int .i64 0, .int .i64 0] 40 (0, 0)) := by rw [heap_setCell_same _ (heap_setCell_same _ hb)]; rfl
  have f2 : Frm [w.heap.size] w1 ((w1.setCell ⟨w.heap.size, 0, none⟩ (.int .i64 0)).setCell ⟨w.heap.size, 1, none⟩ (.int .i64 0)) := ((Frm.refl _ w1).setCell _ _ (by simp)).setCell _ _ (by simp)
  have HB2 := Lib.hid hb2
  have F2 := Lib.hid f2
  have HRR := Lib.hid hr
  clear hn hb hb2 f2 f1 hr HS
  go_wp2
  generalize (w1.setCell ⟨w.heap.size, 0, none⟩ (.int .i64 0)).setCell ⟨w.heap.size, 1, none⟩ (.int .i64 0) = W2 at *
  refine leaves_cons (f := 72) (args := #[.pointer (some ⟨w.heap.size, 0, none⟩)]) (by simp) (by simp [go_sem]) ?_
  refine (catch_idle ⟨w.heap.size, 0, none⟩ _).mono ?_
  rintro e u' w3 ⟨rfl, rfl, f3⟩
  have hb3 := f3.heap HB2.out (by simp)
  have k0 : w3.cell? ⟨w.heap.size, 0, none⟩ = some (.int .i64 0) := by rw [cell_of_heap hb3]; rfl
  have k1 : w3.cell? ⟨w.heap.size, 1, none⟩ = some (.int .i64 0) := by rw [cell_of_heap hb3]; rfl
  simp [Leaves, settle, results, Try.results51, go_sem, k0, k1]
  exact ⟨rfl, w1, HRR.out, F2.out.trans f3 (by simp)⟩
def GaveFault (err at' : Int) (w : World) (e : Ending) (w' : World) : Prop := e = .returned (.agg #[.int .i64 err, .int .i64 at']) ∧ Frm [] w w'
set_option maxHeartbeats 1000000 in
theorem faultOf_gave (K : FuncId) (cap : Array Value) (err at' : Int) (w : World)
    (hcf : ∀ w, (callFunc K cap).run Try.prog w = .ok (.enter K cap) w) (hstep : ∀ w1, Frm [] w w1 → Calls Try.prog K cap w1 fun e w' => e = GaveUp err at' ∧ Frm [] w1 w') :
    Calls Try.prog 51 #[.func (.func K) #[] cap] w (GaveFault err at' w) := by
  have HS := Lib.hid hstep
  clear hstep
  have hmf : ∀ (fn : Fn) (first cap : Array Value) (w : World), (Instr.makeFunc fn first cap).run Try.prog w = .ok (.func fn first cap) w := fun _ _ _ _ => rfl
  go_enter_defers Try.func51, Try.ntmps51
  go_wp2_with fail
  have hn := heap_alloc_new w (.cells #[.int .i64 0, .int .i64 0] 40)
  refine (HS.out _ ((Frm.refl [] _).alloc _)).mono ?_
  rintro e w1 ⟨rfl, f1⟩
  have hb := f1.heap hn (by simp)
  have f0 : Frm [] w w1 := ((Frm.refl [] w).alloc _).trans f1 (by simp)
  unfold GaveUp
  go_wp2
  refine leaves_cons (f := 72) (args := #[.pointer (some ⟨w.heap.size, 0, none⟩)]) (by simp) (by simp [go_sem]) ?_
  refine (catch_gave w.heap.size err at' _ _ [] _ hb).mono ?_
  rintro e u' w3 ⟨rfl, rfl, f3, hb3⟩
  have k0 : w3.cell? ⟨w.heap.size, 0, none⟩ = some (.int .i64 err) := by rw [cell_of_heap hb3]; rfl
  have k1 : w3.cell? ⟨w.heap.size, 1, none⟩ = some (.int .i64 at') := by rw [cell_of_heap hb3]; rfl
  simp [Leaves, settle, results, Try.results51, go_sem, k0, k1]
  exact ⟨rfl, f0.trans f3 (by simp)⟩
end Go.Proofs.Ytjjcjocomanohaa
