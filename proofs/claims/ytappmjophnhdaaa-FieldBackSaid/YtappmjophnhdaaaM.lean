/-
  Contracts of a reader's unlessFaulty and of what it defers; no conditions but those that each theorem names.
-/
import Derived.Test.YtappmjophnhdaaaL
import Derived.Defers
import Derived.Recover
namespace Go.Proofs.Ytappmjophnhdaaa
open Go.RowKit
set_option linter.unusedVariables false
set_option linter.unusedSimpArgs false

theorem frame78 (p : Addr) : (#[Value.pointer (some p)] ++ Array.replicate (Try.f78.ntmps - #[Value.pointer (some p)].size) undef) = #[.pointer (some p), undef, undef, undef, undef, undef, undef, undef, undef, undef, undef, undef, undef, undef, undef] := by
  rw [Try.ntmps78]; rfl
theorem catch_idle (p : Addr) (w : World) :
    CallsD Try.prog 78 #[.pointer (some p)] .returning w fun e u' w' => e = .returned (.tuple #[]) ∧ u' = .returning ∧ w' = w := by
  refine callsD_of_wpS Try.func78 rfl fun c₀ cs hu => ?_
  rw [frame78]
  apply wpS_seq
  apply wpS_region
  simp [wpOpsS, go_sem, recoverD, hu, Try.ntmps78, Exit.thenS]
  refine wpS_of_wp ?_
  go_wp2
  cases c₀
  simp_all [bodyPostS, results, Try.results78]
theorem assert91 (W : World) (v : Value) : (Instr.typeAssert (.iface 91 v) 20 91 true).run Try.prog W = .ok (.tuple #[v, .bool true]) W := by kernel_rfl
/-- A reader's block is others now, nothing else that was there. -/
def Gave (w : World) (br : Nat) (cs : Array Value) (w' : World) : Prop := Frm [br] w w' ∧ w'.heap[br]? = some (.cells cs 60 (0, 0))
set_option maxHeartbeats 1000000 in
theorem catch_gave (p : Addr) (br : Nat) (err at' : Int) (o1 o2 o3 e0 f0 : Value) (older : List PanicEntry) (w : World)
    (hp : w.cell? p = some (.pointer (some ⟨br, 0, none⟩))) (hr : w.heap[br]? = some (.cells #[o1, o2, o3, e0, f0] 60 (0, 0))) :
    CallsD Try.prog 78 #[.pointer (some p)] (.panicking ({ v := .iface 91 (.agg #[.int .i64 err, .int .i64 at']), recovered := false } :: older)) w fun e u' w' =>
      e = .returned (.tuple #[]) ∧ u' = .panicking ({ v := .iface 91 (.agg #[.int .i64 err, .int .i64 at']), recovered := true } :: older) ∧
      Gave w br #[o1, o2, o3, .int .i64 err, .int .i64 at'] w' := by
  have c3 : w.cell? ⟨br, 3, none⟩ = some e0 := by rw [cell_of_heap hr]; rfl
  have c4 : w.cell? ⟨br, 4, none⟩ = some f0 := by rw [cell_of_heap hr]; rfl
  have z3 : w.frozen? ⟨br, 3, none⟩ = false := frozen_of_heap hr 3
  have z4 : w.frozen? ⟨br, 4, none⟩ = false := frozen_of_heap hr 4
  have hlt := lt_heap hr
  have hpl := World.block_lt_of_cell? w _ hp
  have has := assert91
  have HR := Lib.hid hr
  clear hr
  refine callsD_of_wpS Try.func78 rfl fun c₀ cs hu => ?_
  rw [frame78]
  apply wpS_seq
  apply wpS_region
  simp [wpOpsS, go_sem, recoverD, hu, Try.ntmps78, Exit.thenS]
  refine wpS_of_wp ?_
  go_wp2
  simp [bodyPostS, results, Try.results78]
  refine ⟨(((Frm.refl [br] w).setCell _ _ (by simp)).setCell _ _ (by simp)).alloc _, ?_⟩
  refine heap_alloc_lt ?_
  rw [heap_setCell_same _ (heap_setCell_same _ HR.out)]
  rfl
theorem info60 : (Try.prog.info? 60).isSome = true := by kernel_rfl
theorem eqR (w : World) (a : Addr) : (binOp .eql 42 (.pointer (some a)) (.pointer (some a))).run Try.prog w = .ok (.bool true) w := by
  obtain ⟨j, hj⟩ := Option.isSome_iff_exists.1 info60
  exact run_eql_ptr_same w a Try.underlying42 hj
theorem eqR0 (w : World) (a : Addr) : (binOp .eql 42 (.pointer none) (.pointer (some a))).run Try.prog w = .ok (.bool false) w := run_eql_nil_ptr w _ Try.underlying42
theorem rmade_nil (w : World) :
    Calls Try.prog 54 #[.pointer none] w fun e w' => e = .returned (.bool false) ∧ w' = w := by
  go_enter Try.func54, Try.ntmps54
  go_wp2
  go_ret
  exact ⟨rfl, rfl⟩
theorem rmade_yes (b : Nat) (w : World) (h : w.cell? ⟨b, 0, none⟩ = some (.pointer (some ⟨b, 0, none⟩))) :
    Calls Try.prog 54 #[.pointer (some ⟨b, 0, none⟩)] w fun e w' => e = .returned (.bool true) ∧ w' = w := by
  have h1 := eqR
  go_enter Try.func54, Try.ntmps54
  go_wp2
  go_ret
  exact ⟨rfl, rfl⟩
theorem rmade_no (b : Nat) (w : World) (h : w.cell? ⟨b, 0, none⟩ = some (.pointer none)) :
    Calls Try.prog 54 #[.pointer (some ⟨b, 0, none⟩)] w fun e w' => e = .returned (.bool false) ∧ w' = w := by
  have h1 := eqR0
  go_enter Try.func54, Try.ntmps54
  go_wp2
  go_ret
  exact ⟨rfl, rfl⟩
/-- A reader's block: itself, its bytes, its place, its fault. -/
def Rd (w : World) (br : Nat) (v : Value) (l sp : List UInt8) (p fe fa : Int) : Prop :=
  w.heap[br]? = some (.cells #[.pointer (some ⟨br, 0, none⟩), v, .int .i64 p, .int .i64 fe, .int .i64 fa] 60 (0, 0)) ∧ OwnB 5 w v l sp ∧ br ∉ blk v
theorem Rd.keep {w w' : World} {br : Nat} {v : Value} {l sp : List UInt8} {p fe fa : Int} {L : List Nat} (h : Rd w br v l sp p fe fa) (f : Frm L w w') (h1 : br ∉ L) (h2 : ∀ k ∈ blk v, k ∉ L) : Rd w' br v l sp p fe fa :=
  ⟨f.heap h.1 h1, h.2.1.keep f h2, h.2.2⟩
def Gives (v : Value) (R : World → Prop) (e : Ending) (w' : World) : Prop := e = .returned v ∧ R w'
theorem Gives.intro {v : Value} {R : World → Prop} {w' : World} (h : R w') : Gives v R (.returned v) w' := ⟨rfl, h⟩
def GaveUp (err at' : Int) : Ending := .panicked [{ v := .iface 91 (.agg #[.int .i64 err, .int .i64 at']), recovered := false }]
set_option maxHeartbeats 1000000 in
theorem uf_ret (K : FuncId) (cap : Array Value) (br : Nat) (v : Value) (l sp : List UInt8) (p fa : Int) (R : World → Prop) (w : World) (hR : Rd w br v l sp p 0 fa)
    (hcf : ∀ w, (callFunc K cap).run Try.prog w = .ok (.enter K cap) w) (hstep : ∀ w1, Frm [] w w1 → Calls Try.prog K cap w1 fun e w' => Gives (.tuple #[]) R e w') :
    Calls Try.prog 55 #[.pointer (some ⟨br, 0, none⟩), .func (.func K) #[] cap] w fun e w' => Gives (.tuple #[]) R e w' := by
  obtain ⟨h1, h2, h3⟩ := hR
  have c0 : w.cell? ⟨br, 0, none⟩ = some (.pointer (some ⟨br, 0, none⟩)) := by rw [cell_of_heap h1]; rfl
  have c3 : w.cell? ⟨br, 3, none⟩ = some (.int .i64 0) := by rw [cell_of_heap h1]; rfl
  have hlt := lt_heap h1
  have H1 := Lib.hid h1
  have HS := Lib.hid hstep
  clear h1 hstep
  have hmf : ∀ (fn : Fn) (first cap : Array Value) (w : World), (Instr.makeFunc fn first cap).run Try.prog w = .ok (.func fn first cap) w := fun _ _ _ _ => rfl
  go_enter_defers Try.func55, Try.ntmps55
  go_wp2_with (first | (go_at_call 54; refine (rmade_yes br _ (by simp [go_sem, hlt, c0])).mono ?_; rintro r w' ⟨rfl, rfl⟩))
  refine (HS.out _ ((Frm.refl [] _).alloc _)).mono ?_
  rintro e w1 ⟨rfl, hr⟩
  go_wp2
  refine leaves_cons (f := 78) (args := #[.pointer (some ⟨w.heap.size, 0, none⟩)]) (by simp) (by simp [go_sem]) ?_
  refine (catch_idle ⟨w.heap.size, 0, none⟩ _).mono ?_
  rintro e u' w'' ⟨rfl, rfl, rfl⟩
  simp [Leaves, settle, results, Try.results55, go_sem]
  exact ⟨rfl, hr⟩
set_option maxHeartbeats 1000000 in
theorem uf_gave (K : FuncId) (cap : Array Value) (br : Nat) (v : Value) (l sp : List UInt8) (p fa err at' : Int) (w : World) (hR : Rd w br v l sp p 0 fa)
    (hcf : ∀ w, (callFunc K cap).run Try.prog w = .ok (.enter K cap) w) (hstep : ∀ w1, Frm [] w w1 → Calls Try.prog K cap w1 fun e w' => e = GaveUp err at' ∧ Frm [] w1 w') :
    Calls Try.prog 55 #[.pointer (some ⟨br, 0, none⟩), .func (.func K) #[] cap] w fun e w' => e = .returned (.tuple #[]) ∧ Rd w' br v l sp p err at' ∧ Frm [br] w w' := by
  have hR' := hR
  obtain ⟨h1, h2, h3⟩ := hR
  have c0 : w.cell? ⟨br, 0, none⟩ = some (.pointer (some ⟨br, 0, none⟩)) := by rw [cell_of_heap h1]; rfl
  have c3 : w.cell? ⟨br, 3, none⟩ = some (.int .i64 0) := by rw [cell_of_heap h1]; rfl
  have hlt := lt_heap h1
  have H1 := Lib.hid h1
  have HS := Lib.hid hstep
  clear h1 hstep
  have hmf : ∀ (fn : Fn) (first cap : Array Value) (w : World), (Instr.makeFunc fn first cap).run Try.prog w = .ok (.func fn first cap) w := fun _ _ _ _ => rfl
  go_enter_defers Try.func55, Try.ntmps55
  go_wp2_with (first | (go_at_call 54; refine (rmade_yes br _ (by simp [go_sem, hlt, c0])).mono ?_; rintro r w' ⟨rfl, rfl⟩))
  refine (HS.out _ ((Frm.refl [] _).alloc _)).mono ?_
  rintro e w1 ⟨rfl, f1⟩
  have f0 : Frm [] w w1 := ((Frm.refl [] _).alloc _).trans f1 (by simp)
  have hb : w1.cell? ⟨w.heap.size, 0, none⟩ = some (.pointer (some ⟨br, 0, none⟩)) := f1.cell (by simp [go_sem]) (by simp)
  unfold GaveUp
  go_wp2
  refine leaves_cons (f := 78) (args := #[.pointer (some ⟨w.heap.size, 0, none⟩)]) (by simp) (by simp [go_sem]) ?_
  refine (catch_gave ⟨w.heap.size, 0, none⟩ br err at' _ _ _ _ _ [] _ hb (f0.heap H1.out (by simp))).mono ?_
  rintro e u' w'' ⟨rfl, rfl, g1, g2⟩
  simp [Leaves, settle, results, Try.results55, go_sem]
  exact ⟨⟨g2, (h2.keep f0 (by simp)).keep g1 (fun k hk => by simp; rintro rfl; exact h3 hk), h3⟩, (f0.mono (by simp)).trans g1 (by simp)⟩
theorem uf_fault (K : Value) (br : Nat) (v : Value) (l sp : List UInt8) (p fe fa : Int) (w : World) (hR : Rd w br v l sp p fe fa) (hfe : fe ≠ 0) :
    Calls Try.prog 55 #[.pointer (some ⟨br, 0, none⟩), K] w fun e w' => e = .returned (.tuple #[]) ∧ Frm [] w w' := by
  obtain ⟨h1, h2, h3⟩ := hR
  have c0 : w.cell? ⟨br, 0, none⟩ = some (.pointer (some ⟨br, 0, none⟩)) := by rw [cell_of_heap h1]; rfl
  have c3 : w.cell? ⟨br, 3, none⟩ = some (.int .i64 fe) := by rw [cell_of_heap h1]; rfl
  have hlt := lt_heap h1
  have hq : (fe != 0) = true := by simpa using hfe
  clear h1 hfe
  go_enter_defers Try.func55, Try.ntmps55
  go_wp2_with (first | (go_at_call 54; refine (rmade_yes br _ (by simp [go_sem, hlt, c0])).mono ?_; rintro r w' ⟨rfl, rfl⟩))
  simp [bodyPostD, Leaves, settle, results, Try.results55, go_sem]
  exact (Frm.refl [] _).alloc _
theorem uf_none (a : Option Addr) (K : Value) (w : World) (hm : ∀ w1, Frm [] w w1 → Calls Try.prog 54 #[.pointer a] w1 fun e w' => e = .returned (.bool false) ∧ w' = w1) :
    Calls Try.prog 55 #[.pointer a, K] w fun e w' => e = .returned (.tuple #[]) ∧ Frm [] w w' := by
  have HM := Lib.hid hm
  clear hm
  go_enter_defers Try.func55, Try.ntmps55
  go_wp2_with (first | (go_at_call 54; refine (HM.out _ ((Frm.refl [] _).alloc _)).mono ?_; rintro r w' ⟨rfl, rfl⟩))
  simp [bodyPostD, Leaves, settle, results, Try.results55, go_sem]
  exact (Frm.refl [] _).alloc _
end Go.Proofs.Ytappmjophnhdaaa
