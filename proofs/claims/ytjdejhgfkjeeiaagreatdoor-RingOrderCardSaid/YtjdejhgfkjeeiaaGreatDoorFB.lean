/-
  Contracts of the reader of field, and of the document's. No conditions but those that each theorem names.
-/
import Derived.Test.YtjdejhgfkjeeiaaGreatDoorFA
import Derived.Defers
import Derived.Recover
import Derived.Deep.RegionHeld3
import Derived.IntWalk
import Derived.RegionDies
import Derived.StillTailTactics
namespace Go.Proofs.YtjdejhgfkjeeiaaGreatDoor
open Go.RowKit
set_option linter.unusedVariables false
set_option maxRecDepth 100000
set_option linter.unusedSimpArgs false

theorem frame78 (p : Addr) : (#[Value.pointer (some p)] ++ Array.replicate (Tryz.f172.ntmps - #[Value.pointer (some p)].size) undef) = #[.pointer (some p), undef, undef, undef, undef, undef, undef, undef, undef, undef, undef, undef, undef, undef, undef] := by
  rw [Tryz.ntmps172]; rfl
theorem catch_idle (p : Addr) (w : World) :
    CallsD Tryz.prog 172 #[.pointer (some p)] .returning w fun e u' w' => e = .returned (.tuple #[]) ∧ u' = .returning ∧ w' = w := by
  refine callsD_of_wpS Tryz.func172 rfl fun c₀ cs hu => ?_
  rw [frame78]
  apply wpS_seq
  apply wpS_region
  simp [wpOpsS, go_sem, recoverD, hu, Tryz.ntmps172, Exit.thenS]
  refine wpS_of_wp ?_
  go_wp2
  cases c₀
  simp_all [bodyPostS, results, Tryz.results172]
theorem assert91 (W : World) (v : Value) : (Instr.typeAssert (.iface 190 v) 20 190 true).run Tryz.prog W = .ok (.tuple #[v, .bool true]) W := by kernel_rfl
/-- A reader's block is others now, nothing else that was there. -/
def Gave (w : World) (br : Nat) (cs : Array Value) (w' : World) : Prop := Frm [br] w w' ∧ w'.heap[br]? = some (.cells cs 162 (0, 0))
set_option maxHeartbeats 1000000 in
theorem catch_gave (p : Addr) (br : Nat) (err at' : Int) (o1 o2 o3 e0 f0 : Value) (older : List PanicEntry) (w : World)
    (hp : w.cell? p = some (.pointer (some ⟨br, 0, none⟩))) (hr : w.heap[br]? = some (.cells #[o1, o2, o3, e0, f0] 162 (0, 0))) :
    CallsD Tryz.prog 172 #[.pointer (some p)] (.panicking ({ v := .iface 190 (.agg #[.int .i64 err, .int .i64 at']), recovered := false } :: older)) w fun e u' w' =>
      e = .returned (.tuple #[]) ∧ u' = .panicking ({ v := .iface 190 (.agg #[.int .i64 err, .int .i64 at']), recovered := true } :: older) ∧
      Gave w br #[o1, o2, o3, .int .i64 err, .int .i64 at'] w' := by
  have c3 : w.cell? ⟨br, 3, none⟩ = some e0 := by rw [cell_of_heap hr]; rfl
  have c4 : w.cell? ⟨br, 4, none⟩ = some f0 := by rw [cell_of_heap hr]; rfl
  have z3 : w.frozen? ⟨br, 3, none⟩ = false := frozen_of_heap hr 3
  have z4 : w.frozen? ⟨br, 4, none⟩ = false := frozen_of_heap hr 4
  have hlt := lt_heap hr
  have hpl := World.block_lt_of_cell? w _ hp
  have has := assert91
  have HR := Lib.hid hr
  clear hr
  refine callsD_of_wpS Tryz.func172 rfl fun c₀ cs hu => ?_
  rw [frame78]
  apply wpS_seq
  apply wpS_region
  simp [wpOpsS, go_sem, recoverD, hu, Tryz.ntmps172, Exit.thenS]
  refine wpS_of_wp ?_
  go_wp2
  simp [bodyPostS, results, Tryz.results172]
  refine ⟨(((Frm.refl [br] w).setCell _ _ (by simp)).setCell _ _ (by simp)).alloc _, ?_⟩
  refine heap_alloc_lt ?_
  rw [heap_setCell_same _ (heap_setCell_same _ HR.out)]
  rfl
theorem info60 : (Tryz.prog.info? 162).isSome = true := by kernel_rfl
theorem eqR (w : World) (a : Addr) : (binOp .eql 91 (.pointer (some a)) (.pointer (some a))).run Tryz.prog w = .ok (.bool true) w := by
  obtain ⟨j, hj⟩ := Option.isSome_iff_exists.1 info60
  exact run_eql_ptr_same w a Tryz.underlying91 hj
theorem eqR0 (w : World) (a : Addr) : (binOp .eql 91 (.pointer none) (.pointer (some a))).run Tryz.prog w = .ok (.bool false) w := run_eql_nil_ptr w _ Tryz.underlying91
theorem rmade_nil (w : World) :
    Calls Tryz.prog 159 #[.pointer none] w fun e w' => e = .returned (.bool false) ∧ w' = w := by
  go_enter Tryz.func159, Tryz.ntmps159
  go_wp2
  go_ret
  exact ⟨rfl, rfl⟩
theorem rmade_yes (b : Nat) (w : World) (h : w.cell? ⟨b, 0, none⟩ = some (.pointer (some ⟨b, 0, none⟩))) :
    Calls Tryz.prog 159 #[.pointer (some ⟨b, 0, none⟩)] w fun e w' => e = .returned (.bool true) ∧ w' = w := by
  have h1 := eqR
  go_enter Tryz.func159, Tryz.ntmps159
  go_wp2
  go_ret
  exact ⟨rfl, rfl⟩
theorem rmade_no (b : Nat) (w : World) (h : w.cell? ⟨b, 0, none⟩ = some (.pointer none)) :
    Calls Tryz.prog 159 #[.pointer (some ⟨b, 0, none⟩)] w fun e w' => e = .returned (.bool false) ∧ w' = w := by
  have h1 := eqR0
  go_enter Tryz.func159, Tryz.ntmps159
  go_wp2
  go_ret
  exact ⟨rfl, rfl⟩
/-- A reader's block: itself, its bytes, its place, its fault. -/
def Rd (w : World) (br : Nat) (v : Value) (l sp : List UInt8) (p fe fa : Int) : Prop :=
  w.heap[br]? = some (.cells #[.pointer (some ⟨br, 0, none⟩), v, .int .i64 p, .int .i64 fe, .int .i64 fa] 162 (0, 0)) ∧ OwnB 5 w v l sp ∧ br ∉ blk v
theorem Rd.keep {w w' : World} {br : Nat} {v : Value} {l sp : List UInt8} {p fe fa : Int} {L : List Nat} (h : Rd w br v l sp p fe fa) (f : Frm L w w') (h1 : br ∉ L) (h2 : ∀ k ∈ blk v, k ∉ L) : Rd w' br v l sp p fe fa :=
  ⟨f.heap h.1 h1, h.2.1.keep f h2, h.2.2⟩
def Gives (v : Value) (R : World → Prop) (e : Ending) (w' : World) : Prop := e = .returned v ∧ R w'
theorem Gives.intro {v : Value} {R : World → Prop} {w' : World} (h : R w') : Gives v R (.returned v) w' := ⟨rfl, h⟩
def GaveUp (err at' : Int) : Ending := .panicked [{ v := .iface 190 (.agg #[.int .i64 err, .int .i64 at']), recovered := false }]
set_option maxHeartbeats 1000000 in
theorem uf_ret (K : FuncId) (cap : Array Value) (br : Nat) (v : Value) (l sp : List UInt8) (p fa : Int) (R : World → Prop) (w : World) (hR : Rd w br v l sp p 0 fa)
    (hcf : ∀ w, (callFunc K cap).run Tryz.prog w = .ok (.enter K cap) w) (hstep : ∀ w1, Frm [] w w1 → Calls Tryz.prog K cap w1 fun e w' => Gives (.tuple #[]) R e w') :
    Calls Tryz.prog 146 #[.pointer (some ⟨br, 0, none⟩), .func (.func K) #[] cap] w fun e w' => Gives (.tuple #[]) R e w' := by
  obtain ⟨h1, h2, h3⟩ := hR
  have c0 : w.cell? ⟨br, 0, none⟩ = some (.pointer (some ⟨br, 0, none⟩)) := by rw [cell_of_heap h1]; rfl
  have c3 : w.cell? ⟨br, 3, none⟩ = some (.int .i64 0) := by rw [cell_of_heap h1]; rfl
  have hlt := lt_heap h1
  have H1 := Lib.hid h1
  have HS := Lib.hid hstep
  clear h1 hstep
  have hmf : ∀ (fn : Fn) (first cap : Array Value) (w : World), (Instr.makeFunc fn first cap).run Tryz.prog w = .ok (.func fn first cap) w := fun _ _ _ _ => rfl
  go_enter_defers Tryz.func146, Tryz.ntmps146
  go_wp2_with (first | (go_at_call 159; refine (rmade_yes br _ (by simp [go_sem, hlt, c0])).mono ?_; rintro r w' ⟨rfl, rfl⟩))
  refine (HS.out _ ((Frm.refl [] _).alloc _)).mono ?_
  rintro e w1 ⟨rfl, hr⟩
  go_wp2
  refine leaves_cons (f := 172) (args := #[.pointer (some ⟨w.heap.size, 0, none⟩)]) (by simp) (by simp [go_sem]) ?_
  refine (catch_idle ⟨w.heap.size, 0, none⟩ _).mono ?_
  rintro e u' w'' ⟨rfl, rfl, rfl⟩
  simp [Leaves, settle, results, Tryz.results146, go_sem]
  exact ⟨rfl, hr⟩
set_option maxHeartbeats 1000000 in
theorem uf_gave (K : FuncId) (cap : Array Value) (br : Nat) (v : Value) (l sp : List UInt8) (p fa err at' : Int) (w : World) (hR : Rd w br v l sp p 0 fa)
    (hcf : ∀ w, (callFunc K cap).run Tryz.prog w = .ok (.enter K cap) w) (hstep : ∀ w1, Frm [] w w1 → Calls Tryz.prog K cap w1 fun e w' => e = GaveUp err at' ∧ Frm [] w1 w') :
    Calls Tryz.prog 146 #[.pointer (some ⟨br, 0, none⟩), .func (.func K) #[] cap] w fun e w' => e = .returned (.tuple #[]) ∧ Rd w' br v l sp p err at' ∧ Frm [br] w w' := by
  have hR' := hR
  obtain ⟨h1, h2, h3⟩ := hR
  have c0 : w.cell? ⟨br, 0, none⟩ = some (.pointer (some ⟨br, 0, none⟩)) := by rw [cell_of_heap h1]; rfl
  have c3 : w.cell? ⟨br, 3, none⟩ = some (.int .i64 0) := by rw [cell_of_heap h1]; rfl
  have hlt := lt_heap h1
  have H1 := Lib.hid h1
  have HS := Lib.hid hstep
  clear h1 hstep
  have hmf : ∀ (fn : Fn) (first cap : Array Value) (w : World), (Instr.makeFunc fn first cap).run Tryz.prog w = .ok (.func fn first cap) w := fun _ _ _ _ => rfl
  go_enter_defers Tryz.func146, Tryz.ntmps146
  go_wp2_with (first | (go_at_call 159; refine (rmade_yes br _ (by simp [go_sem, hlt, c0])).mono ?_; rintro r w' ⟨rfl, rfl⟩))
  refine (HS.out _ ((Frm.refl [] _).alloc _)).mono ?_
  rintro e w1 ⟨rfl, f1⟩
  have f0 : Frm [] w w1 := ((Frm.refl [] _).alloc _).trans f1 (by simp)
  have hb : w1.cell? ⟨w.heap.size, 0, none⟩ = some (.pointer (some ⟨br, 0, none⟩)) := f1.cell (by simp [go_sem]) (by simp)
  unfold GaveUp
  go_wp2
  refine leaves_cons (f := 172) (args := #[.pointer (some ⟨w.heap.size, 0, none⟩)]) (by simp) (by simp [go_sem]) ?_
  refine (catch_gave ⟨w.heap.size, 0, none⟩ br err at' _ _ _ _ _ [] _ hb (f0.heap H1.out (by simp))).mono ?_
  rintro e u' w'' ⟨rfl, rfl, g1, g2⟩
  simp [Leaves, settle, results, Tryz.results146, go_sem]
  exact ⟨⟨g2, (h2.keep f0 (by simp)).keep g1 (fun k hk => by simp; rintro rfl; exact h3 hk), h3⟩, (f0.mono (by simp)).trans g1 (by simp)⟩
theorem uf_fault (K : Value) (br : Nat) (v : Value) (l sp : List UInt8) (p fe fa : Int) (w : World) (hR : Rd w br v l sp p fe fa) (hfe : fe ≠ 0) :
    Calls Tryz.prog 146 #[.pointer (some ⟨br, 0, none⟩), K] w fun e w' => e = .returned (.tuple #[]) ∧ Frm [] w w' := by
  obtain ⟨h1, h2, h3⟩ := hR
  have c0 : w.cell? ⟨br, 0, none⟩ = some (.pointer (some ⟨br, 0, none⟩)) := by rw [cell_of_heap h1]; rfl
  have c3 : w.cell? ⟨br, 3, none⟩ = some (.int .i64 fe) := by rw [cell_of_heap h1]; rfl
  have hlt := lt_heap h1
  have hq : (fe != 0) = true := by simpa using hfe
  clear h1 hfe
  go_enter_defers Tryz.func146, Tryz.ntmps146
  go_wp2_with (first | (go_at_call 159; refine (rmade_yes br _ (by simp [go_sem, hlt, c0])).mono ?_; rintro r w' ⟨rfl, rfl⟩))
  simp [bodyPostD, Leaves, settle, results, Tryz.results146, go_sem]
  exact (Frm.refl [] _).alloc _
theorem uf_none (a : Option Addr) (K : Value) (w : World) (hm : ∀ w1, Frm [] w w1 → Calls Tryz.prog 159 #[.pointer a] w1 fun e w' => e = .returned (.bool false) ∧ w' = w1) :
    Calls Tryz.prog 146 #[.pointer a, K] w fun e w' => e = .returned (.tuple #[]) ∧ Frm [] w w' := by
  have HM := Lib.hid hm
  clear hm
  go_enter_defers Tryz.func146, Tryz.ntmps146
  go_wp2_with (first | (go_at_call 159; refine (HM.out _ ((Frm.refl [] _).alloc _)).mono ?_; rintro r w' ⟨rfl, rfl⟩))
  simp [bodyPostD, Leaves, settle, results, Tryz.results146, go_sem]
  exact (Frm.refl [] _).alloc _
end Go.Proofs.YtjdejhgfkjeeiaaGreatDoor

namespace Go.Proofs.YtjdejhgfkjeeiaaGreatDoor
open Go.RowKit
set_option linter.unusedVariables false
set_option maxRecDepth 100000
set_option linter.unusedSimpArgs false

theorem demand_yes (e at' : Int) (w : World) :
    Calls Tryz.prog 148 #[.bool true, .int .i64 e, .int .i64 at'] w fun r w' => r = .returned (.tuple #[]) ∧ w' = w := by
  go_enter Tryz.func148, Tryz.ntmps148
  go_wp2
  go_end0
  exact ⟨rfl, rfl⟩
theorem demand_no (e at' : Int) (w : World) :
    Calls Tryz.prog 148 #[.bool false, .int .i64 e, .int .i64 at'] w fun r w' => r = GaveUp e at' ∧ w' = w := by
  go_enter Tryz.func148, Tryz.ntmps148
  go_wp2
  exact ⟨rfl, rfl, rfl⟩
theorem bne_cast (b : UInt8) : ((b.toNat : Int) != 0) = (b != 0) := by
  by_cases h : b = 0
  · subst h; rfl
  · have h1 : b.toNat ≠ 0 := fun e => h (UInt8.toNat_inj.1 (by simpa using e))
    have h2 : ((b.toNat : Int) != 0) = true := by simpa using h1
    rw [h2]; simp [h]
theorem cl80_any (b : UInt8) (w : World) : Calls Tryz.prog 181 #[.int .u8 b.toNat] w fun r w' => r = .returned (.bool (b != 0)) ∧ w' = w := by
  go_enter Tryz.func181, Tryz.ntmps181
  go_wp2
  go_ret
  refine ⟨?_, rfl⟩
  rw [← bne_cast]
  rfl
/-- Where the first byte that is not 0 stands; -1: nowhere. -/
def firstNot (l : List UInt8) : Int := match l.findIdx? (· != 0) with | some i => i | none => -1
theorem firstNot_none {l : List UInt8} (h : ∀ j, j < l.length → l[j]? = some 0) : firstNot l = -1 := by
  unfold firstNot
  rw [List.findIdx?_eq_none_iff.2 (fun x hx => by
    obtain ⟨j, hj, rfl⟩ := List.getElem_of_mem hx
    have := h j hj
    rw [List.getElem?_eq_getElem hj] at this
    simp at this; simp [this])]
theorem firstNot_some {l : List UInt8} {k : Nat} (hk : k < l.length) (h : ∀ j, j < k → l[j]? = some 0) (h0 : l[k] ≠ 0) : firstNot l = k := by
  unfold firstNot
  rw [List.findIdx?_eq_some_iff_getElem.2 ⟨hk, by simpa using h0, fun j hj => by
    have := h j hj
    rw [List.getElem?_eq_getElem (by omega)] at this
    simp at this; simp [this]⟩]
theorem SlB.cellAt {w : World} {b off n cap : Nat} {l sp : List UInt8} (h : SlB w (.slice (some ⟨b, off, none⟩) n cap) l sp) (k : Nat) (hk : k < l.length) : w.cell? ⟨b, off + k, none⟩ = some (.int .u8 l[k].toNat) := by
  obtain ⟨h1, h2 | ⟨a, h2, h3, h4⟩ | ⟨b', off', cap', h2, h3, h4, h5, h6⟩⟩ := h
  · cases h2.1
  · omega
  · cases h2
    exact h6 k _ (by rw [List.getElem?_append_left (by simpa [bvs_length] using hk), bvs_get, List.getElem?_eq_getElem hk]; rfl)
theorem SlB.cases {w : World} {v : Value} {l sp : List UInt8} (h : SlB w v l sp) : (v = .slice none 0 0 ∧ l = []) ∨ (∃ a, v = .slice (some a) 0 0 ∧ l = []) ∨ ∃ b off cap, v = .slice (some ⟨b, off, none⟩) l.length cap ∧ l.length ≤ cap ∧ cap ≤ maxLen := by
  obtain ⟨h1, ⟨h2, h3, h4⟩ | ⟨a, h2, h3, h4⟩ | ⟨b', off', cap', h2, h3, h4, h5, h6⟩⟩ := h
  · exact .inl ⟨h2, List.eq_nil_of_length_eq_zero h3⟩
  · exact .inr (.inl ⟨a, h2, List.eq_nil_of_length_eq_zero h3⟩)
  · exact .inr (.inr ⟨b', off', cap', h2, h3, h4⟩)
def NoughtRel (l : List UInt8) (c : Value) : Prop := ∃ k : Nat, k ≤ l.length ∧ c = .int .i64 k ∧ ∀ j, j < k → l[j]? = some 0
set_option maxHeartbeats 1000000 in
theorem indexFunc_any (v : Value) (l sp : List UInt8) (w : World) (hS : SlB w v l sp) :
    Calls Tryz.prog 180 #[v, .func (.func 181) #[] #[]] w fun r w' => r = .returned (.int .i64 (firstNot l)) ∧ w' = w := by
  rcases hS.cases with ⟨rfl, rfl⟩ | ⟨a, rfl, rfl⟩ | ⟨b, off, cap, rfl, hc1, hc2⟩
  iterate 2
    · go_enter Tryz.func180, Tryz.ntmps180
      go_wp2
      go_loop [8] (fun c => c = .int .i64 0) (fun _ => 0)
      case atStart => rfl
      case round =>
        subst hrel
        go_wp2
        go_ret
        exact ⟨rfl, rfl⟩
  · have HC := Lib.hid hS.cellAt
    have hm : (l.length : Int) ≤ 9223372036854775807 := by simp [maxLen] at hc2; omega
    clear hS hc2
    go_enter Tryz.func180, Tryz.ntmps180
    go_wp2
    go_loop [8] (NoughtRel l) (fun c => l.length - (intOf c).toNat)
    case atStart => exact ⟨0, Nat.zero_le _, rfl, fun j hj => by omega⟩
    case round =>
      obtain ⟨k, hk, rfl, hz⟩ := hrel
      have HZ := Lib.hid hz
      clear hz
      by_cases hlt : k < l.length
      · have hc := HC.out k hlt
        by_cases h0 : l[k] = 0
        · have hb : (l[k] != 0) = false := by simp [h0]
          have H0 := Lib.hid h0
          clear h0
          generalize hg : l[k] = x at *
          have HG := Lib.hid hg
          clear hg
          go_wp2_with (go_at_call 181; refine (cl80_any _ _).mono ?_; rintro r w' ⟨rfl, rfl⟩)
          refine ⟨⟨k + 1, by omega, by go_num, fun j hj => ?_⟩, by simp [intOf]; omega⟩
          rcases Nat.lt_or_ge j k with h | h
          · exact HZ.out j h
          · obtain rfl : j = k := by omega
            rw [List.getElem?_eq_getElem hlt, HG.out, H0.out]
        · have hb : (l[k] != 0) = true := by simp [h0]
          have H0 := Lib.hid h0
          clear h0
          generalize hg : l[k] = x at *
          have HG := Lib.hid hg
          clear hg
          go_wp2_with (go_at_call 181; refine (cl80_any _ _).mono ?_; rintro r w' ⟨rfl, rfl⟩)
          go_ret
          refine ⟨?_, rfl⟩
          rw [firstNot_some hlt HZ.out (by rw [HG.out]; exact H0.out)]
          rfl
      · obtain rfl : k = l.length := by omega
        go_wp2
        go_ret
        exact ⟨by rw [firstNot_none HZ.out]; rfl, rfl⟩
theorem dn_yes (v : Value) (l sp : List UInt8) (at' : Int) (w : World) (hS : SlB w v l sp) (h : firstNot l < 0) (h0 : 0 ≤ at') (h9 : at' < 1000000000000) :
    Calls Tryz.prog 158 #[v, .int .i64 at'] w fun r w' => r = .returned (.tuple #[]) ∧ w' = w := by
  obtain ⟨a, cap, rfl, _, _⟩ := hS.form
  generalize hf : firstNot l = f at *
  have hm : -1 ≤ f := by rw [← hf]; unfold firstNot; split <;> omega
  have HF := Lib.hid hf
  clear hf
  go_enter Tryz.func158, Tryz.ntmps158
  go_wp2_with (first | (go_at_call 180; refine (indexFunc_any _ l sp _ hS).mono ?_; rw [HF.out]; rintro r w' ⟨rfl, rfl⟩) | (go_at_call 148; refine (demand_yes _ _ _).mono ?_; rintro r w' ⟨rfl, rfl⟩))
  go_end0
  exact ⟨rfl, rfl⟩
theorem dn_no (v : Value) (l sp : List UInt8) (at' : Int) (w : World) (hS : SlB w v l sp) (h : 0 ≤ firstNot l) (h0 : 0 ≤ at') (h9 : at' < 1000000000000) (hl : firstNot l < 1000000000000) :
    Calls Tryz.prog 158 #[v, .int .i64 at'] w fun r w' => r = GaveUp 4 (at' + firstNot l) ∧ w' = w := by
  obtain ⟨a, cap, rfl, _, _⟩ := hS.form
  generalize hf : firstNot l = f at *
  have HF := Lib.hid hf
  have hd : decide (f < 0) = false := by simp; omega
  clear hf
  go_enter Tryz.func158, Tryz.ntmps158
  go_wp2_with (first | (go_at_call 180; refine (indexFunc_any _ l sp _ hS).mono ?_; rw [HF.out]; rintro r w' ⟨rfl, rfl⟩) | (go_at_call 148; refine (demand_no _ _ _).mono ?_; rintro r w' ⟨rfl, rfl⟩; unfold GaveUp))
  exact ⟨rfl, rfl, rfl⟩
set_option maxHeartbeats 1000000 in
theorem RLeft_any (br : Nat) (v : Value) (l sp : List UInt8) (p : Nat) (fe fa : Int) (w : World) (hR : Rd w br v l sp p fe fa) (hp : p ≤ l.length) (hl : l.length ≤ 1000000000) :
    Calls Tryz.prog 173 #[.pointer (some ⟨br, 0, none⟩)] w fun r w' => r = .returned (.int .i64 ((l.length : Int) - p)) ∧ ∃ n, w' = w.drewN n := by
  obtain ⟨h1, h2, h3⟩ := hR
  obtain ⟨a, cap, rfl, hc1, hc2⟩ := h2.sl.form
  have c0 : w.cell? ⟨br, 0, none⟩ = some (.pointer (some ⟨br, 0, none⟩)) := by rw [cell_of_heap h1]; rfl
  have c1 : w.cell? ⟨br, 1, none⟩ = some (.slice a l.length cap) := by rw [cell_of_heap h1]; rfl
  have c2 : w.cell? ⟨br, 2, none⟩ = some (.int .i64 p) := by rw [cell_of_heap h1]; rfl
  clear h1
  have hin : IntKind.i64.wrap ((l.length : Int) - p) = (l.length : Int) - p := IntWalk.i64_in _ (by omega)
  have HI := Lib.hid hin
  clear hin hp hc1 hc2
  go_enter Tryz.func173, Tryz.ntmps173
  go_wp2_with (go_at_call 159; refine (rmade_yes br _ c0).mono ?_; rintro r w' ⟨rfl, rfl⟩)
  have hin := HI.out
  go_quiet (fail)
  go_wp2
  go_ret
  exact ⟨rfl, _, rfl⟩
end Go.Proofs.YtjdejhgfkjeeiaaGreatDoor

namespace Go.Proofs.YtjdejhgfkjeeiaaGreatDoor
open Go.RowKit
set_option linter.unusedVariables false
set_option maxRecDepth 100000
set_option linter.unusedSimpArgs false

/-- A cut of a row that can be read can be read. -/
theorem SlB.cut {w : World} {a : Option Addr} {n cap : Nat} {l sp : List UInt8} (h : SlB w (.slice a n cap) l sp) (lo hi : Nat) (h1 : lo ≤ hi) (h2 : hi ≤ l.length) :
    SlB w (.slice (if cap = lo then a else a.map (·.add (lo * 1))) (hi - lo) (cap - lo)) ((l.drop lo).take (hi - lo)) (l.drop hi ++ sp) := by
  have hlen : ((l.drop lo).take (hi - lo)).length = hi - lo := by simp; omega
  obtain ⟨k1, ⟨k2, k3, k4⟩ | ⟨a, k2, k3, k4⟩ | ⟨b, off, c, k2, k3, k4, k5, k6⟩⟩ := h
  · cases k2
    obtain rfl : l = [] := List.eq_nil_of_length_eq_zero k3
    obtain rfl : sp = [] := by simpa [bvs] using k4
    simp at h2
    subst h2
    obtain rfl : lo = 0 := by omega
    simpa using SlB.nil w
  · cases k2
    obtain rfl : l = [] := List.eq_nil_of_length_eq_zero k3
    obtain rfl : sp = [] := by simpa [bvs] using k4
    simp at h2
    subst h2
    obtain rfl : lo = 0 := by omega
    exact ⟨rfl, .inr (.inl ⟨a, rfl, rfl, rfl⟩)⟩
  · cases k2
    have hc : cap = l.length + sp.length := by simpa [bvs_length] using k5.symm
    have hl : l.drop lo = (l.drop lo).take (hi - lo) ++ l.drop hi := by
      conv => lhs; rw [← List.take_append_drop (hi - lo) (l.drop lo)]
      rw [List.drop_drop, show lo + (hi - lo) = hi by omega]
    by_cases hcl : cap = lo
    · rw [if_pos hcl]
      have e1 : hi = lo := by omega
      have e2 : lo = l.length := by omega
      obtain rfl : sp = [] := List.eq_nil_of_length_eq_zero (by omega)
      subst e1
      refine ⟨by simp [bvs], .inr (.inr ⟨b, off, cap - hi, by simp, by omega, by omega, by simp [bvs]; omega, fun i u hu => ?_⟩)⟩
      rw [show List.drop hi l = [] from List.drop_eq_nil_of_le (by omega)] at hu
      simp [bvs] at hu
    · rw [if_neg hcl]
      refine ⟨by simp [bvs], .inr (.inr ⟨b, off + lo, cap - lo, by simp [add_plain]; omega, by omega, by omega, by simp [bvs]; omega, fun i u hu => ?_⟩)⟩
      have := k6 (lo + i) u (by
        rw [← bvs_append] at hu ⊢
        rw [← List.append_assoc, ← hl, ← List.drop_append_of_le_length (by omega)] at hu
        simpa [bvs] using hu)
      rw [Nat.add_assoc]
      exact this
theorem slice_lh {P : Program} {tS T : TypeId} (B : ByteTys P tS T) {w : World} {a : Option Addr} {n cap : Nat} {l sp : List UInt8} (h : SlB w (.slice a n cap) l sp) (lo hi : Nat) (h1 : lo ≤ hi) (h2 : hi ≤ l.length) :
    ∃ a' c', (∀ (x y : Int) (wx : World), x = lo → y = hi → (Instr.slice tS (.slice a n cap) (some (.int .i64 x)) (some (.int .i64 y)) none).run P wx = .ok (.slice a' (hi - lo) c') wx) ∧
      SlB w (.slice a' (hi - lo) c') ((l.drop lo).take (hi - lo)) (l.drop hi ++ sp) := by
  obtain ⟨a2, c2, e, hle, hm⟩ := h.form
  cases e
  refine ⟨_, _, fun x y wx hx hy => ?_, h.cut lo hi h1 h2⟩
  subst hx
  subst hy
  obtain ⟨i, hi', hz, hs, hby⟩ := info_parts B.info
  have he : P.elem tS = T := by simp [Program.elem, B.sl]
  have hsz : (sizeOf (P.elem tS)).run P wx = .ok 1 wx := by rw [he]; simp [sizeOf, typeInfo, hi', hs]
  rw [run_slice_lh (P := P) wx tS a l.length cap (by rw [he]; exact B.sl) .i64 .i64 lo hi (by omega) (by omega) (by omega), hsz]
  simp [Result.andThen, sliced]
theorem slice_l {P : Program} {tS T : TypeId} (B : ByteTys P tS T) {w : World} {a : Option Addr} {n cap : Nat} {l sp : List UInt8} (h : SlB w (.slice a n cap) l sp) (lo : Nat) (h1 : lo ≤ l.length) :
    ∃ a' c', (∀ (x : Int) (wx : World), x = lo → (Instr.slice tS (.slice a n cap) (some (.int .i64 x)) none none).run P wx = .ok (.slice a' (l.length - lo) c') wx) ∧
      SlB w (.slice a' (l.length - lo) c') (l.drop lo) sp := by
  obtain ⟨a2, c2, e, hle, hm⟩ := h.form
  cases e
  have hc := h.cut lo l.length h1 (Nat.le_refl _)
  rw [List.take_of_length_le (by simp), List.drop_length, List.nil_append] at hc
  refine ⟨_, _, fun x wx hx => ?_, hc⟩
  subst hx
  obtain ⟨i, hi', hz, hs, hby⟩ := info_parts B.info
  have he : P.elem tS = T := by simp [Program.elem, B.sl]
  have hsz : (sizeOf (P.elem tS)).run P wx = .ok 1 wx := by rw [he]; simp [sizeOf, typeInfo, hi', hs]
  rw [run_slice_l (P := P) wx tS a l.length cap (by rw [he]; exact B.sl) .i64 lo (by omega) (by omega), hsz]
  simp [Result.andThen, sliced]
def Ahead (w : World) (l : List UInt8) (p n : Nat) (r : Ending) (w' : World) : Prop := ∃ a' c' sp', r = .returned (.slice a' n c') ∧ SlB w' (.slice a' n c') ((l.drop p).take n) sp' ∧ Frm [] w w'
set_option maxHeartbeats 1000000 in
theorem ahead_yes (br : Nat) (v : Value) (l sp : List UInt8) (p n : Nat) (fe fa : Int) (w : World) (hR : Rd w br v l sp p fe fa) (hl : l.length ≤ 1000000000) (hn : p + n ≤ l.length) :
    Calls Tryz.prog 149 #[.pointer (some ⟨br, 0, none⟩), .int .i64 n] w fun r w' => Ahead w l p n r w' := by
  have hR' := hR
  obtain ⟨h1, h2, h3⟩ := hR
  obtain ⟨a, cap, rfl, hc1, hc2⟩ := h2.sl.form
  have c0 : w.cell? ⟨br, 0, none⟩ = some (.pointer (some ⟨br, 0, none⟩)) := by rw [cell_of_heap h1]; rfl
  have c1 : w.cell? ⟨br, 1, none⟩ = some (.slice a l.length cap) := by rw [cell_of_heap h1]; rfl
  have c2 : w.cell? ⟨br, 2, none⟩ = some (.int .i64 p) := by rw [cell_of_heap h1]; rfl
  obtain ⟨q, hq⟩ : ∃ q, q = p + n := ⟨_, rfl⟩
  obtain ⟨a', c', hsl, hS'⟩ := slice_lh BT h2.sl p q (by omega) (by omega)
  rw [show q - p = n by omega] at hsl hS'
  clear h1
  have hd : decide ((n : Int) ≤ (l.length : Int) - (p : Int)) = true := by simp; omega
  have hsum : IntKind.i64.wrap ((p : Int) + n) = (q : Int) := by rw [IntWalk.i64_in _ (by omega)]; omega
  have hb1 : (p : Int) ≤ (q : Int) := by omega
  have hb2 : (q : Int) ≤ (cap : Int) := by omega
  have hsl2 := fun wx => hsl p q wx rfl rfl
  have HS := Lib.hid hsum
  clear hsl hsum hq
  go_enter Tryz.func149, Tryz.ntmps149
  go_wp2
  go_region_held3 (fun x => x.cell? ⟨br, 1, none⟩ = some (.slice a l.length cap))
    (first | go_keep)
    (first | (go_at_call 173; refine (RLeft_any br _ l sp p fe fa _ (hR'.keep ((Frm.refl [] _).drewN _) (by simp) (by simp)) (by omega) hl).mono ?_; rintro r w1 ⟨rfl, nn, rfl⟩) | (go_at_call 148; refine (demand_yes _ _ _).mono ?_; rintro r w1 ⟨rfl, rfl⟩))
  have hsum := HS.out
  go_wp2
  go_quiet (fail)
  go_wp2
  go_ret
  exact ⟨a', c', _, rfl, SlB.keep (L := []) hS' (((Frm.refl [] _).drewN _).drewN _) (fun _ _ => List.not_mem_nil), ((Frm.refl [] _).drewN _).drewN _⟩
end Go.Proofs.YtjdejhgfkjeeiaaGreatDoor

namespace Go.Proofs.YtjdejhgfkjeeiaaGreatDoor
open Go.RowKit
set_option linter.unusedVariables false
set_option maxRecDepth 100000
set_option maxHeartbeats 1000000 in
theorem ahead_no (br : Nat) (v : Value) (l sp : List UInt8) (p n : Nat) (fe fa : Int) (w : World) (hR : Rd w br v l sp p fe fa) (hl : l.length ≤ 1000000000) (hp : p ≤ l.length) (hn : l.length < p + n) :
    Calls Tryz.prog 149 #[.pointer (some ⟨br, 0, none⟩), .int .i64 n] w fun r w' => r = GaveUp 4 l.length ∧ Frm [] w w' := by
  have hR' := hR
  obtain ⟨h1, h2, h3⟩ := hR
  obtain ⟨a, cap, rfl, hc1, hc2⟩ := h2.sl.form
  have c0 : w.cell? ⟨br, 0, none⟩ = some (.pointer (some ⟨br, 0, none⟩)) := by rw [cell_of_heap h1]; rfl
  have c1 : w.cell? ⟨br, 1, none⟩ = some (.slice a l.length cap) := by rw [cell_of_heap h1]; rfl
  clear h1
  have hd : decide ((n : Int) ≤ (l.length : Int) - (p : Int)) = false := by simp; omega
  go_enter Tryz.func149, Tryz.ntmps149
  go_wp2
  go_region_dies
  all_goals
    rename_i hK
    refine (RLeft_any br _ l sp p fe fa _ (hR'.keep ((Frm.refl [] _).drewN 1) (by simp) (by simp)) (by omega) hl).mono ?_
    rintro r w1 ⟨rfl, nn, rfl⟩
    refine hK _ _ ?_
    clear hK
    (refine wpAny_take (i := 3) (v := ?_) rfl (by kernel_rfl) (by kernel_rfl) (by kernel_rfl) (fun _ _ _ h => h) (Or.inl ⟨by rfl, ?_⟩) ?_; rotate_left; (focus (intro w; go_simp; try with_reducible rfl)))
  · (refine wpAny_ready (rs := [7]) (by kernel_rfl) (by simp) ?_; refine AllReady.cons rfl (fun K hK => ?_) ?_; rotate_left; (focus exact AllReady.nil); go_simp; refine hK _ _ ?_; clear hK K)
    (refine wpAny_ready (rs := [8]) (by kernel_rfl) (by simp) ?_; refine AllReady.cons rfl (fun K hK => ?_) ?_; rotate_left; (focus exact AllReady.nil); go_simp; refine hK _ _ ?_; clear hK K)
    (refine wpAny_ready (rs := [9]) (by kernel_rfl) (by simp) ?_; refine AllReady.cons rfl (fun K hK => ?_) ?_; rotate_left; (focus exact AllReady.nil); go_simp; refine (demand_no _ _ _).mono ?_; rintro r w1 ⟨rfl, rfl⟩; unfold GaveUp; exact ⟨rfl, rfl, (Frm.refl [] _).drewN _⟩)
  · (refine wpAny_ready (rs := [8]) (by kernel_rfl) (by simp) ?_; refine AllReady.cons rfl (fun K hK => ?_) ?_; rotate_left; (focus exact AllReady.nil); go_simp; refine hK _ _ ?_; clear hK K)
    (refine wpAny_ready (rs := [9]) (by kernel_rfl) (by simp) ?_; refine AllReady.cons rfl (fun K hK => ?_) ?_; rotate_left; (focus exact AllReady.nil); go_simp; refine (demand_no _ _ _).mono ?_; rintro r w1 ⟨rfl, rfl⟩; unfold GaveUp; exact ⟨rfl, rfl, (Frm.refl [] _).drewN _⟩)
  · (refine wpAny_ready (rs := [9]) (by kernel_rfl) (by simp) ?_; refine AllReady.cons rfl (fun K hK => ?_) ?_; rotate_left; (focus exact AllReady.nil); go_simp; refine (demand_no _ _ _).mono ?_; rintro r w1 ⟨rfl, rfl⟩; unfold GaveUp; exact ⟨rfl, rfl, (Frm.refl [] _).drewN _⟩)
end Go.Proofs.YtjdejhgfkjeeiaaGreatDoor

namespace Go.Proofs.YtjdejhgfkjeeiaaGreatDoor
open Go.RowKit
set_option linter.unusedVariables false
set_option maxRecDepth 100000
set_option linter.unusedSimpArgs false

def beNat : List UInt8 → Nat := List.foldl (fun n b => n * 256 + b.toNat) 0
theorem beNat_snoc (l : List UInt8) (b : UInt8) : beNat (l ++ [b]) = beNat l * 256 + b.toNat := by simp [beNat]
theorem beNat_foldl (l : List UInt8) : ∀ n, l.foldl (fun n b => n * 256 + b.toNat) n < (n + 1) * 256 ^ l.length := by
  induction l with
  | nil => intro n; simp
  | cons b l ih =>
    intro n
    have h1 := ih (n * 256 + b.toNat)
    have h2 := b.toNat_lt
    have h3 : (n * 256 + b.toNat + 1) * 256 ^ l.length ≤ ((n + 1) * 256) * 256 ^ l.length := Nat.mul_le_mul_right _ (by omega)
    simp only [List.foldl_cons, List.length_cons, Nat.pow_succ]
    calc _ < _ := h1
      _ ≤ _ := h3
      _ = _ := by rw [Nat.mul_assoc, Nat.mul_comm 256]
theorem beNat_lt (l : List UInt8) : beNat l < 256 ^ l.length := by simpa [beNat] using beNat_foldl l 0
theorem i64_or_nat (a b : Nat) (ha : a < 9223372036854775808) (hb : b < 9223372036854775808) : bits BinOp.or IntKind.i64 (a : Int) (b : Int) = ((a ||| b : Nat) : Int) := by
  have h := Nat.or_lt_two_pow (n := 63) (show a < 2 ^ 63 by omega) (show b < 2 ^ 63 by omega)
  have e : ∀ n : Nat, n < 9223372036854775808 → (BitVec.ofInt 64 (n : Int)).toNat = n := by
    intro n hn
    simp [BitVec.toNat_ofInt]
    omega
  show IntKind.i64.wrap ((BitVec.ofInt 64 (a : Int) ||| BitVec.ofInt 64 (b : Int)).toNat : Int) = _
  rw [BitVec.toNat_or, e a ha, e b hb, IntKind.wrap_i64]
  omega
theorem or_low (a b : Nat) (h : b < 256) : a * 256 ||| b = a * 256 + b := by
  rw [show a * 256 = a <<< 8 by rw [Nat.shiftLeft_eq], Nat.shiftLeft_add_eq_or_of_lt (by simpa using h)]
def BanRel (l : List UInt8) (c n : Value) : Prop := ∃ k m : Nat, k ≤ l.length ∧ c = .int .i64 k ∧ n = .int .i64 m ∧ m = beNat (l.take k) ∧ m < 256 ^ k
set_option maxHeartbeats 1000000 in
theorem ban_any (v : Value) (l sp : List UInt8) (w : World) (hS : SlB w v l sp) (h7 : l.length ≤ 7) :
    Calls Tryz.prog 175 #[v] w fun r w' => r = .returned (.int .i64 (beNat l)) ∧ w' = w := by
  rcases hS.cases with ⟨rfl, rfl⟩ | ⟨a, rfl, rfl⟩ | ⟨b, off, cap, rfl, hc1, hc2⟩
  iterate 2
    · go_enter Tryz.func175, Tryz.ntmps175
      go_wp2
      go_loop [3, 8] (fun n c => c = .int .i64 0 ∧ n = .int .i64 0) (fun _ _ => 0)
      case atStart => exact ⟨rfl, rfl⟩
      case round =>
        obtain ⟨rfl, rfl⟩ := hrel
        go_wp2
        go_ret
        exact ⟨rfl, rfl⟩
  · have HC := Lib.hid hS.cellAt
    clear hS hc2
    go_enter Tryz.func175, Tryz.ntmps175
    go_wp2
    go_loop [3, 8] (fun n c => BanRel l c n) (fun _ c => l.length - (intOf c).toNat)
    case atStart => exact ⟨0, 0, Nat.zero_le _, rfl, rfl, by simp [beNat], by simp⟩
    case round =>
      obtain ⟨k, m, hk, rfl, rfl, hm, hlt⟩ := hrel
      by_cases hkl : k < l.length
      · have hc := HC.out k hkl
        have hb : m * 256 < 9223372036854775808 := by
          have : 256 ^ k ≤ 256 ^ 6 := Nat.pow_le_pow_right (by omega) (by omega)
          omega
        have HM := Lib.hid hm
        have HB := Lib.hid hb
        have HL := Lib.hid hlt
        have hu := l[k].toNat_lt
        generalize hg : l[k] = x at *
        have HG := Lib.hid hg
        clear hg hm hb hlt
        go_wp2
        refine ⟨⟨k + 1, m * 256 + x.toNat, by omega, by go_num, ?_, ?_, ?_⟩, by simp [intOf]; omega⟩
        · have := HB.out
          rw [IntWalk.wrap64_in _ (by omega), show ((m : Int) * 256) = ((m * 256 : Nat) : Int) by omega, i64_or_nat _ _ (by omega) (by omega), or_low _ _ hu]
        · rw [List.take_succ_eq_append_getElem hkl, HG.out, beNat_snoc, HM.out]
        · have := HL.out; rw [Nat.pow_succ]; omega
      · obtain rfl : k = l.length := by omega
        have HM := Lib.hid hm
        clear hm hlt
        go_wp2
        go_ret
        refine ⟨?_, rfl⟩
        rw [HM.out, List.take_length]
        rfl
end Go.Proofs.YtjdejhgfkjeeiaaGreatDoor

namespace Go.Proofs.YtjdejhgfkjeeiaaGreatDoor
open Go.RowKit
set_option linter.unusedVariables false
set_option maxRecDepth 100000
set_option linter.unusedSimpArgs false

/-- What reading a number comes to: a fault, or the number. -/
def numRead (l : List UInt8) (p : Nat) (size low high : Int) : (Int × Int) ⊕ Nat :=
  if isSizeB size = false then .inl (2, p) else if l.length < p + size.toNat then .inl (4, l.length) else
  if (beNat ((l.drop p).take size.toNat) : Int) < low ∨ high < (beNat ((l.drop p).take size.toNat) : Int) then .inl (5, p) else .inr (beNat ((l.drop p).take size.toNat))
set_option maxHeartbeats 2000000 in
theorem rnum_fault (bs bq br bl bh bn : Nat) (v : Value) (l sp : List UInt8) (p : Nat) (fe fa size low high e a : Int) (w : World) (hR : Rd w br v l sp p fe fa) (hp : p ≤ l.length) (hl : l.length ≤ 1000000000)
    (cs : w.cell? ⟨bs, 0, none⟩ = some (.int .i64 size)) (cr : w.cell? ⟨bq, 0, none⟩ = some (.pointer (some ⟨br, 0, none⟩)))
    (cl : w.cell? ⟨bl, 0, none⟩ = some (.int .i64 low)) (ch : w.cell? ⟨bh, 0, none⟩ = some (.int .i64 high)) (hx : numRead l p size low high = .inl (e, a)) :
    Calls Tryz.prog 174 #[.pointer (some ⟨bs, 0, none⟩), .pointer (some ⟨bq, 0, none⟩), .pointer (some ⟨bl, 0, none⟩), .pointer (some ⟨bh, 0, none⟩), .pointer (some ⟨bn, 0, none⟩)] w fun r w' => r = GaveUp e a ∧ Frm [] w w' := by
  have hR' := hR
  obtain ⟨h1, h2, h3⟩ := hR
  have c2 : w.cell? ⟨br, 2, none⟩ = some (.int .i64 p) := by rw [cell_of_heap h1]; rfl
  clear h1
  unfold numRead at hx
  split at hx
  · rename_i hs
    simp only [Sum.inl.injEq, Prod.mk.injEq] at hx
    obtain ⟨rfl, rfl⟩ := hx
    clear cl ch
    go_enter Tryz.func174, Tryz.ntmps174
    go_wp2
    refine wp_region_still_tail 6 (by kernel_rfl) (by kernel_rfl) ?_
    simp only [List.take_succ_cons, List.take_zero, List.drop_succ_cons, List.drop_zero]
    still_step
    still_call (isSize_any _ _)
    repeat still_step
    refine wpStill_nil ?_
    go_wp2_with (go_at_call 148; refine (demand_no _ _ _).mono ?_; rintro r w1 ⟨rfl, rfl⟩; unfold GaveUp)
    exact ⟨rfl, rfl, (Frm.refl [] _).drewN 1⟩
  · rename_i hs
    have hs' : isSizeB size = true := by simpa using hs
    have hb : 1 ≤ size ∧ size ≤ 7 := by simpa [isSizeB] using hs'
    obtain ⟨hb1, hb2⟩ := hb
    clear hs
    obtain ⟨s, rfl⟩ := Int.eq_ofNat_of_zero_le (show 0 ≤ size by omega)
    simp only [Int.toNat_natCast] at hx
    split at hx
    · rename_i hlt
      simp only [Sum.inl.injEq, Prod.mk.injEq] at hx
      obtain ⟨rfl, rfl⟩ := hx
      clear cl ch
      go_enter Tryz.func174, Tryz.ntmps174
      go_wp2
      refine wp_region_still_tail 6 (by kernel_rfl) (by kernel_rfl) ?_
      simp only [List.take_succ_cons, List.take_zero, List.drop_succ_cons, List.drop_zero]
      still_step
      still_call (isSize_any _ _)
      repeat still_step
      refine wpStill_nil ?_
      go_wp2_with (first | (go_at_call 148; refine (demand_yes _ _ _).mono ?_; rintro r w1 ⟨rfl, rfl⟩) | (go_at_call 149; refine (ahead_no br v l sp p s fe fa _ (hR'.keep ((Frm.refl [] _).drewN 1) (by simp) (by simp)) hl hp hlt).mono ?_; rintro r w1 ⟨rfl, f1⟩; unfold GaveUp))
      exact ⟨rfl, rfl, ((Frm.refl [] _).drewN 1).trans f1 (by simp)⟩
    · rename_i hge
      have hge' : p + s ≤ l.length := by omega
      clear hge
      have hml : ((l.drop p).take s).length ≤ 7 := by simp; omega
      generalize hm : beNat ((l.drop p).take s) = m at *
      have HM := Lib.hid hm
      clear hm
      split at hx
      · rename_i hrange
        simp only [Sum.inl.injEq, Prod.mk.injEq] at hx
        obtain ⟨rfl, rfl⟩ := hx
        by_cases hlow : (m : Int) < low
        · have hd1 : decide (low ≤ (m : Int)) = false := by simp; omega
          clear hrange
          go_enter Tryz.func174, Tryz.ntmps174
          go_wp2
          refine wp_region_still_tail 6 (by kernel_rfl) (by kernel_rfl) ?_
          simp only [List.take_succ_cons, List.take_zero, List.drop_succ_cons, List.drop_zero]
          still_step
          still_call (isSize_any _ _)
          repeat still_step
          refine wpStill_nil ?_
          go_wp2_with (first | (go_at_call 148; refine (demand_yes _ _ _).mono ?_; rintro r w1 ⟨rfl, rfl⟩) | (go_at_call 149; refine (ahead_yes br v l sp p s fe fa _ (hR'.keep ((Frm.refl [] _).drewN 1) (by simp) (by simp)) hl hge').mono ?_; rintro r w1 ⟨a', c', sp', rfl, s1, f1⟩; have q1 : w1.cell? ⟨bq, 0, none⟩ = some (.pointer (some ⟨br, 0, none⟩)) := f1.cell cr (by simp); have q2 : w1.cell? ⟨br, 2, none⟩ = some (.int .i64 p) := f1.cell c2 (by simp); have q3 : w1.cell? ⟨bl, 0, none⟩ = some (.int .i64 low) := f1.cell cl (by simp); have q4 : w1.cell? ⟨bh, 0, none⟩ = some (.int .i64 high) := f1.cell ch (by simp); have q5 : w1.cell? ⟨bs, 0, none⟩ = some (.int .i64 s) := f1.cell cs (by simp)) | (go_at_call 175; refine (ban_any _ _ sp' _ s1 hml).mono ?_; rw [HM.out]; rintro r w2 ⟨rfl, rfl⟩))
          refine wp_region_still_tail 12 (by kernel_rfl) (by kernel_rfl) ?_
          simp only [List.take_succ_cons, List.take_zero, List.drop_succ_cons, List.drop_zero]
          repeat still_step
          refine wpStill_nil ?_
          go_wp2_with (go_at_call 148; refine (demand_no _ _ _).mono ?_; rintro r w2 ⟨rfl, rfl⟩; unfold GaveUp)
          exact ⟨rfl, rfl, (((Frm.refl [] _).drewN 1).trans f1 (by simp)).drewN 1⟩
        · have hd1 : decide (low ≤ (m : Int)) = true := by simp; omega
          have hd2 : decide ((m : Int) ≤ high) = false := by simp; omega
          clear hrange
          go_enter Tryz.func174, Tryz.ntmps174
          go_wp2
          refine wp_region_still_tail 6 (by kernel_rfl) (by kernel_rfl) ?_
          simp only [List.take_succ_cons, List.take_zero, List.drop_succ_cons, List.drop_zero]
          still_step
          still_call (isSize_any _ _)
          repeat still_step
          refine wpStill_nil ?_
          go_wp2_with (first | (go_at_call 148; refine (demand_yes _ _ _).mono ?_; rintro r w1 ⟨rfl, rfl⟩) | (go_at_call 149; refine (ahead_yes br v l sp p s fe fa _ (hR'.keep ((Frm.refl [] _).drewN 1) (by simp) (by simp)) hl hge').mono ?_; rintro r w1 ⟨a', c', sp', rfl, s1, f1⟩; have q1 : w1.cell? ⟨bq, 0, none⟩ = some (.pointer (some ⟨br, 0, none⟩)) := f1.cell cr (by simp); have q2 : w1.cell? ⟨br, 2, none⟩ = some (.int .i64 p) := f1.cell c2 (by simp); have q3 : w1.cell? ⟨bl, 0, none⟩ = some (.int .i64 low) := f1.cell cl (by simp); have q4 : w1.cell? ⟨bh, 0, none⟩ = some (.int .i64 high) := f1.cell ch (by simp); have q5 : w1.cell? ⟨bs, 0, none⟩ = some (.int .i64 s) := f1.cell cs (by simp)) | (go_at_call 175; refine (ban_any _ _ sp' _ s1 hml).mono ?_; rw [HM.out]; rintro r w2 ⟨rfl, rfl⟩))
          refine wp_region_still_tail 12 (by kernel_rfl) (by kernel_rfl) ?_
          simp only [List.take_succ_cons, List.take_zero, List.drop_succ_cons, List.drop_zero]
          repeat still_step
          refine wpStill_nil ?_
          go_wp2_with (go_at_call 148; refine (demand_no _ _ _).mono ?_; rintro r w2 ⟨rfl, rfl⟩; unfold GaveUp)
          exact ⟨rfl, rfl, (((Frm.refl [] _).drewN 1).trans f1 (by simp)).drewN 1⟩
      · cases hx
set_option maxHeartbeats 2000000 in
theorem rnum_ok (bs bq br bl bh bn : Nat) (v : Value) (l sp : List UInt8) (p : Nat) (fe fa size low high : Int) (m : Nat) (w : World) (hR : Rd w br v l sp p fe fa) (hp : p ≤ l.length) (hl : l.length ≤ 1000000000)
    (cs : w.cell? ⟨bs, 0, none⟩ = some (.int .i64 size)) (cr : w.cell? ⟨bq, 0, none⟩ = some (.pointer (some ⟨br, 0, none⟩)))
    (cl : w.cell? ⟨bl, 0, none⟩ = some (.int .i64 low)) (ch : w.cell? ⟨bh, 0, none⟩ = some (.int .i64 high)) (hx : numRead l p size low high = .inr m)
    (cn : w.heap[bn]? = some (.cells #[.int .i64 0] 3 (0, 0))) (n1 : bq ≠ bn) (n2 : bs ≠ bn) (n3 : br ≠ bn) (n4 : bn ∉ blk v) :
    Calls Tryz.prog 174 #[.pointer (some ⟨bs, 0, none⟩), .pointer (some ⟨bq, 0, none⟩), .pointer (some ⟨bl, 0, none⟩), .pointer (some ⟨bh, 0, none⟩), .pointer (some ⟨bn, 0, none⟩)] w fun r w' => r = .returned (.tuple #[]) ∧
      Rd w' br v l sp (p + size) fe fa ∧ w'.cell? ⟨bn, 0, none⟩ = some (.int .i64 m) ∧ Frm [br, bn] w w' := by
  have hR' := hR
  obtain ⟨h1, h2, h3⟩ := hR
  have c2 : w.cell? ⟨br, 2, none⟩ = some (.int .i64 p) := by rw [cell_of_heap h1]; rfl
  have H1 := Lib.hid h1
  have HN := Lib.hid cn
  clear h1 cn
  unfold numRead at hx
  split at hx
  · cases hx
  · rename_i hs
    have hs' : isSizeB size = true := by simpa using hs
    have hb : 1 ≤ size ∧ size ≤ 7 := by simpa [isSizeB] using hs'
    obtain ⟨hb1, hb2⟩ := hb
    clear hs
    obtain ⟨s, rfl⟩ := Int.eq_ofNat_of_zero_le (show 0 ≤ size by omega)
    simp only [Int.toNat_natCast] at hx
    split at hx
    · cases hx
    · rename_i hge
      have hge' : p + s ≤ l.length := by omega
      clear hge
      have hml : ((l.drop p).take s).length ≤ 7 := by simp; omega
      split at hx
      · cases hx
      · rename_i hrange
        simp only [Sum.inr.injEq] at hx
        rw [hx] at hrange
        have HM := Lib.hid hx
        clear hx
        have hd1 : decide (low ≤ (m : Int)) = true := by simp; omega
        have hd2 : decide ((m : Int) ≤ high) = true := by simp; omega
        clear hrange
        go_enter Tryz.func174, Tryz.ntmps174
        go_wp2
        refine wp_region_still_tail 6 (by kernel_rfl) (by kernel_rfl) ?_
        simp only [List.take_succ_cons, List.take_zero, List.drop_succ_cons, List.drop_zero]
        still_step
        still_call (isSize_any _ _)
        repeat still_step
        refine wpStill_nil ?_
        go_wp2_with (first | (go_at_call 148; refine (demand_yes _ _ _).mono ?_; rintro r w1 ⟨rfl, rfl⟩) | (go_at_call 149; refine (ahead_yes br v l sp p s fe fa _ (hR'.keep ((Frm.refl [] _).drewN 1) (by simp) (by simp)) hl hge').mono ?_; rintro r w1 ⟨a', c', sp', rfl, s1, f1⟩; have q1 : w1.cell? ⟨bq, 0, none⟩ = some (.pointer (some ⟨br, 0, none⟩)) := f1.cell cr (by simp); have q2 : w1.cell? ⟨br, 2, none⟩ = some (.int .i64 p) := f1.cell c2 (by simp); have q3 : w1.cell? ⟨bl, 0, none⟩ = some (.int .i64 low) := f1.cell cl (by simp); have q4 : w1.cell? ⟨bh, 0, none⟩ = some (.int .i64 high) := f1.cell ch (by simp); have q5 : w1.cell? ⟨bs, 0, none⟩ = some (.int .i64 s) := f1.cell cs (by simp); have q6 : w1.cell? ⟨bn, 0, none⟩ = some (.int .i64 0) := (by rw [cell_of_heap (f1.heap HN.out (by simp))]; rfl); have q7 : w1.frozen? ⟨bn, 0, none⟩ = false := frozen_of_heap (f1.heap HN.out (by simp)) 0; have q8 : w1.frozen? ⟨br, 2, none⟩ = false := frozen_of_heap (f1.heap H1.out (by simp)) 2; have r1 : (w1.setCell ⟨bn, 0, none⟩ (.int .i64 m)).cell? ⟨bq, 0, none⟩ = some (.pointer (some ⟨br, 0, none⟩)) := ((Frm.refl [bn] _).setCell _ _ (by simp)).cell q1 (by simpa using n1); have r2 : (w1.setCell ⟨bn, 0, none⟩ (.int .i64 m)).cell? ⟨br, 2, none⟩ = some (.int .i64 p) := ((Frm.refl [bn] _).setCell _ _ (by simp)).cell q2 (by simpa using n3); have r3 : (w1.setCell ⟨bn, 0, none⟩ (.int .i64 m)).cell? ⟨bs, 0, none⟩ = some (.int .i64 s) := ((Frm.refl [bn] _).setCell _ _ (by simp)).cell q5 (by simpa using n2)) | (go_at_call 175; refine (ban_any _ _ sp' _ s1 hml).mono ?_; rw [HM.out]; rintro r w2 ⟨rfl, rfl⟩))
        refine wp_region_still_tail 12 (by kernel_rfl) (by kernel_rfl) ?_
        simp only [List.take_succ_cons, List.take_zero, List.drop_succ_cons, List.drop_zero]
        repeat still_step
        refine wpStill_nil ?_
        go_wp2_with (go_at_call 148; refine (demand_yes _ _ _).mono ?_; rintro r w2 ⟨rfl, rfl⟩)
        refine wp_region_still_tail 8 (by kernel_rfl) (by kernel_rfl) ?_
        change wpStill _ _ (World.drew _) _ _ _
        simp only [List.take_succ_cons, List.take_zero, List.drop_succ_cons, List.drop_zero]
        repeat still_step
        refine wpStill_nil ?_
        change wpList _ _ _ _ _ (World.drew _)
        go_wp2
        go_end0
        have F : Frm [br, bn] w (((w2.setCell ⟨bn, 0, none⟩ (.int .i64 m)).setCell ⟨br, 2, none⟩ (.int .i64 (p + s)))) := (((((Frm.refl [] w).drewN 1).trans f1 (by simp)).mono (by simp)).setCell _ _ (by simp)).setCell _ _ (by simp)
        refine ⟨rfl, ⟨?_, ?_, h3⟩, ?_, F.drewN 2⟩
        · show (World.setCell _ _ _).heap[br]? = _
          rw [heap_setCell_same _ ((heap_setCell_ne _ n3).trans (f1.heap H1.out (by simp)))]
          rfl
        · exact h2.keep (F.drewN 2) (fun k hk => by simp; exact ⟨fun e => h3 (e ▸ hk), fun e => n4 (e ▸ hk)⟩)
        · show (World.setCell _ _ _).cell? _ = _
          rw [World.cell?_setCell_other _ _ _ _ (by simp)]
          exact World.cell?_setCell_same _ _ _ q6
end Go.Proofs.YtjdejhgfkjeeiaaGreatDoor

namespace Go.Proofs.YtjdejhgfkjeeiaaGreatDoor
open Go.RowKit
set_option linter.unusedVariables false
set_option maxRecDepth 100000
set_option linter.unusedSimpArgs false

/-- A reader's place and fault behind a step. -/
def stepR {α : Type} (s : Nat × Int × Int) (zero : α) (o : (Int × Int) ⊕ α) (n : Nat) : α × (Nat × Int × Int) :=
  if s.2.1 = 0 then match o with | .inl f => (zero, s.1, f.1, f.2) | .inr x => (x, s.1 + n, 0, s.2.2) else (zero, s)
def RdTo (w : World) (br : Nat) (v : Value) (l sp : List UInt8) (s : Nat × Int × Int) (w' : World) : Prop := Rd w' br v l sp s.1 s.2.1 s.2.2 ∧ Frm [br] w w'
theorem heap_alloc_at {w : World} {o : Obj} {n : Nat} (hn : n = w.heap.size) : (w.alloc o).heap[n]? = some o := by subst hn; exact heap_alloc_new _ _
theorem Rd.lt {w : World} {br : Nat} {v : Value} {l sp : List UInt8} {p fe fa : Int} (h : Rd w br v l sp p fe fa) : ∀ k ∈ br :: blk v, k < w.heap.size := by
  intro k hk
  rcases List.mem_cons.1 hk with rfl | hk
  · exact lt_heap h.1
  · exact h.2.1.lt k hk
def rNum (l : List UInt8) (s : Nat × Int × Int) (size low high : Int) : Int × (Nat × Int × Int) := stepR s 0 ((numRead l s.1 size low high).map id (Int.ofNat ·)) size.toNat
set_option maxHeartbeats 2000000 in
theorem RNumR_any (br : Nat) (v : Value) (l sp : List UInt8) (s : Nat × Int × Int) (size low high : Int) (w : World) (hR : Rd w br v l sp s.1 s.2.1 s.2.2) (hp : s.1 ≤ l.length) (hl : l.length ≤ 1000000000) :
    Calls Tryz.prog 150 #[.pointer (some ⟨br, 0, none⟩), .int .i64 size, .int .i64 low, .int .i64 high] w fun r w' =>
      r = .returned (.int .i64 (rNum l s size low high).1) ∧ RdTo w br v l sp (rNum l s size low high).2 w' := by
  obtain ⟨p, fe, fa⟩ := s
  simp only at hR hp
  have hlt := hR.lt
  have f5 : ∀ a b c d e, Frm [] w (((((w.alloc a).alloc b).alloc c).alloc d).alloc e) := fun a b c d e => (((((Frm.refl [] w).alloc _).alloc _).alloc _).alloc _).alloc _
  have hblt := hlt br (by simp)
  have HL := Lib.hid hlt
  have HF := Lib.hid f5
  clear hlt f5
  by_cases hfe : fe = 0
  · subst hfe
    cases hx : numRead l p size low high with
    | inl f =>
      obtain ⟨e, a⟩ := f
      have hr : rNum l (p, 0, fa) size low high = (0, p, e, a) := by simp [rNum, stepR, hx]
      rw [hr]
      have HX := Lib.hid hx
      clear hr hx
      go_enter Tryz.func150, Tryz.ntmps150
      go_wp2_with fail
      refine (uf_gave 174 _ br v l sp p fa e a _ (hR.keep (HF.out _ _ _ _ _) (by simp) (by simp)) (fun w => enter_of Tryz.func174 (by kernel_rfl) (by kernel_rfl) _ w) (fun w1 f1 => ?_)).mono ?_
      · refine rnum_fault _ _ br _ _ _ v l sp p 0 fa size low high e a w1 (hR.keep ((HF.out _ _ _ _ _).trans f1 (by simp)) (by simp) (by simp)) hp hl (f1.cell ?_ (by simp)) (f1.cell ?_ (by simp)) (f1.cell ?_ (by simp)) (f1.cell ?_ (by simp)) HX.out
        all_goals first | (simp [go_sem]; done) | (simp; done) | (simp; omega) | omega
      · rintro r w2 ⟨rfl, h1, h2⟩
        have q0 : w2.cell? ⟨w.heap.size + 1 + 1 + 1 + 1, 0, none⟩ = some (.int .i64 0) := h2.cell (by simp [go_sem]) (by simp; omega)
        go_wp2
        go_ret
        exact ⟨rfl, h1, ((HF.out _ _ _ _ _).mono (by simp)).trans h2 (by simp)⟩
    | inr m =>
      have hr : rNum l (p, 0, fa) size low high = ((m : Int), p + size.toNat, (0 : Int), fa) := by simp [rNum, stepR, hx]
      have hsz : 0 ≤ size := by
        unfold numRead at hx
        split at hx
        · cases hx
        · rename_i hs; have : 1 ≤ size ∧ size ≤ 7 := by simpa [isSizeB] using hs
          omega
      obtain ⟨sz, rfl⟩ := Int.eq_ofNat_of_zero_le hsz
      rw [hr]
      have HX := Lib.hid hx
      clear hr hx hsz
      go_enter Tryz.func150, Tryz.ntmps150
      go_wp2_with fail
      have hnb : w.heap.size + 1 + 1 + 1 + 1 ∉ blk v := fun hm => by have := HL.out _ (List.mem_cons_of_mem _ hm); omega
      refine (uf_ret 174 _ br v l sp p fa (fun w' => RdTo w br v l sp (p + sz, 0, fa) w' ∧ w'.cell? ⟨w.heap.size + 1 + 1 + 1 + 1, 0, none⟩ = some (.int .i64 m)) _ (hR.keep (HF.out _ _ _ _ _) (by simp) (by simp)) (fun w => enter_of Tryz.func174 (by kernel_rfl) (by kernel_rfl) _ w) (fun w1 f1 => ?_)).mono ?_
      · refine (rnum_ok _ _ br _ _ _ v l sp p 0 fa sz low high m w1 (hR.keep ((HF.out _ _ _ _ _).trans f1 (by simp)) (by simp) (by simp)) hp hl (f1.cell ?_ (by simp)) (f1.cell ?_ (by simp)) (f1.cell ?_ (by simp)) (f1.cell ?_ (by simp)) HX.out (f1.heap ?_ (by simp)) ?_ ?_ ?_ hnb).mono ?_
        case refine_9 =>
          rintro r w2 ⟨rfl, g1, g2, g3⟩
          exact ⟨rfl, ⟨by simpa using g1, (((HF.out _ _ _ _ _).mono (by simp)).trans f1 (by simp)).trans g3 (by simp; omega)⟩, g2⟩
        all_goals first | exact heap_alloc_at (by simp) | (simp [go_sem]; done) | (simp; done) | (simp; omega) | omega
      · rintro r w2 ⟨rfl, h1, h2⟩
        go_wp2
        go_ret
        exact ⟨rfl, h1⟩
  · have hr : rNum l (p, fe, fa) size low high = (0, p, fe, fa) := by simp [rNum, stepR, hfe]
    rw [hr]
    clear hr
    go_enter Tryz.func150, Tryz.ntmps150
    go_wp2_with fail
    refine (uf_fault _ br v l sp p fe fa _ (hR.keep (HF.out _ _ _ _ _) (by simp) (by simp)) hfe).mono ?_
    rintro r w2 ⟨rfl, h2⟩
    have q0 : w2.cell? ⟨w.heap.size + 1 + 1 + 1 + 1, 0, none⟩ = some (.int .i64 0) := h2.cell (by simp [go_sem]) (by simp)
    go_wp2
    go_ret
    exact ⟨rfl, hR.keep ((HF.out _ _ _ _ _).trans h2 (by simp)) (by simp) (by simp), ((HF.out _ _ _ _ _).mono (by simp)).trans h2 (by simp)⟩
end Go.Proofs.YtjdejhgfkjeeiaaGreatDoor

namespace Go.Proofs.YtjdejhgfkjeeiaaGreatDoor
open Go.RowKit
set_option linter.unusedVariables false
set_option maxRecDepth 100000
set_option linter.unusedSimpArgs false

def flt (e a : Int) : Value := .agg #[.int .i64 e, .int .i64 a]
theorem RFault_any (br : Nat) (v : Value) (l sp : List UInt8) (p fe fa : Int) (w : World) (hR : Rd w br v l sp p fe fa) :
    Calls Tryz.prog 116 #[.pointer (some ⟨br, 0, none⟩)] w fun r w' => r = .returned (flt fe fa) ∧ Frm [] w w' := by
  obtain ⟨h1, h2, h3⟩ := hR
  have c0 : w.cell? ⟨br, 0, none⟩ = some (.pointer (some ⟨br, 0, none⟩)) := by rw [cell_of_heap h1]; rfl
  have c3 : w.cell? ⟨br, 3, none⟩ = some (.int .i64 fe) := by rw [cell_of_heap h1]; rfl
  have c4 : w.cell? ⟨br, 4, none⟩ = some (.int .i64 fa) := by rw [cell_of_heap h1]; rfl
  have hlt := lt_heap h1
  clear h1
  go_enter Tryz.func116, Tryz.ntmps116
  go_wp2_with (go_at_call 159; refine (rmade_yes br _ (by simp [go_sem, hlt, c0])).mono ?_; rintro r w' ⟨rfl, rfl⟩)
  exact bodyPost_ret (v := flt fe fa) (by simp [results, Tryz.results116, go_sem, flt]) rfl ⟨rfl, (Frm.refl _ _).alloc _⟩
/-- What Open makes. -/
def Opened (w : World) (l : List UInt8) (r : Ending) (w' : World) : Prop :=
  ∃ br a cap sp', r = .returned (.pointer (some ⟨br, 0, none⟩)) ∧ Rd w' br (.slice a l.length cap) l sp' ((0 : Nat) : Int) 0 0 ∧ Frm [] w w' ∧ w.heap.size ≤ br ∧ Fresh w (.slice a l.length cap)
theorem Open_any (v : Value) (l sp : List UInt8) (w : World) (hS : SlB w v l sp) (hl : l.length ≤ 1000000000) :
    Calls Tryz.prog 110 #[v] w fun r w' => Opened w l r w' := by
  obtain ⟨a0, cap0, rfl, _, _⟩ := hS.form
  go_enter Tryz.func110, Tryz.ntmps110
  go_wp2_with (go_at_call 138; refine (Clone_any _ l sp _ hS (by omega)).mono ?_; rintro r w1 ⟨a', cap', sp', rfl, o1, f1, b1⟩)
  go_ret
  refine ⟨w1.heap.size, a', cap', sp', rfl, ⟨heap_alloc_new _ _, o1.keep ((Frm.refl [] _).alloc _) (by simp), fun hm => ?_⟩, f1.alloc _, f1.size, b1⟩
  have := o1.lt _ hm
  omega
end Go.Proofs.YtjdejhgfkjeeiaaGreatDoor

namespace Go.Proofs.YtjdejhgfkjeeiaaGreatDoor
open Go.RowKit
set_option linter.unusedVariables false
set_option linter.unusedSimpArgs false

set_option maxRecDepth 100000 in
set_option maxHeartbeats 2000000 in
theorem rest_fault (bq br : Nat) (v : Value) (l sp : List UInt8) (p : Nat) (fe fa : Int) (w : World) (hR : Rd w br v l sp p fe fa) (hp : p ≤ l.length) (hl : l.length ≤ 1000000000)
    (cr : w.cell? ⟨bq, 0, none⟩ = some (.pointer (some ⟨br, 0, none⟩))) (hf : 0 ≤ firstNot (l.drop p)) (hf2 : firstNot (l.drop p) < 1000000000000) :
    Calls Tryz.prog 157 #[.pointer (some ⟨bq, 0, none⟩)] w fun r w' => r = GaveUp 4 (p + firstNot (l.drop p)) ∧ Frm [] w w' := by
  obtain ⟨h1, h2, h3⟩ := hR
  obtain ⟨a, cap, rfl, hc1, hc2⟩ := h2.sl.form
  have c1 : w.cell? ⟨br, 1, none⟩ = some (.slice a l.length cap) := by rw [cell_of_heap h1]; rfl
  have c2 : w.cell? ⟨br, 2, none⟩ = some (.int .i64 p) := by rw [cell_of_heap h1]; rfl
  obtain ⟨a3, c3, hsl3, s3⟩ := slice_l BT h2.sl p hp
  have hsl3' := fun wx => hsl3 p wx rfl
  have hpi : (p : Int) ≤ (l.length : Int) := by omega
  have HF := Lib.hid hf
  have HF2 := Lib.hid hf2
  clear h1 hsl3 hf hf2
  go_enter Tryz.func157, Tryz.ntmps157
  go_wp2
  refine wp_region_still_tail 13 (by kernel_rfl) (by kernel_rfl) ?_
  simp only [List.take_succ_cons, List.take_zero, List.drop_succ_cons, List.drop_zero]
  repeat still_step
  refine wpStill_nil ?_
  change wpList _ _ _ _ _ (World.drew _)
  go_wp2_with (go_at_call 158; refine (dn_no _ _ _ _ _ (s3.keep (Frm.refl [] w).drew (by simp)) HF.out (by omega) (by omega) HF2.out).mono ?_; rintro r w1 ⟨rfl, rfl⟩; unfold GaveUp)
  exact ⟨rfl, rfl, (Frm.refl [] _).drew⟩
end Go.Proofs.YtjdejhgfkjeeiaaGreatDoor

namespace Go.Proofs.YtjdejhgfkjeeiaaGreatDoor
open Go.RowKit
set_option linter.unusedVariables false
set_option maxRecDepth 100000
set_option linter.unusedSimpArgs false

set_option maxHeartbeats 2000000 in
theorem RRestR_fault (br : Nat) (v : Value) (l sp : List UInt8) (p : Nat) (fa : Int) (w : World) (hR : Rd w br v l sp p 0 fa) (hp : p ≤ l.length) (hl : l.length ≤ 1000000000) (hf : 0 ≤ firstNot (l.drop p)) (hf2 : firstNot (l.drop p) < 1000000000000) :
    Calls Tryz.prog 115 #[.pointer (some ⟨br, 0, none⟩)] w fun r w' => r = .returned (.tuple #[]) ∧ RdTo w br v l sp (p, 4, (p : Int) + firstNot (l.drop p)) w' := by
  have hlt := hR.lt
  have f3 : ∀ a, Frm [] w (w.alloc a) := fun a => (Frm.refl [] w).alloc _
  have hblt := hlt br (by simp)
  have HF := Lib.hid f3
  have X1 := Lib.hid hf
  have X2 := Lib.hid hf2
  clear hlt f3 hf hf2
  go_enter Tryz.func115, Tryz.ntmps115
  go_wp2_with fail
  refine (uf_gave 157 _ br v l sp p fa 4 ((p : Int) + firstNot (l.drop p)) _ (hR.keep (HF.out _) (by simp) (by simp)) (fun w => enter_of Tryz.func157 (by kernel_rfl) (by kernel_rfl) _ w) (fun w1 f1 => ?_)).mono ?_
  · refine rest_fault _ br v l sp p 0 fa w1 (hR.keep ((HF.out _).trans f1 (by simp)) (by simp) (by simp)) hp hl (f1.cell ?_ (by simp)) X1.out X2.out
    all_goals first | (simp [go_sem]; done) | (simp; done) | (simp; omega) | omega
  · rintro rr w2 ⟨rfl, h1, h2⟩
    go_wp2
    go_end0
    exact ⟨rfl, h1, ((HF.out _).mono (by simp)).trans h2 (by simp)⟩
end Go.Proofs.YtjdejhgfkjeeiaaGreatDoor

namespace Go.Proofs.YtjdejhgfkjeeiaaGreatDoor
open Go.RowKit
set_option linter.unusedVariables false
set_option linter.unusedSimpArgs false

theorem firstNot_le (l : List UInt8) : firstNot l < 0 ∨ firstNot l < l.length := by
  unfold firstNot
  split
  · rename_i i hi; obtain ⟨h, _⟩ := List.findIdx?_eq_some_iff_getElem.1 hi; omega
  · omega
end Go.Proofs.YtjdejhgfkjeeiaaGreatDoor

namespace Go.Proofs.YtjdejhgfkjeeiaaGreatDoor
open Go.RowKit
set_option linter.unusedVariables false
set_option linter.unusedSimpArgs false

/-- What reading bytes comes to: a fault, or the bytes. -/
def rawRead (l : List UInt8) (p : Nat) (n : Int) : (Int × Int) ⊕ List UInt8 :=
  if n < 0 then .inl (2, p) else if l.length < p + n.toNat then .inl (4, l.length) else .inr ((l.drop p).take n.toNat)
def rRaw (l : List UInt8) (s : Nat × Int × Int) (n : Int) : List UInt8 × (Nat × Int × Int) := stepR s [] (rawRead l s.1 n) n.toNat
set_option maxRecDepth 100000 in
set_option maxHeartbeats 2000000 in
theorem rraw_fault (bs bq br bn : Nat) (v : Value) (l sp : List UInt8) (p : Nat) (fe fa n e a : Int) (w : World) (hR : Rd w br v l sp p fe fa) (hp : p ≤ l.length) (hl : l.length ≤ 1000000000)
    (cs : w.cell? ⟨bs, 0, none⟩ = some (.int .i64 n)) (cr : w.cell? ⟨bq, 0, none⟩ = some (.pointer (some ⟨br, 0, none⟩))) (hx : rawRead l p n = .inl (e, a)) :
    Calls Tryz.prog 147 #[.pointer (some ⟨bs, 0, none⟩), .pointer (some ⟨bq, 0, none⟩), .pointer (some ⟨bn, 0, none⟩)] w fun r w' => r = GaveUp e a ∧ Frm [] w w' := by
  have hR' := hR
  obtain ⟨h1, h2, h3⟩ := hR
  have c2 : w.cell? ⟨br, 2, none⟩ = some (.int .i64 p) := by rw [cell_of_heap h1]; rfl
  clear h1
  unfold rawRead at hx
  split at hx
  · rename_i hn
    simp only [Sum.inl.injEq, Prod.mk.injEq] at hx
    obtain ⟨rfl, rfl⟩ := hx
    have hd : decide (0 ≤ n) = false := by simp; omega
    go_enter Tryz.func147, Tryz.ntmps147
    go_wp2
    refine wp_region_still_tail 6 (by kernel_rfl) (by kernel_rfl) ?_
    simp only [List.take_succ_cons, List.take_zero, List.drop_succ_cons, List.drop_zero]
    repeat still_step
    refine wpStill_nil ?_
    go_wp2_with (go_at_call 148; refine (demand_no _ _ _).mono ?_; rintro r w1 ⟨rfl, rfl⟩; unfold GaveUp)
    exact ⟨rfl, rfl, (Frm.refl [] _).drewN 1⟩
  · rename_i hn
    obtain ⟨k, rfl⟩ := Int.eq_ofNat_of_zero_le (show 0 ≤ n by omega)
    simp only [Int.toNat_natCast] at hx
    split at hx
    · rename_i hlt
      simp only [Sum.inl.injEq, Prod.mk.injEq] at hx
      obtain ⟨rfl, rfl⟩ := hx
      clear hn
      have hd : decide ((0 : Int) ≤ (k : Int)) = true := by simp
      have HLT := Lib.hid hlt
      clear hlt
      go_enter Tryz.func147, Tryz.ntmps147
      go_wp2
      refine wp_region_still_tail 6 (by kernel_rfl) (by kernel_rfl) ?_
      simp only [List.take_succ_cons, List.take_zero, List.drop_succ_cons, List.drop_zero]
      repeat still_step
      refine wpStill_nil ?_
      go_wp2_with (first | (go_at_call 148; refine (demand_yes _ _ _).mono ?_; rintro r w1 ⟨rfl, rfl⟩) | (go_at_call 149; refine (ahead_no br v l sp p k fe fa _ (hR'.keep ((Frm.refl [] _).drewN 1) (by simp) (by simp)) hl hp HLT.out).mono ?_; rintro r w1 ⟨rfl, f1⟩; unfold GaveUp))
      exact ⟨rfl, rfl, ((Frm.refl [] _).drewN 1).trans f1 (by simp)⟩
    · cases hx
def RawCell (w : World) (bn : Nat) (m : List UInt8) (w' : World) : Prop :=
  ∃ a cap sp', w'.cell? ⟨bn, 0, none⟩ = some (.slice a m.length cap) ∧ OwnB 5 w' (.slice a m.length cap) m sp' ∧ Fresh w (.slice a m.length cap)
set_option maxRecDepth 100000 in
set_option maxHeartbeats 2000000 in
theorem rraw_ok (bs bq br bn : Nat) (v : Value) (l sp : List UInt8) (p : Nat) (fe fa : Int) (k : Nat) (w : World) (hR : Rd w br v l sp p fe fa) (hp : p ≤ l.length) (hl : l.length ≤ 1000000000)
    (cs : w.cell? ⟨bs, 0, none⟩ = some (.int .i64 k)) (cr : w.cell? ⟨bq, 0, none⟩ = some (.pointer (some ⟨br, 0, none⟩))) (hk : p + k ≤ l.length)
    (cn : w.heap[bn]? = some (.cells #[.slice none 0 0] 32 (0, 0))) (n1 : bq ≠ bn) (n2 : bs ≠ bn) (n3 : br ≠ bn) (n4 : bn ∉ blk v) :
    Calls Tryz.prog 147 #[.pointer (some ⟨bs, 0, none⟩), .pointer (some ⟨bq, 0, none⟩), .pointer (some ⟨bn, 0, none⟩)] w fun r w' => r = .returned (.tuple #[]) ∧
      Rd w' br v l sp (p + k : Nat) fe fa ∧ RawCell w bn ((l.drop p).take k) w' ∧ Frm [br, bn] w w' := by
  have hR' := hR
  obtain ⟨h1, h2, h3⟩ := hR
  have c2 : w.cell? ⟨br, 2, none⟩ = some (.int .i64 p) := by rw [cell_of_heap h1]; rfl
  have H1 := Lib.hid h1
  have HN := Lib.hid cn
  have hml : ((l.drop p).take k).length = k := by simp; omega
  have HML := Lib.hid hml
  have hbr := lt_heap h1
  have hbn := lt_heap cn
  clear h1 cn hml
  have hd : decide ((0 : Int) ≤ (k : Int)) = true := by simp
  have hpk : (p : Int) + (k : Int) ≤ 1000000000 := by omega
  go_enter Tryz.func147, Tryz.ntmps147
  go_wp2
  refine wp_region_still_tail 6 (by kernel_rfl) (by kernel_rfl) ?_
  simp only [List.take_succ_cons, List.take_zero, List.drop_succ_cons, List.drop_zero]
  repeat still_step
  refine wpStill_nil ?_
  go_wp2_with (first | (go_at_call 148; refine (demand_yes _ _ _).mono ?_; rintro r w1 ⟨rfl, rfl⟩))
  refine (ahead_yes br v l sp p k fe fa _ (hR'.keep ((Frm.refl [] _).drewN 1) (by simp) (by simp)) hl hk).mono ?_
  rintro rr w1 ⟨a', c', sp', rfl, s1, f1⟩
  have s1' : SlB w1 (.slice a' k c') ((l.drop p).take k) sp' := s1
  have S1 := Lib.hid s1'
  clear s1 s1'
  go_wp2_with fail
  refine (Clone_any _ ((l.drop p).take k) sp' _ S1.out (by rw [HML.out]; omega)).mono ?_
  rintro rr w2 ⟨a2, c2', sp2, rfl, o2, f2, b2⟩
  have f02 : Frm [] w w2 := (((Frm.refl [] w).drewN 1).trans f1 (by simp)).trans f2 (by simp)
  have O2 := Lib.hid o2
  have B2 := Lib.hid b2
  have q1 : w2.cell? ⟨bq, 0, none⟩ = some (.pointer (some ⟨br, 0, none⟩)) := f02.cell cr (by simp)
  have q2 : w2.cell? ⟨br, 2, none⟩ = some (.int .i64 p) := f02.cell c2 (by simp)
  have q3 : w2.cell? ⟨bs, 0, none⟩ = some (.int .i64 k) := f02.cell cs (by simp)
  have q6 : w2.cell? ⟨bn, 0, none⟩ = some (.slice none 0 0) := by rw [cell_of_heap (f02.heap HN.out (by simp))]; rfl
  have q7 : w2.frozen? ⟨bn, 0, none⟩ = false := frozen_of_heap (f02.heap HN.out (by simp)) 0
  have q8 : w2.frozen? ⟨br, 2, none⟩ = false := frozen_of_heap (f02.heap H1.out (by simp)) 2
  have hfr : ∀ i ∈ blk (.slice a2 ((l.drop p).take k).length c2'), w.heap.size ≤ i := fun i hi => Nat.le_trans (((Frm.refl [] w).drewN 1).trans f1 (by simp)).size (b2 i hi)
  have HFR := Lib.hid hfr
  generalize hm : (l.drop p).take k = m at *
  clear o2 b2 hfr
  go_wp2_with fail
  refine wp_region_still_tail 8 (by kernel_rfl) (by kernel_rfl) ?_
  simp only [List.take_succ_cons, List.take_zero, List.drop_succ_cons, List.drop_zero]
  change wpStill _ _ (World.drew _) _ _ _
  repeat still_step
  refine wpStill_nil ?_
  change wpList _ _ _ _ _ (World.drew _)
  go_wp2
  go_end0
  subst hm
  have F : Frm [br, bn] w (((w2.setCell ⟨bn, 0, none⟩ (.slice a2 ((l.drop p).take k).length c2')).setCell ⟨br, 2, none⟩ (.int .i64 (p + k)))) := ((f02.mono (by simp)).setCell _ _ (by simp)).setCell _ _ (by simp)
  have hnb2 : ∀ i ∈ blk (.slice a2 ((l.drop p).take k).length c2'), i ≠ br ∧ i ≠ bn := fun i hi => by have := HFR.out i hi; omega
  refine ⟨rfl, ⟨?_, ?_, h3⟩, ⟨a2, c2', sp2, ?_, ?_, HFR.out⟩, F.drewN 1⟩
  · show (World.setCell _ _ _).heap[br]? = _
    rw [heap_setCell_same _ ((heap_setCell_ne _ n3).trans (f02.heap H1.out (by simp)))]
    simp
  · exact h2.keep (F.drewN 1) (fun k hk => by simp; exact ⟨fun e => h3 (e ▸ hk), fun e => n4 (e ▸ hk)⟩)
  · show (World.setCell _ _ _).cell? _ = _
    rw [World.cell?_setCell_other _ _ _ _ (by simp)]
    exact World.cell?_setCell_same _ _ _ q6
  · have F2 : Frm [br, bn] w2 (((w2.setCell ⟨bn, 0, none⟩ (.slice a2 ((l.drop p).take k).length c2')).setCell ⟨br, 2, none⟩ (.int .i64 (p + k)))) := ((Frm.refl [br, bn] w2).setCell _ _ (by simp)).setCell _ _ (by simp)
    exact O2.out.keep (F2.drewN 1) (fun i hi => by have := hnb2 i hi; simp [this])
def RawR (w : World) (br : Nat) (v : Value) (l sp m : List UInt8) (s : Nat × Int × Int) (r : Ending) (w' : World) : Prop :=
  ∃ a cap sp', r = .returned (.slice a m.length cap) ∧ OwnB 5 w' (.slice a m.length cap) m sp' ∧ Fresh w (.slice a m.length cap) ∧ RdTo w br v l sp s w'
set_option maxHeartbeats 2000000 in
theorem RRawR_any (br : Nat) (v : Value) (l sp : List UInt8) (s : Nat × Int × Int) (n : Int) (w : World) (hR : Rd w br v l sp s.1 s.2.1 s.2.2) (hp : s.1 ≤ l.length) (hl : l.length ≤ 1000000000) :
    Calls Tryz.prog 112 #[.pointer (some ⟨br, 0, none⟩), .int .i64 n] w fun r w' => RawR w br v l sp (rRaw l s n).1 (rRaw l s n).2 r w' := by
  obtain ⟨p, fe, fa⟩ := s
  simp only at hR hp
  have hlt := hR.lt
  have f3 : ∀ a b c, Frm [] w (((w.alloc a).alloc b).alloc c) := fun a b c => (((Frm.refl [] w).alloc _).alloc _).alloc _
  have hblt := hlt br (by simp)
  have HL := Lib.hid hlt
  have HF := Lib.hid f3
  clear hlt f3
  by_cases hfe : fe = 0
  · subst hfe
    cases hx : rawRead l p n with
    | inl f =>
      obtain ⟨e, a⟩ := f
      have hr : rRaw l (p, 0, fa) n = ([], p, e, a) := by simp [rRaw, stepR, hx]
      rw [hr]
      have HX := Lib.hid hx
      clear hr hx
      go_enter Tryz.func112, Tryz.ntmps112
      go_wp2_with fail
      refine (uf_gave 147 _ br v l sp p fa e a _ (hR.keep (HF.out _ _ _) (by simp) (by simp)) (fun w => enter_of Tryz.func147 (by kernel_rfl) (by kernel_rfl) _ w) (fun w1 f1 => ?_)).mono ?_
      · refine rraw_fault _ _ br _ v l sp p 0 fa n e a w1 (hR.keep ((HF.out _ _ _).trans f1 (by simp)) (by simp) (by simp)) hp hl (f1.cell ?_ (by simp)) (f1.cell ?_ (by simp)) HX.out
        all_goals first | (simp [go_sem]; done) | (simp; done) | (simp; omega) | omega
      · rintro r w2 ⟨rfl, h1, h2⟩
        have q0 : w2.cell? ⟨w.heap.size + 1 + 1, 0, none⟩ = some (.slice none 0 0) := h2.cell (by simp [go_sem]) (by simp; omega)
        go_wp2
        go_ret
        exact ⟨none, 0, [], rfl, OwnB.nil _ _, by simp [Fresh, blk], h1, ((HF.out _ _ _).mono (by simp)).trans h2 (by simp)⟩
    | inr m =>
      have hx' := hx
      unfold rawRead at hx'
      split at hx'
      · cases hx'
      · rename_i hn
        obtain ⟨k, rfl⟩ := Int.eq_ofNat_of_zero_le (show 0 ≤ n by omega)
        simp only [Int.toNat_natCast] at hx'
        split at hx'
        · cases hx'
        · rename_i hle
          have hle' : p + k ≤ l.length := by omega
          simp only [Sum.inr.injEq] at hx'
          have hr : rRaw l (p, 0, fa) k = (m, p + k, (0 : Int), fa) := by simp [rRaw, stepR, hx]
          rw [hr]
          have HX := Lib.hid hx'
          clear hr hx hx' hn hle
          go_enter Tryz.func112, Tryz.ntmps112
          go_wp2_with fail
          have hnb : w.heap.size + 1 + 1 ∉ blk v := fun hm => by have := HL.out _ (List.mem_cons_of_mem _ hm); omega
          refine (uf_ret 147 _ br v l sp p fa (fun w' => RdTo w br v l sp (p + k, 0, fa) w' ∧ RawCell w (w.heap.size + 1 + 1) m w') _ (hR.keep (HF.out _ _ _) (by simp) (by simp)) (fun w => enter_of Tryz.func147 (by kernel_rfl) (by kernel_rfl) _ w) (fun w1 f1 => ?_)).mono ?_
          · refine (rraw_ok _ _ br _ v l sp p 0 fa k w1 (hR.keep ((HF.out _ _ _).trans f1 (by simp)) (by simp) (by simp)) hp hl (f1.cell ?_ (by simp)) (f1.cell ?_ (by simp)) hle' (f1.heap ?_ (by simp)) ?_ ?_ ?_ hnb).mono ?_
            case refine_7 =>
              rintro r w2 ⟨rfl, g1, ⟨a, cap, sp', g2, g4, g5⟩, g3⟩
              rw [HX.out] at g2 g4 g5
              exact ⟨rfl, ⟨by simpa using g1, (((HF.out _ _ _).mono (by simp)).trans f1 (by simp)).trans g3 (by simp; omega)⟩, a, cap, sp', g2, g4, fun i hi => Nat.le_trans ((HF.out _ _ _).trans f1 (by simp)).size (g5 i hi)⟩
            all_goals first | exact heap_alloc_at (by simp) | (simp [go_sem]; done) | (simp; done) | (simp; omega) | omega
          · rintro r w2 ⟨rfl, h1, a, cap, sp', h2, h4, h5⟩
            have H4 := Lib.hid h4
            have H5 := Lib.hid h5
            clear h4 h5
            go_wp2
            go_ret
            exact ⟨a, cap, sp', rfl, H4.out, H5.out, h1⟩
  · have hr : rRaw l (p, fe, fa) n = ([], p, fe, fa) := by simp [rRaw, stepR, hfe]
    rw [hr]
    clear hr
    go_enter Tryz.func112, Tryz.ntmps112
    go_wp2_with fail
    refine (uf_fault _ br v l sp p fe fa _ (hR.keep (HF.out _ _ _) (by simp) (by simp)) hfe).mono ?_
    rintro r w2 ⟨rfl, h2⟩
    have q0 : w2.cell? ⟨w.heap.size + 1 + 1, 0, none⟩ = some (.slice none 0 0) := h2.cell (by simp [go_sem]) (by simp)
    go_wp2
    go_ret
    exact ⟨none, 0, [], rfl, OwnB.nil _ _, by simp [Fresh, blk], hR.keep ((HF.out _ _ _).trans h2 (by simp)) (by simp) (by simp), ((HF.out _ _ _).mono (by simp)).trans h2 (by simp)⟩
/-- All that is left is read. -/
def rRest (l : List UInt8) (s : Nat × Int × Int) : Nat × Int × Int :=
  if s.2.1 = 0 then if firstNot (l.drop s.1) < 0 then (l.length, 0, s.2.2) else (s.1, 4, (s.1 : Int) + firstNot (l.drop s.1)) else s
set_option maxRecDepth 100000 in
set_option maxHeartbeats 2000000 in
theorem rest_ok (bq br : Nat) (v : Value) (l sp : List UInt8) (p : Nat) (fe fa : Int) (w : World) (hR : Rd w br v l sp p fe fa) (hp : p ≤ l.length) (hl : l.length ≤ 1000000000)
    (cr : w.cell? ⟨bq, 0, none⟩ = some (.pointer (some ⟨br, 0, none⟩))) (hf : firstNot (l.drop p) < 0) :
    Calls Tryz.prog 157 #[.pointer (some ⟨bq, 0, none⟩)] w fun r w' => r = .returned (.tuple #[]) ∧ Rd w' br v l sp l.length fe fa ∧ Frm [br] w w' := by
  obtain ⟨h1, h2, h3⟩ := hR
  obtain ⟨a, cap, rfl, hc1, hc2⟩ := h2.sl.form
  have c1 : w.cell? ⟨br, 1, none⟩ = some (.slice a l.length cap) := by rw [cell_of_heap h1]; rfl
  have c2 : w.cell? ⟨br, 2, none⟩ = some (.int .i64 p) := by rw [cell_of_heap h1]; rfl
  have z2 : w.frozen? ⟨br, 2, none⟩ = false := frozen_of_heap h1 2
  obtain ⟨a3, c3, hsl3, s3⟩ := slice_l BT h2.sl p hp
  have hsl3' := fun wx => hsl3 p wx rfl
  have hpi : (p : Int) ≤ (l.length : Int) := by omega
  have HF := Lib.hid hf
  have H1 := Lib.hid h1
  clear h1 hsl3 hf
  go_enter Tryz.func157, Tryz.ntmps157
  go_wp2
  refine wp_region_still_tail 13 (by kernel_rfl) (by kernel_rfl) ?_
  simp only [List.take_succ_cons, List.take_zero, List.drop_succ_cons, List.drop_zero]
  repeat still_step
  refine wpStill_nil ?_
  change wpList _ _ _ _ _ (World.drew _)
  go_wp2_with (go_at_call 158; refine (dn_yes _ _ _ _ _ (s3.keep (Frm.refl [] w).drew (by simp)) HF.out (by omega) (by omega)).mono ?_; rintro r w1 ⟨rfl, rfl⟩)
  refine wp_region_still_tail 8 (by kernel_rfl) (by kernel_rfl) ?_
  simp only [List.take_succ_cons, List.take_zero, List.drop_succ_cons, List.drop_zero]
  change wpStill _ _ (World.drew _) _ _ _
  repeat still_step
  refine wpStill_nil ?_
  change wpList _ _ _ _ _ (World.drew _)
  go_wp2
  go_end0
  have F : Frm [br] w (w.setCell ⟨br, 2, none⟩ (.int .i64 l.length)) := (Frm.refl [br] w).setCell _ _ (by simp)
  refine ⟨rfl, ⟨?_, ?_, h3⟩, F.drewN 2⟩
  · show (World.setCell _ _ _).heap[br]? = _
    rw [heap_setCell_same _ H1.out]
    rfl
  · exact h2.keep (F.drewN 2) (fun k hk => by simp; rintro rfl; exact h3 hk)
set_option maxHeartbeats 2000000 in
theorem RRestR_any (br : Nat) (v : Value) (l sp : List UInt8) (s : Nat × Int × Int) (w : World) (hR : Rd w br v l sp s.1 s.2.1 s.2.2) (hp : s.1 ≤ l.length) (hl : l.length ≤ 1000000000) :
    Calls Tryz.prog 115 #[.pointer (some ⟨br, 0, none⟩)] w fun r w' => r = .returned (.tuple #[]) ∧ RdTo w br v l sp (rRest l s) w' := by
  obtain ⟨p, fe, fa⟩ := s
  simp only at hR hp
  have hlt := hR.lt
  have f3 : ∀ a, Frm [] w (w.alloc a) := fun a => (Frm.refl [] w).alloc _
  have hblt := hlt br (by simp)
  have HF := Lib.hid f3
  clear hlt f3
  by_cases hfe : fe = 0
  · subst hfe
    by_cases hf : firstNot (l.drop p) < 0
    · have hr : rRest l (p, 0, fa) = (l.length, 0, fa) := by simp [rRest, hf]
      rw [hr]
      have X1 := Lib.hid hf
      clear hr hf
      go_enter Tryz.func115, Tryz.ntmps115
      go_wp2_with fail
      refine (uf_ret 157 _ br v l sp p fa (fun w' => RdTo w br v l sp (l.length, 0, fa) w') _ (hR.keep (HF.out _) (by simp) (by simp)) (fun w => enter_of Tryz.func157 (by kernel_rfl) (by kernel_rfl) _ w) (fun w1 f1 => ?_)).mono ?_
      · refine (rest_ok _ br v l sp p 0 fa w1 (hR.keep ((HF.out _).trans f1 (by simp)) (by simp) (by simp)) hp hl (f1.cell ?_ (by simp)) X1.out).mono ?_
        · simp [go_sem]
        · rintro r w2 ⟨rfl, g1, g3⟩
          exact ⟨rfl, g1, (((HF.out _).mono (by simp)).trans f1 (by simp)).trans g3 (by simp)⟩
      · rintro r w2 ⟨rfl, h1⟩
        go_wp2
        go_end0
        exact ⟨rfl, h1⟩
    · have hr : rRest l (p, 0, fa) = (p, 4, (p : Int) + firstNot (l.drop p)) := by simp [rRest, hf]
      rw [hr]
      exact RRestR_fault br v l sp p fa w hR hp hl (by omega) (by have := firstNot_le (l.drop p); simp at this; omega)
  · have hr : rRest l (p, fe, fa) = (p, fe, fa) := by simp [rRest, hfe]
    rw [hr]
    clear hr
    go_enter Tryz.func115, Tryz.ntmps115
    go_wp2_with fail
    refine (uf_fault _ br v l sp p fe fa _ (hR.keep (HF.out _) (by simp) (by simp)) hfe).mono ?_
    rintro r w2 ⟨rfl, h2⟩
    go_wp2
    go_end0
    exact ⟨rfl, hR.keep ((HF.out _).trans h2 (by simp)) (by simp) (by simp), ((HF.out _).mono (by simp)).trans h2 (by simp)⟩
end Go.Proofs.YtjdejhgfkjeeiaaGreatDoor

namespace Go.Proofs.YtjdejhgfkjeeiaaGreatDoor
open Go.RowKit
set_option linter.unusedVariables false
set_option maxRecDepth 100000
set_option linter.unusedSimpArgs false

/-- The document's reader: its bytes, its place, its fault. -/
def Rv (w : World) (b : Nat) (v : Value) (l sp : List UInt8) (s : Nat × Int × Int) : Prop :=
  w.heap[b]? = some (.cells #[v, .int .i64 s.1, .int .i64 s.2.1, .int .i64 s.2.2] 139 (0, 0)) ∧ SlB w v l sp ∧ b ∉ blkR v
theorem Rv.keep {w w' : World} {b : Nat} {v : Value} {l sp : List UInt8} {s : Nat × Int × Int} {L : List Nat} (h : Rv w b v l sp s) (f : Frm L w w') (h1 : b ∉ L) (h2 : ∀ k ∈ blkR v, k ∉ L) : Rv w' b v l sp s :=
  ⟨f.heap h.1 h1, h.2.1.keepR f h2, h.2.2⟩
def RvTo (w : World) (b : Nat) (v : Value) (l sp : List UInt8) (s : Nat × Int × Int) (w' : World) : Prop := Rv w' b v l sp s ∧ Frm [b] w w'
theorem RvTo.same {w : World} {b : Nat} {v : Value} {l sp : List UInt8} {s : Nat × Int × Int} (h : Rv w b v l sp s) {w' : World} (f : Frm [] w w') : RvTo w b v l sp s w' := ⟨h.keep f (by simp) (by simp), f.mono (by simp)⟩
theorem RvTo.trans {w w1 w2 : World} {b : Nat} {v : Value} {l sp : List UInt8} {s s' : Nat × Int × Int} (h : RvTo w b v l sp s w1) (k : RvTo w1 b v l sp s' w2) : RvTo w b v l sp s' w2 := ⟨k.1, h.2.trans k.2 (by simp)⟩
def failS (s : Nat × Int × Int) (e a : Int) : Nat × Int × Int := if s.2.1 = 0 then (s.1, e, a) else s
set_option maxHeartbeats 1000000 in
theorem vfail_any (b : Nat) (v : Value) (l sp : List UInt8) (s : Nat × Int × Int) (e a : Int) (w : World) (hR : Rv w b v l sp s) :
    Calls Tryz.prog 118 #[.pointer (some ⟨b, 0, none⟩), .int .i64 e, .int .i64 a] w fun r w' => r = .returned (.tuple #[]) ∧ RvTo w b v l sp (failS s e a) w' := by
  obtain ⟨p, fe, fa⟩ := s
  have hR' := hR
  obtain ⟨h1, h2, h3⟩ := hR
  have c2 : w.cell? ⟨b, 2, none⟩ = some (.int .i64 fe) := by rw [cell_of_heap h1]; rfl
  have c3 : w.cell? ⟨b, 3, none⟩ = some (.int .i64 fa) := by rw [cell_of_heap h1]; rfl
  have z2 : w.frozen? ⟨b, 2, none⟩ = false := frozen_of_heap h1 2
  have z3 : w.frozen? ⟨b, 3, none⟩ = false := frozen_of_heap h1 3
  have H1 := Lib.hid h1
  clear h1
  by_cases hfe : fe = 0
  · subst hfe
    have hr : failS (p, 0, fa) e a = (p, e, a) := by simp [failS]
    rw [hr]
    clear hr
    go_enter Tryz.func118, Tryz.ntmps118
    go_wp2
    go_end0
    have F : Frm [b] w ((w.setCell ⟨b, 2, none⟩ (.int .i64 e)).setCell ⟨b, 3, none⟩ (.int .i64 a)) := ((Frm.refl [b] w).setCell _ _ (by simp)).setCell _ _ (by simp)
    refine ⟨rfl, ⟨?_, ?_, h3⟩, F⟩
    · rw [heap_setCell_same _ (heap_setCell_same _ H1.out)]
      rfl
    · exact h2.keepR F (fun k hk => by simp; rintro rfl; exact h3 hk)
  · have hr : failS (p, fe, fa) e a = (p, fe, fa) := by simp [failS, hfe]
    rw [hr]
    have hq : (fe == 0) = false := by simpa using hfe
    clear hr hfe
    go_enter Tryz.func118, Tryz.ntmps118
    go_wp2
    go_end0
    exact ⟨rfl, RvTo.same hR' (Frm.refl _ _)⟩
def someS (l : List UInt8) (s : Nat × Int × Int) (n : Int) : Nat × Int × Int := if (l.length : Int) - s.1 < n then failS s 4 l.length else s
set_option maxHeartbeats 1000000 in
theorem vsome_bad (b : Nat) (v n : Value) (l sp : List UInt8) (s : Nat × Int × Int) (w : World) (hR : Rv w b v l sp s) (hfe : s.2.1 ≠ 0) :
    Calls Tryz.prog 119 #[.pointer (some ⟨b, 0, none⟩), n] w fun r w' => r = .returned (.bool false) ∧ ∃ k, w' = w.drewN k := by
  obtain ⟨p, fe, fa⟩ := s
  obtain ⟨h1, h2, h3⟩ := hR
  have c2 : w.cell? ⟨b, 2, none⟩ = some (.int .i64 fe) := by rw [cell_of_heap h1]; rfl
  have hq : (fe == 0) = false := by simpa using hfe
  clear h1 hfe
  go_enter Tryz.func119, Tryz.ntmps119
  go_wp2
  go_quiet (fail)
  go_wp2
  go_ret
  exact ⟨rfl, _, rfl⟩
set_option maxHeartbeats 1000000 in
theorem vsome_ok (b : Nat) (v : Value) (l sp : List UInt8) (p : Nat) (fa n : Int) (w : World) (hR : Rv w b v l sp (p, 0, fa)) (hp : p ≤ l.length) (hl : l.length ≤ 1000000000) :
    Calls Tryz.prog 119 #[.pointer (some ⟨b, 0, none⟩), .int .i64 n] w fun r w' => r = .returned (.bool (decide (n ≤ (l.length : Int) - p))) ∧ RvTo w b v l sp (someS l (p, 0, fa) n) w' := by
  have hR' := hR
  obtain ⟨h1, h2, h3⟩ := hR
  obtain ⟨a, cap, rfl, hc1, hc2⟩ := h2.form
  have c0 : w.cell? ⟨b, 0, none⟩ = some (.slice a l.length cap) := by rw [cell_of_heap h1]; rfl
  have c1 : w.cell? ⟨b, 1, none⟩ = some (.int .i64 p) := by rw [cell_of_heap h1]; rfl
  have c2 : w.cell? ⟨b, 2, none⟩ = some (.int .i64 0) := by rw [cell_of_heap h1]; rfl
  have hin : IntKind.i64.wrap ((l.length : Int) - p) = (l.length : Int) - p := IntWalk.i64_in _ (by omega)
  have HI := Lib.hid hin
  clear h1 hin
  by_cases hn : (l.length : Int) - p < n
  · have hr : someS l (p, 0, fa) n = (p, 4, (l.length : Int)) := by simp [someS, failS, hn]
    have hd : decide (n ≤ (l.length : Int) - p) = false := by simp; omega
    rw [hr, hd]
    have hb : decide ((l.length : Int) - p < n) = true := by simpa using hn
    clear hr hn hd
    go_enter Tryz.func119, Tryz.ntmps119
    go_wp2
    have hin := HI.out
    go_quiet (fail)
    clear hin
    go_wp2_with fail
    refine (vfail_any b _ l sp (p, 0, fa) 4 l.length _ (hR'.keep ((Frm.refl [] _).drewN _) (by simp) (by simp))).mono ?_
    rintro r w1 ⟨rfl, h⟩
    have q2 : w1.cell? ⟨b, 2, none⟩ = some (.int .i64 4) := by
      have := h.1.1
      simp [failS] at this
      rw [cell_of_heap this]; rfl
    go_wp2
    go_ret
    refine ⟨rfl, ?_⟩
    have := h
    simp only [failS, if_true] at this
    exact ⟨this.1, ((Frm.refl [b] w).drewN _).trans this.2 (by simp)⟩
  · have hr : someS l (p, 0, fa) n = (p, 0, fa) := by simp [someS, hn]
    have hd : decide (n ≤ (l.length : Int) - p) = true := by simp; omega
    rw [hr, hd]
    have hb : decide ((l.length : Int) - p < n) = false := by simpa using hn
    clear hr hn hd
    go_enter Tryz.func119, Tryz.ntmps119
    go_wp2
    have hin := HI.out
    go_quiet (fail)
    clear hin
    go_wp2
    go_ret
    exact ⟨rfl, RvTo.same hR' ((Frm.refl [] _).drewN _)⟩
end Go.Proofs.YtjdejhgfkjeeiaaGreatDoor

namespace Go.Proofs.YtjdejhgfkjeeiaaGreatDoor
open Go.RowKit
set_option linter.unusedVariables false
set_option linter.unusedSimpArgs false

theorem Rv.cells {w : World} {b : Nat} {v : Value} {l sp : List UInt8} {p : Nat} {fe fa : Int} (h : Rv w b v l sp (p, fe, fa)) :
    w.cell? ⟨b, 0, none⟩ = some v ∧ w.cell? ⟨b, 1, none⟩ = some (.int .i64 p) ∧ w.cell? ⟨b, 2, none⟩ = some (.int .i64 fe) ∧ w.cell? ⟨b, 3, none⟩ = some (.int .i64 fa) ∧ ∀ i, w.frozen? ⟨b, i, none⟩ = false := by
  refine ⟨?_, ?_, ?_, ?_, fun i => frozen_of_heap h.1 i⟩ <;> rw [cell_of_heap h.1] <;> rfl
/-- The place is set. -/
theorem Rv.place {w : World} {b : Nat} {v : Value} {l sp : List UInt8} {p : Nat} {fe fa : Int} (h : Rv w b v l sp (p, fe, fa)) (q : Nat) (u : Value) (hu : u = .int .i64 q) : RvTo w b v l sp (q, fe, fa) (w.setCell ⟨b, 1, none⟩ u) := by
  subst hu
  have F : Frm [b] w (w.setCell ⟨b, 1, none⟩ (.int .i64 q)) := (Frm.refl [b] w).setCell _ _ (by simp)
  refine ⟨⟨?_, h.2.1.keepR F (fun k hk => by simp; rintro rfl; exact h.2.2 hk), h.2.2⟩, F⟩
  rw [heap_setCell_same _ h.1]
  rfl
theorem RvTo.drewN {w w' : World} {b : Nat} {v : Value} {l sp : List UInt8} {s : Nat × Int × Int} (h : RvTo w b v l sp s w') (n : Nat) : RvTo w b v l sp s (w'.drewN n) :=
  ⟨h.1.keep ((Frm.refl [] w').drewN n) (by simp) (by simp), h.2.drewN n⟩
theorem RvTo.behind {w w1 w2 : World} {b : Nat} {v : Value} {l sp : List UInt8} {s : Nat × Int × Int} (f : Frm [] w w1) (h : RvTo w1 b v l sp s w2) : RvTo w b v l sp s w2 := ⟨h.1, (f.mono (by simp)).trans h.2 (by simp)⟩
def VNumRel (w : World) (l : List UInt8) (p z : Nat) (n c : Value) (wr : World) : Prop := ∃ k m : Nat, k ≤ z ∧ c = .int .i64 k ∧ n = .int .i64 m ∧ m = beNat ((l.drop p).take k) ∧ m < 256 ^ k ∧ Frm [] w wr
set_option maxHeartbeats 2000000 in
theorem VNum_bad (b : Nat) (v : Value) (l sp : List UInt8) (p : Nat) (fe fa size low high : Int) (w : World) (hR : Rv w b v l sp (p, fe, fa)) (hp : p ≤ l.length) (hl : l.length ≤ 1000000000) (h : fe ≠ 0 ∨ isSizeB size = false) :
    Calls Tryz.prog 78 #[.pointer (some ⟨b, 0, none⟩), .int .i64 size, .int .i64 low, .int .i64 high] w fun r w' => r = .returned (.int .i64 0) ∧ RvTo w b v l sp (failS (p, fe, fa) 2 p) w' := by
  obtain ⟨c0, c1, c2, c3, z⟩ := hR.cells
  have HR := Lib.hid hR
  by_cases hs : isSizeB size = false
  · clear h hR z
    go_enter Tryz.func78, Tryz.ntmps78
    go_wp2_with fail
    refine (size_any _ _).mono ?_
    rw [hs]
    rintro r w0 ⟨rfl, hw0⟩
    subst hw0
    go_wp2_with fail
    refine (vfail_any b v l sp (p, fe, fa) 2 p _ HR.out).mono ?_
    rintro r w1 ⟨rfl, h1⟩
    have hne : (failS (p, fe, fa) 2 p).2.1 ≠ 0 := by
      unfold failS
      split
      · simp
      · assumption
    go_wp2_with fail
    refine (vsome_bad b v _ l sp _ _ h1.1 hne).mono ?_
    rintro r w2 ⟨rfl, kk, rfl⟩
    go_wp2
    go_ret
    exact ⟨rfl, h1.drewN kk⟩
  · have hs' : isSizeB size = true := by simpa using hs
    have hfe : fe ≠ 0 := by simpa [hs] using h
    have HFE := Lib.hid hfe
    clear h hs hfe hR z
    have hr : failS (p, fe, fa) 2 p = (p, fe, fa) := by simp [failS, HFE.out]
    rw [hr]
    clear hr
    go_enter Tryz.func78, Tryz.ntmps78
    go_wp2_with fail
    refine (size_any _ _).mono ?_
    rw [hs']
    rintro r w0 ⟨rfl, hw0⟩
    subst hw0
    go_wp2_with fail
    refine (vsome_bad b v _ l sp _ _ HR.out HFE.out).mono ?_
    rintro r w2 ⟨rfl, kk, rfl⟩
    go_wp2
    go_ret
    exact ⟨rfl, RvTo.same HR.out ((Frm.refl [] _).drewN kk)⟩
set_option maxRecDepth 100000 in
set_option maxHeartbeats 2000000 in
theorem VNum_any (b : Nat) (v : Value) (l sp : List UInt8) (s : Nat × Int × Int) (size low high : Int) (w : World) (hR : Rv w b v l sp s) (hp : s.1 ≤ l.length) (hl : l.length ≤ 1000000000) :
    Calls Tryz.prog 78 #[.pointer (some ⟨b, 0, none⟩), .int .i64 size, .int .i64 low, .int .i64 high] w fun r w' => r = .returned (.int .i64 (rNum l s size low high).1) ∧ RvTo w b v l sp (rNum l s size low high).2 w' := by
  obtain ⟨p, fe, fa⟩ := s
  simp only at hp
  by_cases hbad : fe ≠ 0 ∨ isSizeB size = false
  · have hr : rNum l (p, fe, fa) size low high = (0, failS (p, fe, fa) 2 p) := by
      by_cases hfe : fe = 0
      · have hs : isSizeB size = false := by simpa [hfe] using hbad
        simp [rNum, stepR, failS, numRead, hfe, hs]
      · simp [rNum, stepR, failS, hfe]
    rw [hr]
    exact VNum_bad b v l sp p fe fa size low high w hR hp hl hbad
  · simp only [not_or, Classical.not_not, Bool.not_eq_false] at hbad
    obtain ⟨rfl, hs'⟩ := hbad
    have hb : 1 ≤ size ∧ size ≤ 7 := by simpa [isSizeB] using hs'
    obtain ⟨hb1, hb2⟩ := hb
    obtain ⟨z, rfl⟩ := Int.eq_ofNat_of_zero_le (show 0 ≤ size by omega)
    by_cases hlt : l.length < p + z
    · have hr : rNum l (p, 0, fa) z low high = (0, p, 4, (l.length : Int)) := by simp [rNum, stepR, numRead, hs', hlt]
      have hd : decide ((z : Int) ≤ (l.length : Int) - p) = false := by simp; omega
      have hs4 : someS l (p, 0, fa) z = (p, 4, (l.length : Int)) := by unfold someS; rw [if_pos (by simp; omega)]; simp [failS]
      rw [hr]
      have HR := Lib.hid hR
      have H4 := Lib.hid hs4
      clear hr hlt hR hs4
      go_enter Tryz.func78, Tryz.ntmps78
      go_wp2_with fail
      refine (size_any _ _).mono ?_
      rw [hs']
      rintro r w0 ⟨rfl, hw0⟩
      subst hw0
      go_wp2_with fail
      refine (vsome_ok b v l sp p fa z _ HR.out hp hl).mono ?_
      rw [hd, H4.out]
      rintro r w1 ⟨rfl, h1⟩
      go_wp2
      go_ret
      exact ⟨rfl, h1⟩
    · have hd : decide ((z : Int) ≤ (l.length : Int) - p) = true := by simp; omega
      have hs0 : someS l (p, 0, fa) z = (p, 0, fa) := by unfold someS; rw [if_neg (by simp; omega)]
      have HR := Lib.hid hR
      have H4 := Lib.hid hs0
      have hle : p + z ≤ l.length := by omega
      have hz7 : z ≤ 7 := by omega
      clear hlt hR hs0
      go_enter Tryz.func78, Tryz.ntmps78
      go_wp2_with fail
      refine (size_any _ _).mono ?_
      rw [hs']
      rintro r w0 ⟨rfl, hw0⟩
      subst hw0
      go_wp2_with fail
      refine (vsome_ok b v l sp p fa z _ HR.out hp hl).mono ?_
      rw [hd, H4.out]
      rintro r w1 ⟨rfl, h1⟩
      have R1 := h1.1
      have F1 := h1.2
      obtain ⟨a, cap, rfl, hc1, hc2⟩ := R1.2.1.form
      clear h1
      go_wp2_with fail
      go_loopw [9, 10] (VNumRel w1 l p z) (fun _ c _ => z - (intOf c).toNat)
      case atStart => exact ⟨0, 0, Nat.zero_le _, rfl, rfl, by simp [beNat], by simp, Frm.refl _ _⟩
      case round =>
        obtain ⟨k, m, hk, rfl, rfl, hm, hlt, F2⟩ := hrel
        have R2 := R1.keep F2 (by simp) (by simp)
        obtain ⟨q0, q1, q2, q3, qz⟩ := R2.cells
        by_cases hkz : k < z
        · obtain ⟨q, hq⟩ : ∃ q, q = p + k := ⟨_, rfl⟩
          have hql : q < l.length := by omega
          obtain ⟨b0, off, rfl⟩ : ∃ b0 off, a = some ⟨b0, off, none⟩ := by
            rcases R2.2.1.cases with ⟨h, h2⟩ | ⟨_, _, h⟩ | ⟨b0, off, cap, h, _⟩
            · rw [h2] at hql; simp at hql
            · rw [h] at hql; simp at hql
            · cases h; exact ⟨b0, off, rfl⟩
          have hc := R2.2.1.cellAt q hql
          have hm6 : m < 256 ^ 6 := Nat.lt_of_lt_of_le hlt (Nat.pow_le_pow_right (by omega) (by omega))
          have hu := l[q].toNat_lt
          generalize hx : l[q] = x at *
          have w1' : IntKind.i64.wrap (256 * (m : Int)) = 256 * (m : Int) := IntWalk.i64_in _ (by omega)
          have w2' : IntKind.i64.wrap ((p : Int) + (k : Int)) = (q : Int) := by rw [IntWalk.i64_in _ (by omega)]; omega
          have w3' : IntKind.i64.wrap (x.toNat : Int) = (x.toNat : Int) := IntWalk.i64_in _ (by omega)
          have w4' : IntKind.i64.wrap (256 * (m : Int) + (x.toNat : Int)) = ((m * 256 + x.toNat : Nat) : Int) := by rw [IntWalk.i64_in _ (by omega)]; omega
          have hi1 : (0 : Int) ≤ (q : Int) := by omega
          have hi2 : (q : Int) < (l.length : Int) := by omega
          have HX := Lib.hid hx
          have HQ := Lib.hid hq
          have HM := Lib.hid hm
          have HL := Lib.hid hlt
          have W1 := Lib.hid w1'
          have W2 := Lib.hid w2'
          have W3 := Lib.hid w3'
          have W4 := Lib.hid w4'
          clear hx hq hm hlt w1' w2' w3' w4' hm6
          go_wp2_with fail
          have w1' := W1.out
          have w2' := W2.out
          have w3' := W3.out
          have w4' := W4.out
          go_quiet (fail)
          clear w1' w2' w3' w4'
          go_wp2_with fail
          refine ⟨⟨k + 1, m * 256 + x.toNat, by omega, by go_num, by simp, ?_, ?_, F2.drewN _⟩, by simp [intOf]; omega⟩
          · rw [List.take_succ_eq_append_getElem (by simp; omega), beNat_snoc, ← HM.out, List.getElem_drop]
            have h9 := HX.out
            have h8 := HQ.out
            subst h8
            rw [h9]
          · have := HL.out
            rw [Nat.pow_succ]; omega
        · obtain rfl : k = z := by omega
          have HM := Lib.hid hm
          have hmle : (m : Int) ≤ 9223372036854775807 := by
            have : m < 256 ^ 7 := Nat.lt_of_lt_of_le hlt (Nat.pow_le_pow_right (by omega) hz7)
            omega
          have hrr : rNum l (p, 0, fa) k low high = if (m : Int) < low ∨ high < (m : Int) then (0, p, 5, (p : Int)) else ((m : Int), p + k, (0 : Int), fa) := by
            have : ¬ l.length < p + k := by omega
            unfold rNum numRead
            simp only [hs', Int.toNat_natCast, this, if_false, Bool.true_eq_false, ← hm]
            split <;> simp [stepR]
          have HRR := Lib.hid hrr
          clear hm hlt hkz hrr
          by_cases hlow : (m : Int) < low
          · go_wp2_with fail
            refine (vfail_any b _ l sp (p, 0, fa) 5 p _ R2).mono ?_
            rintro r w2 ⟨rfl, h2⟩
            go_wp2
            go_ret
            rw [HRR.out, if_pos (.inl hlow)]
            refine ⟨rfl, ?_⟩
            have h3 : RvTo wr b (.slice a l.length cap) l sp (p, 5, (p : Int)) w2 := by simpa [failS] using h2
            exact ⟨h3.1, (F1.trans F2 (by simp)).trans h3.2 (by simp)⟩
          · by_cases hhi : high < (m : Int)
            · go_wp2_with fail
              refine (vfail_any b _ l sp (p, 0, fa) 5 p _ R2).mono ?_
              rintro r w2 ⟨rfl, h2⟩
              go_wp2
              go_ret
              rw [HRR.out, if_pos (.inr hhi)]
              refine ⟨rfl, ?_⟩
              have h3 : RvTo wr b (.slice a l.length cap) l sp (p, 5, (p : Int)) w2 := by simpa [failS] using h2
              exact ⟨h3.1, (F1.trans F2 (by simp)).trans h3.2 (by simp)⟩
            · go_wp2_with fail
              go_ret
              rw [HRR.out, if_neg (by omega)]
              have h3 := R2.place (p + k) (.int .i64 ((p : Int) + (k : Int))) (by simp)
              exact ⟨rfl, h3.1, (F1.trans F2 (by simp)).trans h3.2 (by simp)⟩
end Go.Proofs.YtjdejhgfkjeeiaaGreatDoor

namespace Go.Proofs.YtjdejhgfkjeeiaaGreatDoor
open Go.RowKit
set_option linter.unusedVariables false
set_option linter.unusedSimpArgs false

theorem slice_lhB {P : Program} {tS T : TypeId} (B : ByteTys P tS T) {w : World} {a : Option Addr} {n cap : Nat} {l sp : List UInt8} (h : SlB w (.slice a n cap) l sp) (lo hi : Nat) (h1 : lo ≤ hi) (h2 : hi ≤ l.length) :
    ∃ a' c', (∀ (x y : Int) (wx : World), x = lo → y = hi → (Instr.slice tS (.slice a n cap) (some (.int .i64 x)) (some (.int .i64 y)) none).run P wx = .ok (.slice a' (hi - lo) c') wx) ∧
      SlB w (.slice a' (hi - lo) c') ((l.drop lo).take (hi - lo)) (l.drop hi ++ sp) ∧ ∀ i ∈ blkR (.slice a' (hi - lo) c'), i ∈ blkR (.slice a n cap) := by
  obtain ⟨a2, c2, e, hle, hm⟩ := h.form
  cases e
  refine ⟨_, _, fun x y wx hx hy => ?_, h.cut lo hi h1 h2, ?_⟩
  · subst hx
    subst hy
    obtain ⟨i, hi', hz, hs, hby⟩ := info_parts B.info
    have he : P.elem tS = T := by simp [Program.elem, B.sl]
    have hsz : (sizeOf (P.elem tS)).run P wx = .ok 1 wx := by rw [he]; simp [sizeOf, typeInfo, hi', hs]
    rw [run_slice_lh (P := P) wx tS a l.length cap (by rw [he]; exact B.sl) .i64 .i64 lo hi (by omega) (by omega) (by omega), hsz]
    simp [Result.andThen, sliced]
  · intro i hi3
    cases a with
    | none => simp [blkR] at hi3
    | some a =>
      by_cases hc : cap = lo
      · simp [blkR, hc] at hi3
      · by_cases h0 : cap = 0
        · subst h0
          rw [if_neg hc] at hi3
          simp [blkR] at hi3
        · rw [if_neg hc] at hi3
          simp only [blkR, Option.map_some] at hi3 ⊢
          rw [if_neg h0]
          split at hi3
          · cases hi3
          · have he : (a.add (lo * 1)).block = a.block := by unfold Addr.add; split <;> rfl
            rw [List.mem_singleton] at hi3 ⊢
            rw [hi3, he]
def RawV (w : World) (b : Nat) (v : Value) (l sp m : List UInt8) (s : Nat × Int × Int) (r : Ending) (w' : World) : Prop :=
  ∃ a cap sp', r = .returned (.slice a m.length cap) ∧ OwnB 5 w' (.slice a m.length cap) m sp' ∧ Fresh w (.slice a m.length cap) ∧ RvTo w b v l sp s w'
set_option maxRecDepth 100000 in
set_option maxHeartbeats 2000000 in
theorem VRaw_any (b : Nat) (v : Value) (l sp : List UInt8) (s : Nat × Int × Int) (n : Int) (w : World) (hR : Rv w b v l sp s) (hp : s.1 ≤ l.length) (hl : l.length ≤ 1000000000) :
    Calls Tryz.prog 77 #[.pointer (some ⟨b, 0, none⟩), .int .i64 n] w fun r w' => RawV w b v l sp (rRaw l s n).1 (rRaw l s n).2 r w' := by
  obtain ⟨p, fe, fa⟩ := s
  simp only at hp
  obtain ⟨c0, c1, c2, c3, z⟩ := hR.cells
  have HR := Lib.hid hR
  by_cases hn : n < 0
  · have hr : rRaw l (p, fe, fa) n = ([], failS (p, fe, fa) 2 p) := by
      by_cases hfe : fe = 0
      · simp [rRaw, stepR, failS, rawRead, hfe, hn]
      · simp [rRaw, stepR, failS, hfe]
    rw [hr]
    clear hr hR z
    go_enter Tryz.func77, Tryz.ntmps77
    go_wp2_with fail
    refine (vfail_any b v l sp (p, fe, fa) 2 p _ HR.out).mono ?_
    rintro r w1 ⟨rfl, h1⟩
    have hne : (failS (p, fe, fa) 2 p).2.1 ≠ 0 := by
      unfold failS
      split
      · simp
      · assumption
    have HN := Lib.hid hne
    clear hne
    go_wp2_with fail
    refine (vsome_bad b v _ l sp _ _ h1.1 HN.out).mono ?_
    rintro r w2 ⟨rfl, kk, rfl⟩
    go_wp2
    go_ret
    exact ⟨none, 0, [], rfl, OwnB.nil _ _, by simp [Fresh, blk], h1.drewN kk⟩
  · by_cases hfe : fe = 0
    · subst hfe
      obtain ⟨k, rfl⟩ := Int.eq_ofNat_of_zero_le (show 0 ≤ n by omega)
      by_cases hlt : l.length < p + k
      · have hk0 : ¬ (k : Int) < 0 := by omega
        have hr : rRaw l (p, 0, fa) k = ([], p, 4, (l.length : Int)) := by simp [rRaw, stepR, rawRead, hlt, hk0]
        have hd : decide ((k : Int) ≤ (l.length : Int) - p) = false := by simp; omega
        have hs4 : someS l (p, 0, fa) k = (p, 4, (l.length : Int)) := by unfold someS; rw [if_pos (by simp; omega)]; simp [failS]
        rw [hr]
        have H4 := Lib.hid hs4
        clear hr hlt hR hs4 z
        go_enter Tryz.func77, Tryz.ntmps77
        go_wp2_with fail
        refine (vsome_ok b v l sp p fa k _ HR.out hp hl).mono ?_
        rw [hd, H4.out]
        rintro r w1 ⟨rfl, h1⟩
        go_wp2
        go_ret
        exact ⟨none, 0, [], rfl, OwnB.nil _ _, by simp [Fresh, blk], h1⟩
      · have hlen : ((l.drop p).take k).length = k := by simp; omega
        have hr : rRaw l (p, 0, fa) k = ((l.drop p).take k, p + k, 0, fa) := by
          have : ¬ (k : Int) < 0 := by omega
          simp [rRaw, stepR, rawRead, hlt, this]
        have hd : decide ((k : Int) ≤ (l.length : Int) - p) = true := by simp; omega
        have hs4 : someS l (p, 0, fa) k = (p, 0, fa) := by unfold someS; rw [if_neg (by simp; omega)]
        rw [hr]
        have H4 := Lib.hid hs4
        have HLN := Lib.hid hlen
        have hpk : p + k ≤ l.length := by omega
        have hkk : (0 : Int) ≤ (k : Int) := by omega
        clear hr hlt hR hs4 z hlen hn
        generalize hm : (l.drop p).take k = m at *
        have HMM := Lib.hid hm
        clear hm
        go_enter Tryz.func77, Tryz.ntmps77
        go_wp2_with fail
        refine (vsome_ok b v l sp p fa k _ HR.out hp hl).mono ?_
        rw [hd, H4.out]
        rintro r w1 ⟨rfl, h1⟩
        obtain ⟨a, cap, rfl, hc1, hc2⟩ := h1.1.2.1.form
        obtain ⟨q, hq⟩ : ∃ q, q = p + k := ⟨_, rfl⟩
        have hpq : (p : Int) + (k : Int) = (q : Int) := by omega
        obtain ⟨a', c', hsl, hS', hbl⟩ := slice_lhB BT h1.1.2.1 p q (by omega) (by omega)
        rw [show q - p = k by omega] at hsl hS' hbl
        rw [HMM.out] at hS'
        have hP := h1.1.place q (.int .i64 q) rfl
        have w1' : IntKind.i64.wrap ((q : Int) - (k : Int)) = (p : Int) := by rw [IntWalk.i64_in _ (by omega)]; omega
        have hsl2 := fun wx => hsl p q wx rfl rfl
        have hb1 : (p : Int) ≤ (q : Int) := by omega
        have hb2 : (q : Int) ≤ (cap : Int) := by omega
        obtain ⟨g0, g1, g2, g3, gz⟩ := hP.1.cells
        obtain ⟨k0, k1, k2, k3, kz⟩ := h1.1.cells
        have HP := Lib.hid hP
        have H1 := Lib.hid h1
        have HS := Lib.hid hS'
        have W1 := Lib.hid w1'
        have HB := Lib.hid hbl
        have HQ := Lib.hid hq
        clear hP h1 hS' w1' hbl hsl hq
        have o0 : OwnB 5 ((w1.setCell ⟨b, 1, none⟩ (.int .i64 q)).alloc (.cells #[] 5)) (.slice (some ⟨w1.heap.size, 0, none⟩) 0 0) [] [] := OwnB.of_heap (heap_alloc_at (by simp)) rfl rfl (by simp)
        have hblt : b < w1.heap.size := lt_heap H1.out.1.1
        have hnb : b ∉ blk (.slice (some ⟨w1.heap.size, 0, none⟩) 0 0) := by simp [blk]; omega
        have HNB := Lib.hid hnb
        clear hnb
        have O0 := Lib.hid o0
        have hSA : ∀ W, Frm [b] w1 W → SlB W (.slice a' k c') m (l.drop q ++ sp) := fun W f => HS.out.keepR f (fun i hi => by simp; rintro rfl; exact H1.out.1.2.2 (HB.out _ hi))
        have hbn : ([] : List UInt8).length + m.length ≤ 140737488355328 := by rw [HLN.out]; simp; omega
        have HSA := Lib.hid hSA
        have HBN := Lib.hid hbn
        clear hSA hbn
        clear o0
        go_wp2_with fail
        have w1' := W1.out
        go_region_held3 (fun y => y.cell? ⟨b, 0, none⟩ = some (.slice a l.length cap) ∧ y.cell? ⟨b, 1, none⟩ = some (.int .i64 q))
          (first | go_keep | (go_split_ands; exact ⟨f2.cell ‹_› HNB.out, f2.cell ‹_› HNB.out⟩))
          ((refine step_append_bytes BT (O0.out.keep ((Frm.refl [] _).drew) (by simp)) (HSA.out _ ((((Frm.refl [b] _).setCell _ _ (by simp)).alloc _).drew)) HBN.out (by rfl) (.tmp 26) (.tmp 41) (by rfl) (by rfl) (by rfl) ?_; intro a2 cap2 w2 sp2 o2 f2 b2))
        go_wp2_with fail
        go_ret
        refine ⟨a2, cap2, sp2, ?_, ?_, ?_, ?_, ?_⟩
        · simp
        · simpa using o2
        · intro i hi
          rcases b2 i (by simpa using hi) with h | h
          · simp [blk] at h
            have := H1.out.2.size
            omega
          · simp at h
            have := H1.out.2.size
            omega
        · have := HP.out.1.keep (((Frm.refl [] _).alloc _).drew.trans f2 (L := []) (by simp [blk])) (by simp) (by simp)
          rw [HQ.out] at this
          exact this
        · exact H1.out.2.trans (HP.out.2.trans (((Frm.refl [] _).alloc _).drew.trans f2 (L := []) (by simp [blk])) (by simp)) (by simp)
    · have hr : rRaw l (p, fe, fa) n = ([], p, fe, fa) := by simp [rRaw, stepR, hfe]
      rw [hr]
      have HFE := Lib.hid hfe
      clear hr hfe hR z
      go_enter Tryz.func77, Tryz.ntmps77
      go_wp2_with fail
      refine (vsome_bad b v _ l sp _ _ HR.out HFE.out).mono ?_
      rintro r w2 ⟨rfl, kk, rfl⟩
      go_wp2
      go_ret
      exact ⟨none, 0, [], rfl, OwnB.nil _ _, by simp [Fresh, blk], RvTo.same HR.out ((Frm.refl [] _).drewN kk)⟩
end Go.Proofs.YtjdejhgfkjeeiaaGreatDoor

namespace Go.Proofs.YtjdejhgfkjeeiaaGreatDoor
open Go.RowKit
set_option linter.unusedVariables false
set_option linter.unusedSimpArgs false

def VOpened (w : World) (v : Value) (l sp : List UInt8) (r : Ending) (w' : World) : Prop := r = .returned (.pointer (some ⟨w.heap.size, 0, none⟩)) ∧ Rv w' w.heap.size v l sp (0, 0, 0) ∧ Frm [] w w'
theorem VOpen_any (v : Value) (l sp : List UInt8) (w : World) (hS : SlB w v l sp) (hB : ∀ k ∈ blkR v, k < w.heap.size) :
    Calls Tryz.prog 76 #[v] w fun r w' => VOpened w v l sp r w' := by
  obtain ⟨a0, cap0, rfl, _, _⟩ := hS.form
  have HS := Lib.hid hS
  have HB := Lib.hid hB
  clear hS hB
  go_enter Tryz.func76, Tryz.ntmps76
  go_wp2_with fail
  go_ret
  exact ⟨rfl, ⟨heap_alloc_new _ _, HS.out.keep ((Frm.refl [] _).alloc _) (by simp), fun hm => by have := HB.out _ hm; omega⟩, (Frm.refl [] _).alloc _⟩
end Go.Proofs.YtjdejhgfkjeeiaaGreatDoor
