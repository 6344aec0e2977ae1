/-
  number; made; what makes needs; demand of what New did not make. No conditions but those that each theorem names.
-/
import Derived.Test.YtdebnikolhhmgaaDoorAB
import Derived.LaidEqlPtr
import Derived.Deep.CutBlock
import Derived.Deep.DeepCutAuto
import Derived.Deep.Slices
namespace Go.Proofs.YtdebnikolhhmgaaDoor
open Go.RowKit
set_option linter.unusedVariables false
set_option linter.unusedSimpArgs false
set_option maxRecDepth 100000

open Kr (OwnE SlE Enco RowTys)
open Go.Extern.Stop Go.Stop Go.Extern
theorem Is_ref (tx : ByteArray) (p t : Addr) (c c2 : Array Value) (ty ty2 : TypeId) (W : World) (hp : W.heap[p.block]? = some (.cells c ty (0, 0))) (ht : W.heap[t.block]? = some (.cells c2 ty2 (0, 0))) :
    Calls Tryd.prog 65 #[.iface 102 (.agg #[.string tx, .iface 126 (.pointer (some p))]), .iface 126 (.pointer (some t))] W fun r w' => r = .returned (.bool (decide (p = t))) ∧ Frm [] W w' := by
  have HI := Lib.hid (is_ref tx p t c c2 ty ty2 W hp ht)
  have h10 := @run_callFunc_extern Tryd.prog 73 _ Extern.ReflectliteType.typeOf Tryd.func73 (by kernel_rfl) (by kernel_rfl) (by kernel_rfl) (by kernel_rfl)
  have h30 := @run_callFunc_extern Tryd.prog 96 _ (Extern.ReflectliteType.method fun t => do Extern.Rtype.noPackHeld "Comparable" t; pure (.bool (← typeInfo t).comparable)) Tryd.func96 (by kernel_rfl) (by kernel_rfl) (by kernel_rfl) (by kernel_rfl)
  have e1 := isTypeOf
  have e2 := isComparable
  have e3 := isMethodComparable
  clear hp ht
  go_enter Tryd.func65, Tryd.ntmps65
  go_wp2_with (go_at_call 74; refine HI.out.mono ?_; rintro r w3 ⟨rfl, f3⟩)
  go_ret
  exact ⟨rfl, f3⟩
theorem Is_s {w : World} {lo : Nat} {s : Nat → Addr} (h : Sn w lo s) (tx : ByteArray) (k j : Nat) (hk : k < 6) (hj : j < 6) :
    Calls Tryd.prog 65 #[rfu s k tx, .iface 126 (.pointer (some (s j)))] w fun r w' => r = .returned (.bool (decide (k = j))) ∧ Frm [] w w' := by
  obtain ⟨c, t, hc⟩ := h.h k hk
  obtain ⟨c2, t2, hc2⟩ := h.h j hj
  refine (Is_ref tx (s k) (s j) c c2 t t2 w hc hc2).mono ?_
  rintro e w' ⟨rfl, f⟩
  refine ⟨?_, f⟩
  congr 2
  exact decide_eq_decide.2 ⟨fun e => h.n k j hk hj e, fun e => by rw [e]⟩
set_option maxHeartbeats 4000000 in
theorem number_any {w : World} {lo : Nat} {s : Nat → Addr} (h : Sn w lo s) (tx : ByteArray) (k : Nat) (hk : k < 6) :
    Calls Tryd.prog 42 #[rfu s k tx] w fun r w' => r = .returned (.int .i64 (code k)) ∧ Frm [] w w' := by
  have v0 := fun W (f : Frm [] w W) => f.cell (h.v 0 (by omega)) (by simp)
  have v1 := fun W (f : Frm [] w W) => f.cell (h.v 1 (by omega)) (by simp)
  have v2 := fun W (f : Frm [] w W) => f.cell (h.v 2 (by omega)) (by simp)
  have v3 := fun W (f : Frm [] w W) => f.cell (h.v 3 (by omega)) (by simp)
  have v4 := fun W (f : Frm [] w W) => f.cell (h.v 4 (by omega)) (by simp)
  have v5 := fun W (f : Frm [] w W) => f.cell (h.v 5 (by omega)) (by simp)
  have HI := Lib.hid (fun W (f : Frm [] w W) j (hj : j < 6) => Is_s (h.keep0 f) tx k j hk hj)
  have V := Lib.hid (And.intro v0 (And.intro v1 (And.intro v2 (And.intro v3 (And.intro v4 v5)))))
  have c1 := v1 w (Frm.refl _ _)
  obtain ⟨q, hq⟩ : ∃ q, rfu s k tx = q := ⟨_, rfl⟩
  rw [hq] at HI ⊢
  obtain ⟨u, hu⟩ : ∃ u, q = .iface 102 u := ⟨_, hq.symm⟩
  subst hu
  clear hq v0 v1 v2 v3 v4 v5 h
  have hk6 : k = 0 ∨ k = 1 ∨ k = 2 ∨ k = 3 ∨ k = 4 ∨ k = 5 := by omega
  clear hk
  rcases hk6 with rfl | rfl | rfl | rfl | rfl | rfl
  · go_enter Tryd.func42, Tryd.ntmps42
    go_wp2_with fail
    refine (HI.out w (Frm.refl _ _) 1 (by omega)).mono ?_
    rintro e w1 ⟨rfl, f1⟩
    have F1 := Lib.hid f1
    have c2 := V.out.2.2.1 w1 f1
    clear f1 c1
    go_wp2_with fail
    refine (HI.out w1 F1.out 2 (by omega)).mono ?_
    rintro e w2 ⟨rfl, f2⟩
    have F2 := Lib.hid (F1.out.trans f2 (by simp))
    have c3 := V.out.2.2.2.1 w2 F2.out
    clear f2
    go_wp2_with fail
    refine (HI.out w2 F2.out 3 (by omega)).mono ?_
    rintro e w3 ⟨rfl, f3⟩
    have F3 := Lib.hid (F2.out.trans f3 (by simp))
    have c4 := V.out.1 w3 F3.out
    clear f3
    go_wp2_with fail
    refine (HI.out w3 F3.out 0 (by omega)).mono ?_
    rintro e w4 ⟨rfl, f4⟩
    have F4 := Lib.hid (F3.out.trans f4 (by simp))
    have c5 := V.out.2.2.2.2.1 w4 F4.out
    clear f4
    go_wp2_with fail
    go_ret
    exact ⟨rfl, F4.out⟩
  · go_enter Tryd.func42, Tryd.ntmps42
    go_wp2_with fail
    refine (HI.out w (Frm.refl _ _) 1 (by omega)).mono ?_
    rintro e w1 ⟨rfl, f1⟩
    have F1 := Lib.hid f1
    have c2 := V.out.2.2.1 w1 f1
    clear f1 c1
    go_wp2_with fail
    go_ret
    exact ⟨rfl, F1.out⟩
  · go_enter Tryd.func42, Tryd.ntmps42
    go_wp2_with fail
    refine (HI.out w (Frm.refl _ _) 1 (by omega)).mono ?_
    rintro e w1 ⟨rfl, f1⟩
    have F1 := Lib.hid f1
    have c2 := V.out.2.2.1 w1 f1
    clear f1 c1
    go_wp2_with fail
    refine (HI.out w1 F1.out 2 (by omega)).mono ?_
    rintro e w2 ⟨rfl, f2⟩
    have F2 := Lib.hid (F1.out.trans f2 (by simp))
    have c3 := V.out.2.2.2.1 w2 F2.out
    clear f2
    go_wp2_with fail
    go_ret
    exact ⟨rfl, F2.out⟩
  · go_enter Tryd.func42, Tryd.ntmps42
    go_wp2_with fail
    refine (HI.out w (Frm.refl _ _) 1 (by omega)).mono ?_
    rintro e w1 ⟨rfl, f1⟩
    have F1 := Lib.hid f1
    have c2 := V.out.2.2.1 w1 f1
    clear f1 c1
    go_wp2_with fail
    refine (HI.out w1 F1.out 2 (by omega)).mono ?_
    rintro e w2 ⟨rfl, f2⟩
    have F2 := Lib.hid (F1.out.trans f2 (by simp))
    have c3 := V.out.2.2.2.1 w2 F2.out
    clear f2
    go_wp2_with fail
    refine (HI.out w2 F2.out 3 (by omega)).mono ?_
    rintro e w3 ⟨rfl, f3⟩
    have F3 := Lib.hid (F2.out.trans f3 (by simp))
    have c4 := V.out.1 w3 F3.out
    clear f3
    go_wp2_with fail
    go_ret
    exact ⟨rfl, F3.out⟩
  · go_enter Tryd.func42, Tryd.ntmps42
    go_wp2_with fail
    refine (HI.out w (Frm.refl _ _) 1 (by omega)).mono ?_
    rintro e w1 ⟨rfl, f1⟩
    have F1 := Lib.hid f1
    have c2 := V.out.2.2.1 w1 f1
    clear f1 c1
    go_wp2_with fail
    refine (HI.out w1 F1.out 2 (by omega)).mono ?_
    rintro e w2 ⟨rfl, f2⟩
    have F2 := Lib.hid (F1.out.trans f2 (by simp))
    have c3 := V.out.2.2.2.1 w2 F2.out
    clear f2
    go_wp2_with fail
    refine (HI.out w2 F2.out 3 (by omega)).mono ?_
    rintro e w3 ⟨rfl, f3⟩
    have F3 := Lib.hid (F2.out.trans f3 (by simp))
    have c4 := V.out.1 w3 F3.out
    clear f3
    go_wp2_with fail
    refine (HI.out w3 F3.out 0 (by omega)).mono ?_
    rintro e w4 ⟨rfl, f4⟩
    have F4 := Lib.hid (F3.out.trans f4 (by simp))
    have c5 := V.out.2.2.2.2.1 w4 F4.out
    clear f4
    go_wp2_with fail
    refine (HI.out w4 F4.out 4 (by omega)).mono ?_
    rintro e w5 ⟨rfl, f5⟩
    have F5 := Lib.hid (F4.out.trans f5 (by simp))
    have c6 := V.out.2.2.2.2.2 w5 F5.out
    clear f5
    go_wp2_with fail
    go_ret
    exact ⟨rfl, F5.out⟩
  · go_enter Tryd.func42, Tryd.ntmps42
    go_wp2_with fail
    refine (HI.out w (Frm.refl _ _) 1 (by omega)).mono ?_
    rintro e w1 ⟨rfl, f1⟩
    have F1 := Lib.hid f1
    have c2 := V.out.2.2.1 w1 f1
    clear f1 c1
    go_wp2_with fail
    refine (HI.out w1 F1.out 2 (by omega)).mono ?_
    rintro e w2 ⟨rfl, f2⟩
    have F2 := Lib.hid (F1.out.trans f2 (by simp))
    have c3 := V.out.2.2.2.1 w2 F2.out
    clear f2
    go_wp2_with fail
    refine (HI.out w2 F2.out 3 (by omega)).mono ?_
    rintro e w3 ⟨rfl, f3⟩
    have F3 := Lib.hid (F2.out.trans f3 (by simp))
    have c4 := V.out.1 w3 F3.out
    clear f3
    go_wp2_with fail
    refine (HI.out w3 F3.out 0 (by omega)).mono ?_
    rintro e w4 ⟨rfl, f4⟩
    have F4 := Lib.hid (F3.out.trans f4 (by simp))
    have c5 := V.out.2.2.2.2.1 w4 F4.out
    clear f4
    go_wp2_with fail
    refine (HI.out w4 F4.out 4 (by omega)).mono ?_
    rintro e w5 ⟨rfl, f5⟩
    have F5 := Lib.hid (F4.out.trans f5 (by simp))
    have c6 := V.out.2.2.2.2.2 w5 F5.out
    clear f5
    go_wp2_with fail
    refine (HI.out w5 F5.out 5 (by omega)).mono ?_
    rintro e w6 ⟨rfl, f6⟩
    have F6 := Lib.hid (F5.out.trans f6 (by simp))
    clear f6
    go_wp2_with fail
    go_ret
    exact ⟨rfl, F6.out⟩
theorem made_nil (w : World) : Calls Tryd.prog 59 #[.pointer none] w fun e w' => e = .returned (.bool false) ∧ w' = w := by
  go_enter Tryd.func59, Tryd.ntmps59
  go_wp2
  go_ret
  exact ⟨rfl, rfl⟩
theorem heap_alloc_at {w : World} {o : Obj} {n : Nat} (hn : n = w.heap.size) : (w.alloc o).heap[n]? = some o := by subst hn; exact heap_alloc_new _ _
theorem info35 : (Tryd.prog.info? 35).map (·.size) = some 8 := by kernel_rfl
theorem nil_eql (a : Addr) (w : World) : (binOp .eql 29 (.pointer none) (.pointer (some a))).run Tryd.prog w = .ok (.bool false) w := by
  have h : ∀ d : Nat, (Op.equalIn (d + 1) 29 (.pointer none) (.pointer (some a))).run Tryd.prog w = .ok false w := fun d => by
    simp [Op.equalIn, run_underlying Tryd.underlying29]
  simp only [binOp]
  simp [Op.equal, Op.maxDepth, h 9999]
theorem same_eql (a : Addr) (w : World) : (binOp .eql 29 (.pointer (some a)) (.pointer (some a))).run Tryd.prog w = .ok (.bool true) w := by
  obtain ⟨j, hj, _⟩ := Option.map_eq_some_iff.1 info35
  exact run_eql_ptr_same (P := Tryd.prog) w a Tryd.underlying29 hj
theorem made_zero (g : Nat) (w : World) (h : w.cell? ⟨g, 0, none⟩ = some (.pointer none)) : Calls Tryd.prog 59 #[.pointer (some ⟨g, 0, none⟩)] w fun e w' => e = .returned (.bool false) ∧ w' = w := by
  have hn := nil_eql ⟨g, 0, none⟩ w
  go_enter Tryd.func59, Tryd.ntmps59
  go_wp2
  go_ret
  exact ⟨rfl, rfl⟩
theorem made_yes (g : Nat) (w : World) (h : w.cell? ⟨g, 0, none⟩ = some (.pointer (some ⟨g, 0, none⟩))) : Calls Tryd.prog 59 #[.pointer (some ⟨g, 0, none⟩)] w fun e w' => e = .returned (.bool true) ∧ w' = w := by
  have hn := same_eql ⟨g, 0, none⟩ w
  go_enter Tryd.func59, Tryd.ntmps59
  go_wp2
  go_ret
  exact ⟨rfl, rfl⟩
def txA : ByteArray := ⟨#[97, 114, 114, 97, 121]⟩
/-- What New did not make. -/
def Un (w : World) (p : Value) : Prop := p = .pointer none ∨ ∃ g, p = .pointer (some ⟨g, 0, none⟩) ∧ w.cell? ⟨g, 0, none⟩ = some (.pointer none)
theorem Un.keep0 {w w' : World} {p : Value} (h : Un w p) (f : Frm [] w w') : Un w' p := by
  rcases h with h | ⟨g, h1, h2⟩
  · exact .inl h
  · exact .inr ⟨g, h1, f.cell h2 (by simp)⟩
theorem Un.made {w : World} {p : Value} (h : Un w p) : Calls Tryd.prog 59 #[p] w fun e w' => e = .returned (.bool false) ∧ w' = w := by
  rcases h with rfl | ⟨g, rfl, h2⟩
  · exact made_nil w
  · exact made_zero g w h2
theorem Un.form {w : World} {p : Value} (h : Un w p) : ∃ q, p = .pointer q := by
  rcases h with rfl | ⟨g, rfl, h2⟩ <;> exact ⟨_, rfl⟩
theorem demand_no {w : World} {lo : Nat} {s : Nat → Addr} (h : Sn w lo s) (p nv : Value) (hp : Un w p) :
    Calls Tryd.prog 37 #[p, nv] w fun e w' => e = .returned (rfu s 1 txA) ∧ Frm [] w w' := by
  have c1 := h.v 1 (by omega)
  have hm := hp.made (w := w)
  have hm2 : Calls Tryd.prog 59 #[p] w.drew fun e w' => e = .returned (.bool false) ∧ w' = w.drew := (hp.keep0 ((Frm.refl [] w).drew)).made
  obtain ⟨q, rfl⟩ := hp.form
  have hu := unless_false txA (s 1) w.drew
  unfold txA at *
  unfold rfu
  clear hm hp h
  go_enter Tryd.func37, Tryd.ntmps37
  go_upto_region 1 with (fail)
  refine wp_region_still_lit (by kernel_rfl) (by kernel_rfl) ?_
  change wpStill _ _ (World.drew _) _ _ _
  repeat still_step
  still_call hm2
  repeat still_step
  still_call hu
  repeat still_step
  refine wpStill_nil ?_
  change Exit.then _ _ _ _ (World.drew _)
  go_wp2_with fail
  go_ret
  exact ⟨rfl, (Frm.refl [] w).drew⟩
theorem sectorOf_any (d a : Int) (w : World) : Calls Tryd.prog 39 #[.int .i64 d, .int .i64 a] w fun e w' => ∃ b1 b2, e = .returned (.func (.func 61) #[] #[.pointer (some ⟨b1, 0, none⟩), .pointer (some ⟨b2, 0, none⟩)]) ∧ w'.heap[b1]? = some (.cells #[.int .i64 d] 3 (0, 0)) ∧ w'.heap[b2]? = some (.cells #[.int .i64 a] 3 (0, 0)) ∧ Frm [] w w' := by
  have hmf : ∀ (fn : Fn) (first cap : Array Value) (w : World), (Instr.makeFunc fn first cap).run Tryd.prog w = .ok (.func fn first cap) w := fun _ _ _ _ => rfl
  go_enter Tryd.func39, Tryd.ntmps39
  go_wp2
  go_ret
  exact ⟨_, _, rfl, heap_alloc_lt (heap_alloc_new _ _), heap_alloc_at (by simp), ((Frm.refl [] w).alloc _).alloc _⟩
theorem there_any (d : Int) (w : World) : Calls Tryd.prog 40 #[.int .i64 d] w fun e w' => ∃ b1, e = .returned (.func (.func 62) #[] #[.pointer (some ⟨b1, 0, none⟩)]) ∧ w'.heap[b1]? = some (.cells #[.int .i64 d] 3 (0, 0)) ∧ Frm [] w w' := by
  have hmf : ∀ (fn : Fn) (first cap : Array Value) (w : World), (Instr.makeFunc fn first cap).run Tryd.prog w = .ok (.func fn first cap) w := fun _ _ _ _ => rfl
  go_enter Tryd.func40, Tryd.ntmps40
  go_wp2
  go_ret
  exact ⟨_, rfl, heap_alloc_new _ _, (Frm.refl [] w).alloc _⟩
theorem noFailure_any (d : Int) (w : World) : Calls Tryd.prog 41 #[.int .i64 d] w fun e w' => ∃ b1, e = .returned (.func (.func 64) #[] #[.pointer (some ⟨b1, 0, none⟩)]) ∧ w'.heap[b1]? = some (.cells #[.int .i64 d] 3 (0, 0)) ∧ Frm [] w w' := by
  have hmf : ∀ (fn : Fn) (first cap : Array Value) (w : World), (Instr.makeFunc fn first cap).run Tryd.prog w = .ok (.func fn first cap) w := fun _ _ _ _ => rfl
  go_enter Tryd.func41, Tryd.ntmps41
  go_wp2
  go_ret
  exact ⟨_, rfl, heap_alloc_new _ _, (Frm.refl [] w).alloc _⟩
theorem argument_any (d : Bool) (w : World) : Calls Tryd.prog 46 #[.bool d] w fun e w' => ∃ b1, e = .returned (.func (.func 66) #[] #[.pointer (some ⟨b1, 0, none⟩)]) ∧ w'.heap[b1]? = some (.cells #[.bool d] 4 (0, 0)) ∧ Frm [] w w' := by
  have hmf : ∀ (fn : Fn) (first cap : Array Value) (w : World), (Instr.makeFunc fn first cap).run Tryd.prog w = .ok (.func fn first cap) w := fun _ _ _ _ => rfl
  go_enter Tryd.func46, Tryd.ntmps46
  go_wp2
  go_ret
  exact ⟨_, rfl, heap_alloc_new _ _, (Frm.refl [] w).alloc _⟩
theorem deviceOf_any (d : Int) (w : World) : Calls Tryd.prog 50 #[.int .i64 d] w fun e w' => ∃ b1, e = .returned (.func (.func 69) #[] #[.pointer (some ⟨b1, 0, none⟩)]) ∧ w'.heap[b1]? = some (.cells #[.int .i64 d] 3 (0, 0)) ∧ Frm [] w w' := by
  have hmf : ∀ (fn : Fn) (first cap : Array Value) (w : World), (Instr.makeFunc fn first cap).run Tryd.prog w = .ok (.func fn first cap) w := fun _ _ _ _ => rfl
  go_enter Tryd.func50, Tryd.ntmps50
  go_wp2
  go_ret
  exact ⟨_, rfl, heap_alloc_new _ _, (Frm.refl [] w).alloc _⟩
theorem byteOf_any (d : Int) (w : World) : Calls Tryd.prog 55 #[.int .i64 d] w fun e w' => ∃ b1, e = .returned (.func (.func 72) #[] #[.pointer (some ⟨b1, 0, none⟩)]) ∧ w'.heap[b1]? = some (.cells #[.int .i64 d] 3 (0, 0)) ∧ Frm [] w w' := by
  have hmf : ∀ (fn : Fn) (first cap : Array Value) (w : World), (Instr.makeFunc fn first cap).run Tryd.prog w = .ok (.func fn first cap) w := fun _ _ _ _ => rfl
  go_enter Tryd.func55, Tryd.ntmps55
  go_wp2
  go_ret
  exact ⟨_, rfl, heap_alloc_new _ _, (Frm.refl [] w).alloc _⟩
end Go.Proofs.YtdebnikolhhmgaaDoor
