/-
  Needs: what must hold for a call to be done. No conditions but those that each theorem names.
-/
import Derived.Test.YtdebnikolhhmgaaDoorAE
namespace Go.Proofs.YtdebnikolhhmgaaDoor
open Go.RowKit
set_option linter.unusedVariables false
set_option linter.unusedSimpArgs false
set_option maxRecDepth 100000

open Kr (OwnE SlE Enco RowTys)
theorem has_any (b o f x : Nat) (hf : f < 256) (hx : x < 256) (w : World) (hc : w.cell? ⟨b, o, none⟩ = some (.int .u8 (f : Int))) :
    Calls Tryd.prog 63 #[.pointer (some ⟨b, o, none⟩), .int .u8 (x : Int)] w fun e w' => e = .returned (.bool ((f &&& x) != 0)) ∧ w' = w := by
  have hb : bits BinOp.and IntKind.u8 (f : Int) (x : Int) = ((f &&& x : Nat) : Int) := u8_and_nat _ _ hf hx
  have ht : (((f &&& x : Nat) : Int) != 0) = ((f &&& x) != 0) := by cases f &&& x <;> rfl
  rw [← ht]
  clear hf hx ht
  generalize ((f &&& x : Nat) : Int) = q at *
  generalize (f : Int) = f1 at *
  generalize (x : Int) = x1 at *
  go_enter Tryd.func63, Tryd.ntmps63
  go_wp2
  go_ret
  exact ⟨rfl, rfl⟩
/-- What a need answers: nothing, or a refusal of this kind. -/
def Ans (sn : Nat → Addr) (o : Option Nat) (e : Ending) : Prop := (o = none ∧ e = .returned .nilIface) ∨ ∃ k tx, o = some k ∧ k < 6 ∧ e = .returned (rfu sn k tx)
theorem Ans.none (sn : Nat → Addr) : Ans sn none (.returned .nilIface) := .inl ⟨rfl, rfl⟩
theorem Ans.some (sn : Nat → Addr) {k : Nat} (tx : ByteArray) (hk : k < 6) : Ans sn (some k) (.returned (.iface 102 (.agg #[.string tx, .iface 126 (.pointer (some (sn k)))]))) := .inr ⟨k, tx, rfl, hk, rfl⟩
def ptr (g : Nat) : Value := .pointer (some ⟨g, 0, none⟩)
section
variable {lo : Nat} {w : World} {sn : Nat → Addr} {g : Nat} {s : St}
theorem Arr.len (h : Arr lo w g s) : s.devs.length ≤ 9223372036854775807 := by
  obtain ⟨dv, rv, drs, dsp, rcs, rsp, h⟩ := h
  obtain ⟨a, cap, e, h1, h2⟩ := h.own.sl.form
  have := h.dlen
  simp only [maxLen] at h2
  omega
theorem running_any (hs : Sn w lo sn) (h : Arr lo w g s) : Calls Tryd.prog 38 #[ptr g] w fun e w' => Ans sn (if s.out = true then some 2 else none) e ∧ Frm [] w w' := by
  obtain ⟨dv, rv, drs, dsp, rcs, rsp, h⟩ := h
  obtain ⟨c0, c1, c2, c3, c4, c5, c6, c7, cz⟩ := h.cells
  have cg := hs.v 2 (by omega)
  unfold ptr
  clear h c0 c1 c2 c3 c4 c5 c7 cz hs
  cases ho : s.out
  · rw [ho] at c6
    clear ho
    go_enter Tryd.func38, Tryd.ntmps38
    go_upto_region 1 with (fail)
    refine wp_region_still_lit (by kernel_rfl) (by kernel_rfl) ?_
    change wpStill _ _ (World.drew _) _ _ _
    repeat still_step
    still_call (unless_true _ _ w.drew)
    repeat still_step
    refine wpStill_nil ?_
    change Exit.then _ _ _ _ (World.drew _)
    go_wp2_with fail
    go_ret
    exact ⟨Ans.none sn, (Frm.refl [] w).drew⟩
  · rw [ho] at c6
    clear ho
    go_enter Tryd.func38, Tryd.ntmps38
    go_upto_region 1 with (fail)
    refine wp_region_still_lit (by kernel_rfl) (by kernel_rfl) ?_
    change wpStill _ _ (World.drew _) _ _ _
    repeat still_step
    still_call (unless_false _ _ w.drew)
    repeat still_step
    refine wpStill_nil ?_
    change Exit.then _ _ _ _ (World.drew _)
    go_wp2_with fail
    go_ret
    exact ⟨Ans.some sn _ (by omega), (Frm.refl [] w).drew⟩
def okD (s : St) (d : Int) : Bool := decide (0 ≤ d ∧ d ≤ (s.devs.length : Int) - 1)
def okA (s : St) (a : Int) : Bool := decide (0 ≤ a ∧ a ≤ (s.n : Int) - 1)
def nD (s : St) (d : Int) : Option Nat := if okD s d = true then none else some 3
def nS (s : St) (d a : Int) : Option Nat := if okD s d = true then (if okA s a = true then none else some 3) else some 3
def hasF (s : St) (d : Int) (x : Nat) : Bool := match s.devs[d.toNat]? with
  | .some q => (q.f &&& x) != 0
  | .none => false
def gone (s : St) (d : Int) : Bool := hasF s d 1
def nT (s : St) (d : Int) : Option Nat := if gone s d = true then some 4 else none
theorem deviceOf1_any (d : Int) (b1 : Nat) (hs : Sn w lo sn) (h : Arr lo w g s) (hb : w.cell? ⟨b1, 0, none⟩ = some (.int .i64 d)) :
    Calls Tryd.prog 69 #[ptr g, ptr b1] w fun e w' => Ans sn (nD s d) e ∧ Frm [] w w' := by
  have hl := h.len
  obtain ⟨dv, rv, drs, dsp, rcs, rsp, h⟩ := h
  obtain ⟨c0, c1, c2, c3, c4, c5, c6, c7, cz⟩ := h.cells
  obtain ⟨da, dcap, rfl, _, _⟩ := h.own.sl.form
  rw [h.dlen] at c2
  have cg := hs.v 3 (by omega)
  have hw1 : IntKind.i64.wrap ((s.devs.length : Int) - 1) = (s.devs.length : Int) - 1 := IntWalk.i64_in _ (by omega)
  unfold ptr nD
  have hin := within_any d 0 ((s.devs.length : Int) - 1) w.drew
  clear h c0 c1 c3 c4 c5 c6 c7 cz hs hl
  cases ho : okD s d
  · have ho2 : decide (0 ≤ d ∧ d ≤ (s.devs.length : Int) - 1) = false := ho
    rw [ho2] at hin
    clear ho ho2
    generalize s.devs.length = n at *
    go_enter Tryd.func69, Tryd.ntmps69
    go_upto_region 1 with (fail)
    refine wp_region_still_lit (by kernel_rfl) (by kernel_rfl) ?_
    change wpStill _ _ (World.drew _) _ _ _
    repeat still_step
    still_call hin
    repeat still_step
    still_call (unless_false _ _ w.drew)
    repeat still_step
    refine wpStill_nil ?_
    change Exit.then _ _ _ _ (World.drew _)
    go_wp2_with fail
    go_ret
    exact ⟨Ans.some sn _ (by omega), (Frm.refl [] w).drew⟩
  · have ho2 : decide (0 ≤ d ∧ d ≤ (s.devs.length : Int) - 1) = true := ho
    rw [ho2] at hin
    clear ho ho2
    generalize s.devs.length = n at *
    go_enter Tryd.func69, Tryd.ntmps69
    go_upto_region 1 with (fail)
    refine wp_region_still_lit (by kernel_rfl) (by kernel_rfl) ?_
    change wpStill _ _ (World.drew _) _ _ _
    repeat still_step
    still_call hin
    repeat still_step
    still_call (unless_true _ _ w.drew)
    repeat still_step
    refine wpStill_nil ?_
    change Exit.then _ _ _ _ (World.drew _)
    go_wp2_with fail
    go_ret
    exact ⟨Ans.none sn, (Frm.refl [] w).drew⟩
end
end Go.Proofs.YtdebnikolhhmgaaDoor
