/-
  More needs; a step. No conditions but those that each theorem names.
-/
import Derived.Test.YtdebnikolhhmgaaDoorAG
import Derived.Shelf.Abstract
namespace Go.Proofs.YtdebnikolhhmgaaDoor
open Go.RowKit
set_option linter.unusedVariables false
set_option linter.unusedSimpArgs false
set_option maxRecDepth 100000

open Kr (OwnE SlE Enco RowTys)
section
variable {lo : Nat} {w : World} {sn : Nat → Addr} {g : Nat} {s : St}
theorem argument1_any (q : Bool) (b1 : Nat) (hs : Sn w lo sn) (hb : w.cell? ⟨b1, 0, none⟩ = some (.bool q)) :
    Calls Tryd.prog 66 #[ptr g, ptr b1] w fun e w' => Ans sn (if q = true then none else some 0) e ∧ Frm [] w w' := by
  have cg := hs.v 0 (by omega)
  unfold ptr
  clear hs
  cases q
  · go_enter Tryd.func66, Tryd.ntmps66
    go_wp2_with (go_at_call 60; refine (unless_false _ _ _).mono ?_; rintro e w1 ⟨rfl, hw1⟩; obtain rfl := hw1.symm)
    go_ret
    exact ⟨Ans.some sn _ (by omega), Frm.refl _ _⟩
  · go_enter Tryd.func66, Tryd.ntmps66
    go_wp2_with (go_at_call 60; refine (unless_true _ _ _).mono ?_; rintro e w1 ⟨rfl, hw1⟩; obtain rfl := hw1.symm)
    go_ret
    exact ⟨Ans.none sn, Frm.refl _ _⟩
theorem byteOf1_any (p : Int) (b1 : Nat) (hs : Sn w lo sn) (hb : w.cell? ⟨b1, 0, none⟩ = some (.int .i64 p)) :
    Calls Tryd.prog 72 #[ptr g, ptr b1] w fun e w' => Ans sn (if decide (0 ≤ p ∧ p ≤ 255) = true then none else some 3) e ∧ Frm [] w w' := by
  have cg := hs.v 3 (by omega)
  have hin := within_any p 0 255 w.drew
  unfold ptr
  clear hs
  cases ho : decide (0 ≤ p ∧ p ≤ 255)
  · rw [ho] at hin
    clear ho
    go_enter Tryd.func72, Tryd.ntmps72
    go_upto_region 1 with (fail)
    refine wp_region_still_lit (by kernel_rfl) (by kernel_rfl) ?_
    change wpStill _ _ (World.drew _) _ _ _
    repeat still_step
    still_call hin
    repeat still_step
    still_call (unless_false _ _ w.drew)
    repeat still_step
    refine wpStill_nil ?_
    change Exit.then _ _ _ _ (World.drew _)
    go_wp2_with fail
    go_ret
    exact ⟨Ans.some sn _ (by omega), (Frm.refl [] w).drew⟩
  · rw [ho] at hin
    clear ho
    go_enter Tryd.func72, Tryd.ntmps72
    go_upto_region 1 with (fail)
    refine wp_region_still_lit (by kernel_rfl) (by kernel_rfl) ?_
    change wpStill _ _ (World.drew _) _ _ _
    repeat still_step
    still_call hin
    repeat still_step
    still_call (unless_true _ _ w.drew)
    repeat still_step
    refine wpStill_nil ?_
    change Exit.then _ _ _ _ (World.drew _)
    go_wp2_with fail
    go_ret
    exact ⟨Ans.none sn, (Frm.refl [] w).drew⟩
theorem sectorOf1_any (d a : Int) (b1 b2 : Nat) (hs : Sn w lo sn) (h : Arr lo w g s) (hn : s.n ≤ 1000000) (hb : w.heap[b1]? = some (.cells #[.int .i64 d] 3 (0, 0))) (hb2 : w.heap[b2]? = some (.cells #[.int .i64 a] 3 (0, 0))) :
    Calls Tryd.prog 61 #[ptr g, ptr b1, ptr b2] w fun e w' => Ans sn (nS s d a) e ∧ Frm [] w w' := by
  have hbc : w.cell? ⟨b1, 0, none⟩ = some (.int .i64 d) := by rw [cell_of_heap hb]; rfl
  have HD := Lib.hid (fun W (f : Frm [] w W) b3 hb3 => deviceOf1_any (g := g) (s := s) (sn := sn) (lo := lo) (w := W) d b3 (hs.keep0 f) (h.keep0 f) hb3)
  have C1 := Lib.hid (fun W (f : Frm [] w W) => (f.cell (show w.cell? ⟨b2, 0, none⟩ = some (.int .i64 a) by rw [cell_of_heap hb2]; rfl) (by simp)))
  have CG := Lib.hid (fun W (f : Frm [] w W) => f.cell (hs.v 3 (by omega)) (by simp))
  obtain ⟨dv, rv, drs, dsp, rcs, rsp, h⟩ := h
  have CN := Lib.hid (fun W (f : Frm [] w W) => f.cell h.cells.2.1 (by simp))
  have hw1 : IntKind.i64.wrap ((s.n : Int) - 1) = (s.n : Int) - 1 := IntWalk.i64_in _ (by omega)
  have HIN := Lib.hid (fun W => within_any a 0 ((s.n : Int) - 1) W)
  have hoA : decide (0 ≤ a ∧ a ≤ (s.n : Int) - 1) = okA s a := rfl
  rw [hoA] at HIN
  unfold nS
  have hnD : nD s d = if okD s d = true then none else some 3 := rfl
  rw [hnD] at HD
  obtain ⟨qa, hqa⟩ : ∃ q, okA s a = q := ⟨_, rfl⟩
  obtain ⟨qd, hqd⟩ : ∃ q, okD s d = q := ⟨_, rfl⟩
  rw [hqa] at HIN ⊢
  rw [hqd] at HD ⊢
  have hmf : ∀ (fn : Fn) (first cap : Array Value) (w : World), (Instr.makeFunc fn first cap).run Tryd.prog w = .ok (.func fn first cap) w := fun _ _ _ _ => rfl
  unfold ptr at *
  clear h hs hb hb2 hn hoA hqa hqd hnD
  generalize s.n = n at *
  go_enter Tryd.func61, Tryd.ntmps61
  go_wp2_with fail
  refine (deviceOf_any d _).mono ?_
  rintro e w1 ⟨b3, rfl, h3, f1⟩
  have H3 := Lib.hid (show w1.cell? ⟨b3, 0, none⟩ = some (.int .i64 d) by rw [cell_of_heap h3]; rfl)
  have F1 := Lib.hid f1
  have e69 : ∀ args w, (callFunc 69 args).run Tryd.prog w = .ok (.enter 69 args) w := enters_of Tryd.func69 (by kernel_rfl) rfl
  clear h3 f1
  go_wp2_with fail
  refine (HD.out _ F1.out b3 H3.out).mono ?_
  rintro e w2 ⟨ha, f2⟩
  have F2 := Lib.hid (F1.out.trans f2 (by simp))
  clear f2
  cases qd with
  | false =>
    rcases ha with ⟨h, _⟩ | ⟨k, tx, hk, hk6, rfl⟩
    · cases h
    · have HK := Lib.hid (And.intro hk hk6)
      clear hk hk6
      unfold rfu
      go_wp2_with fail
      go_ret
      exact ⟨.inr ⟨k, tx, HK.out.1, HK.out.2, rfl⟩, F2.out⟩
  | true =>
    rcases ha with ⟨_, rfl⟩ | ⟨k, tx, hk, hk6, rfl⟩
    · have c1 := C1.out w2 F2.out
      have c2 := CN.out w2 F2.out
      have c3 := CG.out w2 F2.out
      have hin := HIN.out w2.drew
      cases qa with
      | false =>
        go_upto_region 4 with (fail)
        refine wp_region_still_lit (by kernel_rfl) (by kernel_rfl) ?_
        change wpStill _ _ (World.drew _) _ _ _
        repeat still_step
        still_call hin
        repeat still_step
        still_call (unless_false _ _ w2.drew)
        repeat still_step
        refine wpStill_nil ?_
        change Exit.then _ _ _ _ (World.drew _)
        go_wp2_with fail
        go_ret
        exact ⟨Ans.some sn _ (by omega), F2.out.drew⟩
      | true =>
        go_upto_region 4 with (fail)
        refine wp_region_still_lit (by kernel_rfl) (by kernel_rfl) ?_
        change wpStill _ _ (World.drew _) _ _ _
        repeat still_step
        still_call hin
        repeat still_step
        still_call (unless_true _ _ w2.drew)
        repeat still_step
        refine wpStill_nil ?_
        change Exit.then _ _ _ _ (World.drew _)
        go_wp2_with fail
        go_ret
        exact ⟨Ans.none sn, F2.out.drew⟩
    · cases hk
theorem hasF_at {d : Int} {x : Nat} (hd : okD s d = true) : ∃ i : Nat, ∃ hi : i < s.devs.length, d = i ∧ hasF s d x = ((s.devs[i].f &&& x) != 0) := by
  simp only [okD, decide_eq_true_eq] at hd
  refine ⟨d.toNat, by omega, by omega, ?_⟩
  unfold hasF
  rw [List.getElem?_eq_getElem (by omega)]
theorem there1_any (d : Int) (b1 : Nat) (hs : Sn w lo sn) (h : Arr lo w g s) (hd : okD s d = true) (hb : w.cell? ⟨b1, 0, none⟩ = some (.int .i64 d)) :
    Calls Tryd.prog 62 #[ptr g, ptr b1] w fun e w' => Ans sn (nT s d) e ∧ Frm [] w w' := by
  obtain ⟨i, hi, rfl, hg⟩ := hasF_at (x := 1) hd
  obtain ⟨dv, rv, drs, dsp, rcs, rsp, h⟩ := h
  obtain ⟨_, _, c2, _⟩ := h.cells
  obtain ⟨gd, cap, sv, rfl, d0, d1, d2, d3, _, dz⟩ := h.dev i hi
  have hf := (h.fb _ (List.getElem_mem hi)).1
  have cg := hs.v 4 (by omega)
  have hh := has_any gd (i * 4) s.devs[i].f 1 hf (by omega) w.drew d0
  have hi9 : (i : Int) < (s.devs.length : Int) := by omega
  have hi8 : (0 : Int) ≤ (i : Int) := by omega
  unfold nT gone
  rw [hg]
  obtain ⟨q, hq⟩ : ∃ q, ((s.devs[i].f &&& 1) != 0) = q := ⟨_, rfl⟩
  rw [hq] at hh ⊢
  unfold ptr
  clear h hs hd hg hq hf d0 d1 d2 d3 dz
  cases q
  · go_enter Tryd.func62, Tryd.ntmps62
    go_upto_region 1 with (fail)
    refine wp_region_still_lit (by kernel_rfl) (by kernel_rfl) ?_
    change wpStill _ _ (World.drew _) _ _ _
    repeat still_step
    still_call hh
    repeat still_step
    still_call (unless_true _ _ w.drew)
    repeat still_step
    refine wpStill_nil ?_
    change Exit.then _ _ _ _ (World.drew _)
    go_wp2_with fail
    go_ret
    exact ⟨Ans.none sn, (Frm.refl [] w).drew⟩
  · go_enter Tryd.func62, Tryd.ntmps62
    go_upto_region 1 with (fail)
    refine wp_region_still_lit (by kernel_rfl) (by kernel_rfl) ?_
    change wpStill _ _ (World.drew _) _ _ _
    repeat still_step
    still_call hh
    repeat still_step
    still_call (unless_false _ _ w.drew)
    repeat still_step
    refine wpStill_nil ?_
    change Exit.then _ _ _ _ (World.drew _)
    go_wp2_with fail
    go_ret
    exact ⟨Ans.some sn _ (by omega), (Frm.refl [] w).drew⟩
end
end Go.Proofs.YtdebnikolhhmgaaDoor
