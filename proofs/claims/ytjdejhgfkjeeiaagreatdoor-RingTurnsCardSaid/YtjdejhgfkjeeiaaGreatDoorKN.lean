/-
  The walk of RingKnown. No conditions but those that each theorem names.
-/
import Derived.Test.YtjdejhgfkjeeiaaGreatDoorGF
namespace Go.Proofs.YtjdejhgfkjeeiaaGreatDoor
open Go.RowKit
set_option linter.unusedVariables false
set_option linter.unusedSimpArgs false
set_option maxRecDepth 100000

open Pt (Pt may enc readPt readE zeroPt pc pv PtV SlA OwnA)
open Kr (OwnE SlE Enco RowTys)
def o32 : List UInt8 := 1 :: List.replicate 31 0
theorem bld24o (W : World) : (Instr.build 24 #[(0, .int .u8 1)]).run Tryz.prog W = .ok (idv o32) W := by kernel_rfl
theorem exec_bld24o {o : Oper} {a : Act} (hop : o.op = Op.build 24 #[(0, .const (.int .u8 1))]) (W : World) : (execOp a.eval o).run Tryz.prog W = .ok (.value (idv o32)) W := by
  have hb := bld24o W
  have hm : (#[((0 : Nat), Operand.const (.int .u8 1))].map fun ((i, x) : Nat × Operand) => (i, a.eval x)) = #[(0, .int .u8 1)] := by simp [Act.eval]
  simp only [execOp, hop, hm, Sem.run_bind, Sem.run_pure, hb, Result.andThen_ok]
theorem fndAt_row {pool : List UInt8} {l : List (List UInt8)} {i : Nat} {b : List UInt8} (h : rowAt l i = b) : fndAt pool l i = if stands pool i b = true then some (unp b).1 else none := by unfold fndAt; rw [h]
theorem foundA : foundU z32 [packU (ofU 5), Zb, Zb, Zb] = [] := by
  have h0 : stands z32 0 (packU (ofU 5)) = false := by rw [stand_of (by decide) (by decide)]; decide
  unfold foundU
  rw [if_pos (by rfl)]
  unfold fnd
  rw [show List.range 4 = [0, 1, 2, 3] from rfl]
  simp only [List.filterMap_cons, List.filterMap_nil]
  rw [fndAt_row (i := 0) (b := packU (ofU 5)) rfl, fndAt_row (i := 1) (b := Zb) rfl, fndAt_row (i := 2) (b := Zb) rfl, fndAt_row (i := 3) (b := Zb) rfl, h0, stand_none, stand_none, stand_none]
  rfl
theorem foundB : foundU o32 [Zb, packU (ofU 5), packU (ofU 6), Zb] = [] := by
  have h1 : stands o32 1 (packU (ofU 5)) = false := by rw [stand_of (by decide) (by decide)]; decide
  have h2 : stands o32 2 (packU (ofU 6)) = false := by rw [stand_of (by decide) (by decide)]; decide
  unfold foundU
  rw [if_pos (by rfl)]
  unfold fnd
  rw [show List.range 4 = [0, 1, 2, 3] from rfl]
  simp only [List.filterMap_cons, List.filterMap_nil]
  rw [fndAt_row (i := 0) (b := Zb) rfl, fndAt_row (i := 1) (b := packU (ofU 5)) rfl, fndAt_row (i := 2) (b := packU (ofU 6)) rfl, fndAt_row (i := 3) (b := Zb) rfl, h1, h2, stand_none, stand_none]
  rfl
theorem usedB_zb : usedB Zb = false := by kernel_rfl
theorem usedB_pack (u : Ub) : usedB (packU u) = true := by
  have h := packU_mark u
  have e : packU u = mark ++ (packU u).drop 8 := by rw [← h, List.take_append_drop]
  unfold usedB
  rw [e, List.any_append]
  rfl
theorem usedC (u v : Ub) : usedN [Zb, packU u, packU v, Zb] = 2 := by
  have h : usd [Zb, packU u, packU v, Zb] 4 = 2 := by
    have e3 : usd [Zb, packU u, packU v, Zb] (3 + 1) = usd [Zb, packU u, packU v, Zb] 3 := usd_no usedB_zb
    have e2 : usd [Zb, packU u, packU v, Zb] (2 + 1) = usd [Zb, packU u, packU v, Zb] 2 + 1 := usd_yes (usedB_pack v)
    have e1 : usd [Zb, packU u, packU v, Zb] (1 + 1) = usd [Zb, packU u, packU v, Zb] 1 + 1 := usd_yes (usedB_pack u)
    have e0 : usd [Zb, packU u, packU v, Zb] (0 + 1) = usd [Zb, packU u, packU v, Zb] 0 := usd_no usedB_zb
    rw [e3, e2, e1, e0]
    rfl
  unfold usedN
  rw [if_pos (by rfl), h]
  rfl
theorem usedD : usedN [[], [], [], []] = 0 := by kernel_rfl
theorem Ls.one {W : World} {g : Nat} {v1 : Value} {b1 s1 : List UInt8} (h : W.heap[g]? = some (.cells #[v1] 32 (0, 0))) (o1 : v1.oneCell' = true) (h1 : SlB W v1 b1 s1) : Ls W (.slice (some ⟨g, 0, none⟩) 1 1) [b1] := by
  refine ⟨[⟨v1, o1⟩], [], Kr.SlE.of_block encC (T := 32) h rfl (by decide), rfl, fun i c b hc hb => ?_⟩
  match i with
  | 0 => simp at hc hb; subst hc; subst hb; exact ⟨_, h1⟩
  | i + 1 => simp at hc
set_option maxHeartbeats 16000000 in
theorem knownR_any {s0 s1 s2 : Addr} (w : World) (hs : Sens w s0 s1 s2) (hG : Hs.Glob w) : Calls Tryz.prog 10 #[] w (YesR w) := by
  have HO5 := Lib.hid (fun W (f : Frm [] w W) => of_any 5 W (by decide) (by decide) (hG.keep f (by simp)))
  have HO6 := Lib.hid (fun W (f : Frm [] w W) => of_any 6 W (by decide) (by decide) (hG.keep f (by simp)))
  unfold OfP at HO5 HO6
  have l5 := packU_length (ofU_wf 5) (ofU_may (by decide) (by decide))
  have l6 := packU_length (ofU_wf 6) (ofU_may (by decide) (by decide))
  have lz : Zb.length = 256 := rfl
  have HFA := Lib.hid (fun v W (f : Frm [] w W) (h : Ls W v [packU (ofU 5), Zb, Zb, Zb]) => Found_any v _ z32 W h (fun b hb => by simp at hb; rcases hb with rfl | rfl | rfl | rfl <;> omega) rfl (hs.keep0 f) (hG.keep f (by simp)))
  have HFB := Lib.hid (fun v W (f : Frm [] w W) (h : Ls W v [Zb, packU (ofU 5), packU (ofU 6), Zb]) => Found_any v _ o32 W h (fun b hb => by simp at hb; rcases hb with rfl | rfl | rfl | rfl <;> omega) rfl (hs.keep0 f) (hG.keep f (by simp)))
  have HFC := Lib.hid (fun v W (f : Frm [] w W) (h : Ls W v [packU (ofU 5)]) => Found_any v _ z32 W h (fun b hb => by simp at hb; subst hb; omega) rfl (hs.keep0 f) (hG.keep f (by simp)))
  have HUA := Lib.hid (fun v W (h : Ls W v [Zb, packU (ofU 5), packU (ofU 6), Zb]) => Used_any v _ W h (fun b hb => by simp at hb; rcases hb with rfl | rfl | rfl | rfl <;> omega))
  have HUB := Lib.hid (fun v W (h : Ls W v [[], [], [], []]) => Used_any v _ W h (fun b hb => by simp at hb; subst hb; exact Nat.zero_le _))
  have HUC := Lib.hid (fun v W (h : Ls W v [packU (ofU 5)]) => Used_any v _ W h (fun b hb => by simp at hb; subst hb; omega))
  unfold FoundP at HFA HFB HFC
  unfold UsedP at HUA HUB HUC
  rw [foundA, show foundE [packU (ofU 5), Zb, Zb, Zb] = 0 from rfl] at HFA
  rw [foundB, show foundE [Zb, packU (ofU 5), packU (ofU 6), Zb] = 0 from rfl] at HFB
  rw [show foundE [packU (ofU 5)] = 2 from rfl] at HFC HUC
  rw [usedC, show foundE [Zb, packU (ofU 5), packU (ofU 6), Zb] = 0 from rfl] at HUA
  rw [usedD, show foundE [[], [], [], []] = 0 from rfl] at HUB
  rw [show usedN [packU (ofU 5)] = 0 from rfl] at HUC
  have HAW := Lib.hid (fun W (f : Frm [] w W) => awakeR_any W (hs.keep0 f) (hG.keep f (by simp)))
  unfold YesR at HAW
  have hw5 := ofU_wf 5
  have hw6 := ofU_wf 6
  have HA1 := Lib.hid (fun W => Slot_any 1 W)
  have HA2 := Lib.hid (fun W => Slot_any 4 W)
  have HA3 := Lib.hid (fun W => Slot_any 2147483648 W)
  have HA4 := Lib.hid (fun W => Slot_any 0 W)
  rw [show slotN 1 = 2 by decide, show slotB 1 = true by decide] at HA1
  rw [show slotN 4 = 1 by decide, show slotB 4 = true by decide] at HA2
  rw [show slotN 2147483648 = 1 by decide, show slotB 2147483648 = true by decide] at HA3
  rw [show slotN 0 = 0 by decide, show slotB 0 = false by decide] at HA4
  clear hs hG l5 l6 lz
  obtain ⟨P5, hP5⟩ : ∃ P, packU (ofU 5) = P := ⟨_, rfl⟩
  obtain ⟨P6, hP6⟩ : ∃ P, packU (ofU 6) = P := ⟨_, rfl⟩
  rw [hP5] at HO5 HFA HFB HFC HUA HUC
  rw [hP6] at HO6 HFB HUA
  clear hP5 hP6
  generalize ofU 5 = u5 at *
  generalize ofU 6 = u6 at *
  go_enter Tryz.func10, Tryz.ntmps10
  go_upto_region 2 with (first
    | ((with_reducible (show wpList _ _ _ (Oper.mk _ (Op.alloc 28) _ _ _ _ :: _) _ _)); refine wpList_lay28 rfl rfl rfl _ _ rfl (v := nilS) rfl (u := u5) hw5 rfl rfl ?_)
    | (go_at_call 47; refine (HO5.out _ (Frm.refl [] w)).mono ?_; rintro r w1 ⟨pa, pc, ps, rfl, po, f1, _⟩))
  have f2 : Frm [] w1 (w1.alloc (.cells (uc nilS u5).toArray 28)) := (Frm.refl [] w1).alloc _
  have S1 := Lib.hid ((po.keep f2 (by simp)).sl)
  have F2 := Lib.hid (f1.trans f2 (by simp))
  clear f1 f2 po
  generalize w1.alloc (.cells (uc nilS u5).toArray 28) = W2 at *
  generalize w1.heap.size = L1 at *
  go_upto_region 3 with (first
    | ((with_reducible (show wpList _ _ _ (Oper.mk _ (Op.alloc 28) _ _ _ _ :: _) _ _)); refine wpList_lay28 rfl rfl rfl _ _ rfl (v := nilS) rfl (u := u6) hw6 rfl rfl ?_)
    | (go_at_call 47; refine (HO6.out _ F2.out).mono ?_; rintro r w3 ⟨qa, qc, qs, rfl, qo, f3, _⟩))
  have f4 : Frm [] w3 (w3.alloc (.cells (uc nilS u6).toArray 28)) := (Frm.refl [] w3).alloc _
  have S6 := Lib.hid (fun W (f : Frm [] (w3.alloc (.cells (uc nilS u6).toArray 28)) W) => ((qo.keep f4 (by simp)).sl).keep f (by simp))
  have S5 := Lib.hid (fun W (f : Frm [] (w3.alloc (.cells (uc nilS u6).toArray 28)) W) => S1.out.keep ((f3.trans f4 (by simp)).trans f (by simp)) (by simp))
  have F4 := Lib.hid ((F2.out.trans f3 (by simp)).trans f4 (by simp))
  clear f3 f4 qo S1 F2
  generalize w3.alloc (.cells (uc nilS u6).toArray 28) = W4 at *
  generalize w3.heap.size = L3 at *
  have HFR := Lib.hid (fun W (f : Frm [] W4 W) => four_any _ _ _ _ _ _ W (S5.out W f) (S6.out W f))
  unfold FourP at HFR
  go_upto_region 4 with (go_at_call 42; refine (HA1.out _).mono ?_; rintro r w7 ⟨rfl, hw7⟩; obtain rfl := hw7.symm)
  go_upto_region 5 with (go_at_call 42; refine (HA2.out _).mono ?_; rintro r w7 ⟨rfl, hw7⟩; obtain rfl := hw7.symm)
  go_upto_region 6 with (go_at_call 42; refine (HA3.out _).mono ?_; rintro r w7 ⟨rfl, hw7⟩; obtain rfl := hw7.symm)
  go_upto_region 7 with (go_at_call 42; refine (HA4.out _).mono ?_; rintro r w7 ⟨rfl, hw7⟩; obtain rfl := hw7.symm)
  go_upto_region 8 with (fail)
  go_upto_region 9 with ((with_reducible (show wpList _ _ _ (Oper.mk _ (Op.makeSlice 32 _ _) _ _ _ _ :: _) _ _)); refine wpList_val rfl (exec_mk256 rfl _) ?_)
  have f5 : Frm [] W4 (W4.alloc (.cells Zc 5)) := (Frm.refl [] W4).alloc _
  have hZ := heap_alloc_new W4 (.cells Zc 5)
  have SZ := Lib.hid (fun W (f : Frm [] (W4.alloc (.cells Zc 5)) W) => zb_sl W W4.heap.size (f.heap hZ (by simp)))
  have F5 := Lib.hid f5
  clear f5 hZ
  generalize W4.alloc (.cells Zc 5) = W5 at *
  generalize W4.heap.size = L4 at *
  -- region 9
  have hLA : Ls (W5.alloc (.cells #[.slice pa 256 pc, .slice (some ⟨L4, 0, none⟩) 256 256, .slice (some ⟨L4, 0, none⟩) 256 256, .slice (some ⟨L4, 0, none⟩) 256 256] 32)) (.slice (some ⟨W5.heap.size, 0, none⟩) 4 4) [P5, Zb, Zb, Zb] := by
    have f : Frm [] W5 (W5.alloc (.cells #[.slice pa 256 pc, .slice (some ⟨L4, 0, none⟩) 256 256, .slice (some ⟨L4, 0, none⟩) 256 256, .slice (some ⟨L4, 0, none⟩) 256 256] 32)) := (Frm.refl [] W5).alloc _
    exact Ls.four (heap_alloc_new _ _) rfl rfl rfl rfl (S5.out _ (F5.out.trans f (by simp))) (SZ.out _ f) (SZ.out _ f) (SZ.out _ f)
  have HLA := Lib.hid hLA
  have FA := Lib.hid (F5.out.alloc (.cells #[.slice pa 256 pc, .slice (some ⟨L4, 0, none⟩) 256 256, .slice (some ⟨L4, 0, none⟩) 256 256, .slice (some ⟨L4, 0, none⟩) 256 256] 32))
  clear hLA
  go_upto_region 10 with (first
    | ((with_reducible (show wpList _ _ _ (Oper.mk _ (Op.build 24 _) _ _ _ _ :: _) _ _)); refine wpList_val rfl (exec_bld24z rfl _) ?_)
    | (go_at_call 36; refine (HFA.out _ _ (F4.out.trans FA.out (by simp)) HLA.out).mono ?_; rintro r w6 ⟨v6, rs6, B6, rfl, t6, f6⟩; have F6 := Lib.hid (FA.out.trans f6 (by simp)); obtain ⟨ax6, cx6, rfl⟩ := t6.form; clear f6 t6))
  clear FA HLA F5 SZ HFA
  go_upto_region 11 with (first
    | (go_at_call 48; refine (HFR.out _ F6.out).mono ?_; rintro r w7 ⟨v7, rfl, l7, f7⟩; have F7 := Lib.hid (F6.out.trans f7 (by simp)); have L7 := Lib.hid l7; clear f7 l7)
    | ((with_reducible (show wpList _ _ _ (Oper.mk _ (Op.build 24 _) _ _ _ _ :: _) _ _)); refine wpList_val rfl (exec_bld24o rfl _) ?_)
    | (go_at_call 36; refine (HFB.out _ _ (F4.out.trans F7.out (by simp)) L7.out).mono ?_; rintro r w8 ⟨v8, rs8, B8, rfl, t8, f8⟩; have F8 := Lib.hid (F7.out.trans f8 (by simp)); obtain ⟨ax8, cx8, rfl⟩ := t8.form; clear f8 t8))
  clear F6 F7 L7 HFB
  go_upto_region 12 with (first
    | (go_at_call 48; refine (HFR.out _ F8.out).mono ?_; rintro r w9 ⟨v9, rfl, l9, f9⟩; have F9 := Lib.hid (F8.out.trans f9 (by simp)); have L9 := Lib.hid l9; clear f9 l9)
    | (go_at_call 40; refine (HUA.out _ _ L9.out).mono ?_; rintro r w10 ⟨rfl, f10⟩; have F10 := Lib.hid (F9.out.trans f10 (by simp)); clear f10))
  clear F8 F9 L9 HUA HFR
  have hLN : Ls (w10.alloc (.cells #[.slice none 0 0, .slice none 0 0, .slice none 0 0, .slice none 0 0] 32)) (.slice (some ⟨w10.heap.size, 0, none⟩) 4 4) [[], [], [], []] := Ls.four (heap_alloc_new _ _) rfl rfl rfl rfl (SlB.nil _) (SlB.nil _) (SlB.nil _) (SlB.nil _)
  have HLN := Lib.hid hLN
  have FN := Lib.hid (F10.out.alloc (.cells #[.slice none 0 0, .slice none 0 0, .slice none 0 0, .slice none 0 0] 32))
  clear hLN F10
  go_upto_region 13 with (go_at_call 40; refine (HUB.out _ _ HLN.out).mono ?_; rintro r w11 ⟨rfl, f11⟩; have F11 := Lib.hid (FN.out.trans f11 (by simp)); clear f11)
  clear FN HLN HUB
  have hLO : Ls (w11.alloc (.cells #[.slice pa 256 pc] 32)) (.slice (some ⟨w11.heap.size, 0, none⟩) 1 1) [P5] := Ls.one (heap_alloc_new _ _) rfl (S5.out _ (F11.out.alloc _))
  have HLO := Lib.hid hLO
  have FO := Lib.hid (F11.out.alloc (.cells #[.slice pa 256 pc] 32))
  clear hLO F11
  go_upto_region 14 with (go_at_call 40; refine (HUC.out _ _ HLO.out).mono ?_; rintro r w12 ⟨rfl, f12⟩; have F12 := Lib.hid (FO.out.trans f12 (by simp)); clear f12)
  clear FO HLO HUC
  have hLQ : Ls (w12.alloc (.cells #[.slice pa 256 pc] 32)) (.slice (some ⟨w12.heap.size, 0, none⟩) 1 1) [P5] := Ls.one (heap_alloc_new _ _) rfl (S5.out _ (F12.out.alloc _))
  have HLQ := Lib.hid hLQ
  have FQ := Lib.hid (F12.out.alloc (.cells #[.slice pa 256 pc] 32))
  clear hLQ F12
  go_upto_region 15 with (first
    | ((with_reducible (show wpList _ _ _ (Oper.mk _ (Op.build 24 _) _ _ _ _ :: _) _ _)); refine wpList_val rfl (exec_bld24z rfl _) ?_)
    | (go_at_call 36; refine (HFC.out _ _ (F4.out.trans FQ.out (by simp)) HLQ.out).mono ?_; rintro r w13 ⟨v13, rs13, B13, rfl, t13, f13⟩; have F13 := Lib.hid (FQ.out.trans f13 (by simp)); clear f13 t13))
  clear FQ HLQ HFC S5 S6
  go_wp2_with (go_at_call 34; refine (HAW.out _ (F4.out.trans F13.out (by simp))).mono ?_; rintro r w14 ⟨rfl, f14⟩; have F14 := Lib.hid ((F4.out.trans F13.out (by simp)).trans f14 (by simp)); clear f14)
  go_ret
  exact ⟨rfl, F14.out⟩
end Go.Proofs.YtjdejhgfkjeeiaaGreatDoor
