/-
  The walk of UberBack. No conditions but those that each theorem names.
-/
import Derived.Test.YtiegdiegflfmhaaGreatDoorVC
namespace Go.Proofs.YtiegdiegflfmhaaGreatDoor
open Go.RowKit
set_option linter.unusedVariables false
set_option linter.unusedSimpArgs false
set_option maxRecDepth 100000

open Pt (Pt may enc readPt readE zeroPt pc pv PtV SlA OwnA)
theorem may_or (u : Ub) : (mayE u = 0 ∧ MayU u) ∨ (mayE u = 2 ∧ ¬ MayU u) := by
  by_cases h : MayU u
  · exact .inl ⟨mayE_yes h, h⟩
  · exact .inr ⟨mayE_no h, h⟩
set_option maxHeartbeats 16000000 in
theorem back_law (x : Value) (u : Ub) (v : Value) (b sp : List UInt8) {w : World} (hx : UbV w x u) (hS : SlB w v b sp) {s0 s1 s2 : Addr} (hs : Sens w s0 s1 s2) (hG : Hs.Glob w) : Calls Tryz.prog 6 #[x, v] w (Yes w) := by
  obtain ⟨a0, c0, rfl, _, _⟩ := hS.form
  obtain ⟨ax, cx, spx, rfl, hA, hw⟩ := id hx
  have HS := Lib.hid hS
  have HX := Lib.hid hx
  have B1 := UB.new w (.slice ax u.root.ads.length cx) hw
  have hlv : uv (.slice ax u.root.ads.length cx) u = .agg (uc (.slice ax u.root.ads.length cx) u).toArray := rfl
  have f : Frm [] w (w.alloc (.cells (uc (.slice ax u.root.ads.length cx) u).toArray 28)) := (Frm.refl [] w).alloc _
  have HG := Lib.hid hG
  have HSE := Lib.hid hs
  have HK := Lib.hid (fun W (f : Frm [] w W) => known_any W (hs.keep0 f) (HG.out.keep f (by simp)))
  have HP := Lib.hid (fun W (f : Frm [] w W) (hl : u.root.ads.length ≤ 1000000) => Pack_any _ u W (hx.keep0 f) hl (HG.out.keep f (by simp)))
  have HC := Lib.hid (fun W (f : Frm [] w W) (hl : u.root.ads.length ≤ 1000000) => Check_any _ u W (hx.keep0 f) hl)
  have HU := Lib.hid (fun v b sp W (f : Frm [] w W) (hS : SlB W v b sp) (hb : b.length ≤ 1000000) => Unpack_any v b sp W hS hb (hs.keep0 f) (HG.out.keep f (by simp)))
  have HW := Lib.hid hw
  unfold PackP at HP
  rw [hlv]
  clear hlv hG hw hS hA hx hs
  generalize hA : (uc (.slice ax u.root.ads.length cx) u).toArray = A at *
  go_enter Tryz.func6, Tryz.ntmps6
  go_upto_region 1 with (fail)
  generalize w.alloc (.cells A 28) = W0 at *
  have B0 := Lib.hid B1
  have F0 := Lib.hid f
  clear hA B1 f
  go_upto_region 2 with (go_at_call 5; refine (HK.out _ F0.out).mono ?_; rintro r W1 ⟨rfl, f1⟩)
  have F1 := Lib.hid (F0.out.trans f1 (by simp))
  have BL1 := Lib.hid (B0.out.keep0 f1)
  have G1 := Lib.hid BL1.out.gets.all
  have k1 := BL1.out.gets.c1
  clear f1 F0 B0
  by_cases hla : 20 < u.root.ads.length
  · have hla' : (20 : Int) < u.root.ads.length := by omega
    clear hla
    go_wp2_with fail
    go_ret
    exact ⟨rfl, F1.out⟩
  have hla' : ¬ (20 : Int) < u.root.ads.length := by omega
  have HLA := Lib.hid (show u.root.ads.length ≤ 1000000 by omega)
  clear hla
  by_cases hlb : 1000 < b.length
  · have hlb' : (1000 : Int) < b.length := by omega
    clear hlb
    go_wp2_with fail
    go_ret
    exact ⟨rfl, F1.out⟩
  have hlb' : ¬ (1000 : Int) < b.length := by omega
  have HBL := Lib.hid (show b.length ≤ 1000000 by omega)
  clear hlb
  go_upto_region 4 with fail
  clear k1 hla' hlb'
  go_upto_region 5 with (first | ((with_reducible (show wpList _ _ _ (Oper.mk _ (Op.load 28 _) _ _ _ _ :: _) _ _)); refine wpList_load_g (by rfl) 28 _ rfl _ rfl G1.out ?_) | (go_at_call 10; refine (HP.out _ F1.out HLA.out).mono ?_; rintro r W2 ⟨a2, c2, s2, rfl, o2, f2, n2⟩))
  have F2 := Lib.hid (F1.out.trans f2 (by simp))
  have BL2 := Lib.hid (BL1.out.keep0 f2)
  have G2 := Lib.hid BL2.out.gets.all
  have O2 := Lib.hid o2
  clear f2 n2 o2 F1 BL1 G1
  rcases may_or u with ⟨he, hm⟩ | ⟨he, hm⟩
  · rw [he] at HC
    rw [packO_yes hm, packU_length HW.out hm] at O2
    rw [he, packO_yes hm, packU_length HW.out hm]
    have HM := Lib.hid hm
    have HPL := Lib.hid (packU_length HW.out hm)
    have HSU := Lib.hid (fun y W (f : Frm [] w W) (hy : UbV W y u) => SameUber_any _ y u u W (HX.out.keep0 f) hy HLA.out)
    have HSA := Lib.hid (fun y W (f : Frm [] w W) (hy : UbV W y u) => USame_any _ y u u W (HX.out.keep0 f) hy HLA.out)
    rw [sameU_refl] at HSU HSA
    clear he hm
    go_upto_region 7 with (first | ((with_reducible (show wpList _ _ _ (Oper.mk _ (Op.load 28 _) _ _ _ _ :: _) _ _)); refine wpList_load_g (by rfl) 28 _ rfl _ rfl G2.out ?_) | (go_at_call 13; refine (HC.out _ F2.out HLA.out).mono ?_; rintro r W3 ⟨rfl, f3⟩))
    have F3 := Lib.hid (F2.out.trans f3 (by simp))
    have BL3 := Lib.hid (BL2.out.keep0 f3)
    have HUl := Lib.hid (HU.out _ (packU u) s2 _ F3.out (O2.out.keep f3 (by simp)).sl (by rw [HPL.out]; decide))
    unfold UnpP at HUl
    rw [unp_pack HW.out HM.out] at HUl
    have hpw := HW.out
    clear f3 F2 BL2 O2 G2
    go_upto_region 9 with (first
      | ((with_reducible (show wpList _ _ _ (Oper.mk _ (Op.alloc 28) _ _ _ _ :: _) _ _)); refine wpList_lay28 rfl rfl rfl _ _ rfl (v := .slice ya u.root.ads.length yc) rfl (u := u) hpw rfl rfl ?_)
      | (go_at_call 20; refine HUl.out.mono ?_; rintro r w4 ⟨ya, yc, ysp, rfl, hy4, f4, n4⟩))
    have f5 : Frm [] w4 (w4.alloc (.cells (uc (.slice ya u.root.ads.length yc) u).toArray 28)) := (Frm.refl [] w4).alloc _
    have G5 := Lib.hid (UB.new w4 (.slice ya u.root.ads.length yc) hpw)
    have G6 := Lib.hid (BL3.out.keep0 (f4.trans f5 (by simp)))
    have F5 := Lib.hid ((F3.out.trans f4 (by simp)).trans f5 (by simp))
    have HY := Lib.hid (show UbV (w4.alloc (.cells (uc (.slice ya u.root.ads.length yc) u).toArray 28)) (uv (.slice ya u.root.ads.length yc) u) u from ⟨ya, yc, ysp, rfl, hy4.keep f5 (by simp), hpw⟩)
    clear f4 f5 F3 BL3 HUl hy4 n4
    generalize w4.alloc (.cells (uc (.slice ya u.root.ads.length yc) u).toArray 28) = W5 at *
    generalize w4.heap.size = L5 at *
    go_upto_region 11 with (first
      | ((with_reducible (show wpList _ _ _ (Oper.mk (some 54) (Op.load 28 _) _ _ _ _ :: _) _ _)); refine wpList_load_g (by rfl) 28 _ rfl _ rfl G6.out.gets.all ?_)
      | ((with_reducible (show wpList _ _ _ (Oper.mk (some 55) (Op.load 28 _) _ _ _ _ :: _) _ _)); refine wpList_load_g (by rfl) 28 _ rfl _ rfl G5.out.gets.all ?_)
      | ((with_reducible (show wpList _ _ _ (Oper.mk (some 60) (Op.load 28 _) _ _ _ _ :: _) _ _)); refine wpList_load_g (by rfl) 28 _ rfl _ rfl (G6.out.keep0 f6).gets.all ?_)
      | ((with_reducible (show wpList _ _ _ (Oper.mk (some 61) (Op.load 28 _) _ _ _ _ :: _) _ _)); refine wpList_load_g (by rfl) 28 _ rfl _ rfl (G5.out.keep0 f6).gets.all ?_)
      | (go_at_call 18; refine (HSU.out _ _ F5.out HY.out).mono ?_; rintro r W6 ⟨rfl, f6⟩)
      | (go_at_call 15; refine (HSA.out _ _ (F5.out.trans f6 (by simp)) (HY.out.keep0 f6)).mono ?_; rintro r W7 ⟨rfl, f7⟩))
    have FF := Lib.hid ((F5.out.trans f6 (by simp)).trans f7 (by simp))
    clear f6 f7 F5 G5 G6 HY HSU HSA hpw
    have HB1 := Lib.hid (show ∀ W, Frm [] w W → SlB W (.slice a0 b.length c0) b sp from fun W f => HS.out.keep f (by simp))
    have HUb := Lib.hid (fun W (f : Frm [] w W) => HU.out _ b sp W f (HB1.out _ f) HBL.out)
    unfold UnpP at HUb
    rcases unp_cases b with ⟨e, he, hu⟩ | ⟨hu, hlb, hmb, hpb⟩
    · rw [hu] at HUb
      have hen : (e != 0) = true := by simpa using he
      have zl := zeroU_wf
      have HSZ := Lib.hid (fun x W (h : UbV W x zeroU) => SameUber_any x (uv nilS zeroU) zeroU zeroU W h ⟨none, 0, [], rfl, Pt.SlA.nil W, zeroU_wf⟩ (by decide))
      rw [sameU_refl] at HSZ
      clear hu he
      go_upto_region 12 with (first
        | ((with_reducible (show wpList _ _ _ (Oper.mk _ (Op.alloc 28) _ _ _ _ :: _) _ _)); refine wpList_lay28 rfl rfl rfl _ _ rfl (v := .slice xa zeroU.root.ads.length xc) rfl (u := zeroU) zl rfl rfl ?_)
        | (go_at_call 20; refine (HUb.out _ FF.out).mono ?_; rintro r w7 ⟨xa, xc, xsp, rfl, hx7, f7, n7⟩))
      have f8 : Frm [] w7 (w7.alloc (.cells (uc (.slice xa zeroU.root.ads.length xc) zeroU).toArray 28)) := (Frm.refl [] w7).alloc _
      have G8 := Lib.hid (UB.new w7 (.slice xa zeroU.root.ads.length xc) zl).gets.all
      have HX8 := Lib.hid (show UbV (w7.alloc (.cells (uc (.slice xa zeroU.root.ads.length xc) zeroU).toArray 28)) (uv (.slice xa zeroU.root.ads.length xc) zeroU) zeroU from ⟨xa, xc, xsp, rfl, hx7.keep f8 (by simp), zeroU_wf⟩)
      have F8 := Lib.hid ((FF.out.trans f7 (by simp)).trans f8 (by simp))
      clear f7 f8 hx7 n7 zl HUb
      generalize w7.alloc (.cells (uc (.slice xa zeroU.root.ads.length xc) zeroU).toArray 28) = W8 at *
      generalize w7.heap.size = L8 at *
      go_wp2_with (first
        | ((with_reducible (show wpList _ _ _ (Oper.mk _ (Op.load 28 _) _ _ _ _ :: _) _ _)); refine wpList_load_g (by rfl) 28 _ rfl _ rfl G8.out ?_)
        | ((with_reducible (show wpList _ _ _ (Oper.mk _ (Op.build 28 _) _ _ _ _ :: _) _ _)); refine wpList_val_g (by rfl) (exec_bld28z rfl _) ?_)
        | (go_at_call 18; refine (HSZ.out _ _ HX8.out).mono ?_; rintro r w9 ⟨rfl, f9⟩))
      go_ret
      exact ⟨rfl, F8.out.trans f9 (by simp)⟩
    · rw [hu] at HUb
      have zl : WfU (parse b) := parse_wf hlb
      have hal := parse_ads b
      have HPb := Lib.hid (fun x W (f : Frm [] w W) (hx : UbV W x (parse b)) => Pack_any x (parse b) W hx hal (HG.out.keep f (by simp)))
      unfold PackP at HPb
      rw [packO_yes hmb, mayE_yes hmb, hpb] at HPb
      clear hu hmb hpb hlb hal
      generalize parse b = q at *
      go_upto_region 12 with (first
        | ((with_reducible (show wpList _ _ _ (Oper.mk _ (Op.alloc 28) _ _ _ _ :: _) _ _)); refine wpList_lay28 rfl rfl rfl _ _ rfl (v := .slice xa q.root.ads.length xc) rfl (u := q) zl rfl rfl ?_)
        | (go_at_call 20; refine (HUb.out _ FF.out).mono ?_; rintro r w7 ⟨xa, xc, xsp, rfl, hx7, f7, n7⟩))
      have f8 : Frm [] w7 (w7.alloc (.cells (uc (.slice xa q.root.ads.length xc) q).toArray 28)) := (Frm.refl [] w7).alloc _
      have G8 := Lib.hid (UB.new w7 (.slice xa q.root.ads.length xc) zl).gets.all
      have HX8 := Lib.hid (show UbV (w7.alloc (.cells (uc (.slice xa q.root.ads.length xc) q).toArray 28)) (uv (.slice xa q.root.ads.length xc) q) q from ⟨xa, xc, xsp, rfl, hx7.keep f8 (by simp), zl⟩)
      have F8 := Lib.hid ((FF.out.trans f7 (by simp)).trans f8 (by simp))
      clear f7 f8 hx7 n7 zl HUb
      generalize w7.alloc (.cells (uc (.slice xa q.root.ads.length xc) q).toArray 28) = W8 at *
      generalize w7.heap.size = L8 at *
      go_upto_region 15 with (first
        | ((with_reducible (show wpList _ _ _ (Oper.mk _ (Op.load 28 _) _ _ _ _ :: _) _ _)); refine wpList_load_g (by rfl) 28 _ rfl _ rfl G8.out ?_)
        | (go_at_call 10; refine (HPb.out _ _ F8.out HX8.out).mono ?_; rintro r w9 ⟨a9, c9, s9, rfl, o9, f9, n9⟩))
      have HSm := Lib.hid (Same_any _ _ _ _ _ _ _ o9.sl (HB1.out _ (F8.out.trans f9 (by simp))))
      rw [show (b == b) = true from beq_self_eq_true b] at HSm
      have F9 := Lib.hid (F8.out.trans f9 (by simp))
      clear f9 o9 n9 F8
      go_wp2_with (go_at_call 12; refine HSm.out.mono ?_; rintro r w10 ⟨rfl, rfl⟩)
      go_ret
      exact ⟨rfl, F9.out⟩
  · rw [he] at HC
    rw [packO_no hm] at O2
    rw [he, packO_no hm]
    clear he hm
    go_upto_region 7 with (first | ((with_reducible (show wpList _ _ _ (Oper.mk _ (Op.load 28 _) _ _ _ _ :: _) _ _)); refine wpList_load_g (by rfl) 28 _ rfl _ rfl G2.out ?_) | (go_at_call 13; refine (HC.out _ F2.out HLA.out).mono ?_; rintro r W3 ⟨rfl, f3⟩))
    have FF := Lib.hid (F2.out.trans f3 (by simp))
    clear f3 F2 BL2 O2 G2
    go_upto_region 11 with (fail)
    have HB1 := Lib.hid (show ∀ W, Frm [] w W → SlB W (.slice a0 b.length c0) b sp from fun W f => HS.out.keep f (by simp))
    have HUb := Lib.hid (fun W (f : Frm [] w W) => HU.out _ b sp W f (HB1.out _ f) HBL.out)
    unfold UnpP at HUb
    rcases unp_cases b with ⟨e, he, hu⟩ | ⟨hu, hlb, hmb, hpb⟩
    · rw [hu] at HUb
      have hen : (e != 0) = true := by simpa using he
      have zl := zeroU_wf
      have HSZ := Lib.hid (fun x W (h : UbV W x zeroU) => SameUber_any x (uv nilS zeroU) zeroU zeroU W h ⟨none, 0, [], rfl, Pt.SlA.nil W, zeroU_wf⟩ (by decide))
      rw [sameU_refl] at HSZ
      clear hu he
      go_upto_region 12 with (first
        | ((with_reducible (show wpList _ _ _ (Oper.mk _ (Op.alloc 28) _ _ _ _ :: _) _ _)); refine wpList_lay28 rfl rfl rfl _ _ rfl (v := .slice xa zeroU.root.ads.length xc) rfl (u := zeroU) zl rfl rfl ?_)
        | (go_at_call 20; refine (HUb.out _ FF.out).mono ?_; rintro r w7 ⟨xa, xc, xsp, rfl, hx7, f7, n7⟩))
      have f8 : Frm [] w7 (w7.alloc (.cells (uc (.slice xa zeroU.root.ads.length xc) zeroU).toArray 28)) := (Frm.refl [] w7).alloc _
      have G8 := Lib.hid (UB.new w7 (.slice xa zeroU.root.ads.length xc) zl).gets.all
      have HX8 := Lib.hid (show UbV (w7.alloc (.cells (uc (.slice xa zeroU.root.ads.length xc) zeroU).toArray 28)) (uv (.slice xa zeroU.root.ads.length xc) zeroU) zeroU from ⟨xa, xc, xsp, rfl, hx7.keep f8 (by simp), zeroU_wf⟩)
      have F8 := Lib.hid ((FF.out.trans f7 (by simp)).trans f8 (by simp))
      clear f7 f8 hx7 n7 zl HUb
      generalize w7.alloc (.cells (uc (.slice xa zeroU.root.ads.length xc) zeroU).toArray 28) = W8 at *
      generalize w7.heap.size = L8 at *
      go_wp2_with (first
        | ((with_reducible (show wpList _ _ _ (Oper.mk _ (Op.load 28 _) _ _ _ _ :: _) _ _)); refine wpList_load_g (by rfl) 28 _ rfl _ rfl G8.out ?_)
        | ((with_reducible (show wpList _ _ _ (Oper.mk _ (Op.build 28 _) _ _ _ _ :: _) _ _)); refine wpList_val_g (by rfl) (exec_bld28z rfl _) ?_)
        | (go_at_call 18; refine (HSZ.out _ _ HX8.out).mono ?_; rintro r w9 ⟨rfl, f9⟩))
      go_ret
      exact ⟨rfl, F8.out.trans f9 (by simp)⟩
    · rw [hu] at HUb
      have zl : WfU (parse b) := parse_wf hlb
      have hal := parse_ads b
      have HPb := Lib.hid (fun x W (f : Frm [] w W) (hx : UbV W x (parse b)) => Pack_any x (parse b) W hx hal (HG.out.keep f (by simp)))
      unfold PackP at HPb
      rw [packO_yes hmb, mayE_yes hmb, hpb] at HPb
      clear hu hmb hpb hlb hal
      generalize parse b = q at *
      go_upto_region 12 with (first
        | ((with_reducible (show wpList _ _ _ (Oper.mk _ (Op.alloc 28) _ _ _ _ :: _) _ _)); refine wpList_lay28 rfl rfl rfl _ _ rfl (v := .slice xa q.root.ads.length xc) rfl (u := q) zl rfl rfl ?_)
        | (go_at_call 20; refine (HUb.out _ FF.out).mono ?_; rintro r w7 ⟨xa, xc, xsp, rfl, hx7, f7, n7⟩))
      have f8 : Frm [] w7 (w7.alloc (.cells (uc (.slice xa q.root.ads.length xc) q).toArray 28)) := (Frm.refl [] w7).alloc _
      have G8 := Lib.hid (UB.new w7 (.slice xa q.root.ads.length xc) zl).gets.all
      have HX8 := Lib.hid (show UbV (w7.alloc (.cells (uc (.slice xa q.root.ads.length xc) q).toArray 28)) (uv (.slice xa q.root.ads.length xc) q) q from ⟨xa, xc, xsp, rfl, hx7.keep f8 (by simp), zl⟩)
      have F8 := Lib.hid ((FF.out.trans f7 (by simp)).trans f8 (by simp))
      clear f7 f8 hx7 n7 zl HUb
      generalize w7.alloc (.cells (uc (.slice xa q.root.ads.length xc) q).toArray 28) = W8 at *
      generalize w7.heap.size = L8 at *
      go_upto_region 15 with (first
        | ((with_reducible (show wpList _ _ _ (Oper.mk _ (Op.load 28 _) _ _ _ _ :: _) _ _)); refine wpList_load_g (by rfl) 28 _ rfl _ rfl G8.out ?_)
        | (go_at_call 10; refine (HPb.out _ _ F8.out HX8.out).mono ?_; rintro r w9 ⟨a9, c9, s9, rfl, o9, f9, n9⟩))
      have HSm := Lib.hid (Same_any _ _ _ _ _ _ _ o9.sl (HB1.out _ (F8.out.trans f9 (by simp))))
      rw [show (b == b) = true from beq_self_eq_true b] at HSm
      have F9 := Lib.hid (F8.out.trans f9 (by simp))
      clear f9 o9 n9 F8
      go_wp2_with (go_at_call 12; refine HSm.out.mono ?_; rintro r w10 ⟨rfl, rfl⟩)
      go_ret
      exact ⟨rfl, F9.out⟩
end Go.Proofs.YtiegdiegflfmhaaGreatDoor
