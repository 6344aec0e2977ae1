/-
  The walk of ExtentMakes. No conditions but those that each theorem names.
-/
import Derived.Test.YtgbgpmdhlocjhaaX3
namespace Go.Proofs.Ytgbgpmdhlocjhaa
open Go.RowKit
set_option linter.unusedVariables false
set_option linter.unusedSimpArgs false
set_option maxRecDepth 100000

set_option maxHeartbeats 16000000 in
theorem makes_any (v : Value) (l : List Ex) (sp : List Value) (x : Value) (m : List Ex) (msp : List Value) (w : World) (hS : SlX w v l sp) (hw : ∀ x ∈ l, -9223372036854775808 ≤ x.1 ∧ x.1 ≤ 9223372036854775807) (hI : SlX w x m msp) (hwm : ∀ x ∈ m, -9223372036854775808 ≤ x.1 ∧ x.1 ≤ 9223372036854775807) : Calls Try.prog 4 #[v, x] w (Yes w) := by
  obtain ⟨a, cap, rfl, _, _⟩ := hS.form
  obtain ⟨a2, cap2, rfl, _, _⟩ := hI.form
  by_cases hb1 : 300 < l.length
  · have hb9 : (300 : Int) < (l.length : Int) := by omega
    clear hS hw hI hwm
    go_enter Try.func4, Try.ntmps4
    go_wp2_with (go_at_call 10; refine Calls.mono (awake_any _) ?_; rintro e1 W1 ⟨rfl, f1⟩)
    go_ret
    exact ⟨rfl, f1⟩
  by_cases hb2 : 300 < m.length
  · have hb8 : ¬ (300 : Int) < (l.length : Int) := by omega
    have hb9 : (300 : Int) < (m.length : Int) := by omega
    clear hS hw hI hwm
    go_enter Try.func4, Try.ntmps4
    go_wp2_with (go_at_call 10; refine Calls.mono (awake_any _) ?_; rintro e1 W1 ⟨rfl, f1⟩)
    go_ret
    exact ⟨rfl, f1⟩
  · have hb8 : ¬ (300 : Int) < (l.length : Int) := by omega
    have hb9 : ¬ (300 : Int) < (m.length : Int) := by omega
    have HS := Lib.hid hS
    have HM := Lib.hid hI
    have HW := Lib.hid hw
    have HV := Lib.hid hwm
    have HL := Lib.hid (show l.length ≤ 1000000000 ∧ l.length ≤ 1000000 ∧ m.length ≤ 1000000000 ∧ m.length ≤ 1000000 by omega)
    have HQ := Lib.hid (fun f r c (h : MkP f l m r c) => mkp_len h)
    clear hS hw hI hwm hb1 hb2
    go_enter Try.func4, Try.ntmps4
    go_wp2_with fail
    refine Calls.mono (CopyX_any _ l _ _ (HS.out.keep0 (Frm.refl [] w)) HL.out.2.1) ?_
    rintro e1 W1 ⟨vin, sin, rfl, oin, f1, nin⟩
    have N_IN := Lib.hid (fun i (hi : i ∈ blk vin) => Nat.le_trans (Frm.refl [] w).size (nin i hi))
    have FR1 := Lib.hid ((Frm.refl [] w).trans f1 (by simp))
    have IN_1 := Lib.hid oin
    clear f1 oin nin
    go_wp2_with fail
    refine Calls.mono (CopyX_any _ m _ _ (HM.out.keep0 FR1.out) HL.out.2.2.2) ?_
    rintro e2 W2 ⟨vby, sby, rfl, oby, f2, nby⟩
    have N_BY := Lib.hid (fun i (hi : i ∈ blk vby) => Nat.le_trans FR1.out.size (nby i hi))
    have FR2 := Lib.hid (FR1.out.trans f2 (by simp))
    have IN_2 := Lib.hid (IN_1.out.keep0 f2)
    have BY_2 := Lib.hid oby
    clear f2 IN_1 oby nby FR1
    go_wp2_with fail
    refine Calls.mono (Add_any _ _ l m _ _ _ IN_2.out.sl HL.out.1 HW.out BY_2.out.sl HL.out.2.2.1 HV.out) ?_
    rintro e3 W3 ⟨r1, d1, k1, vx0, px0, rfl, ox, f3, nx⟩
    have AP_IN_X0 := Lib.hid (fun i (hi : i ∈ blk vin) (hm : i ∈ blk vx0) => (by have h1 := IN_2.out.lt i hi; have h2 := nx i hm; omega : False))
    have AP_BY_X0 := Lib.hid (fun i (hi : i ∈ blk vby) (hm : i ∈ blk vx0) => (by have h1 := BY_2.out.lt i hi; have h2 := nx i hm; omega : False))
    have N_X0 := Lib.hid (fun i (hi : i ∈ blk vx0) => Nat.le_trans FR2.out.size (nx i hi))
    have FR3 := Lib.hid (FR2.out.trans f3 (by simp))
    have IN_3 := Lib.hid (IN_2.out.keep0 f3)
    have BY_3 := Lib.hid (BY_2.out.keep0 f3)
    have X0_3 := Lib.hid ox
    clear f3 IN_2 BY_2 ox nx FR2
    go_wp2_with fail
    refine Calls.mono (RefAdd_any _ _ l m _ _ _ (HS.out.keep0 FR3.out) HL.out.1 HW.out (HM.out.keep0 FR3.out) HL.out.2.2.1 HV.out) ?_
    rintro e4 W4 ⟨r2, d2, k2, vy, py, rfl, oy, f4, ny⟩
    obtain ⟨rfl, rfl⟩ := k1.eq k2
    have HLX0 := Lib.hid (HQ.out _ _ _ k1)
    clear k1 k2
    have N_Y := Lib.hid (fun i (hi : i ∈ blk vy) => Nat.le_trans FR3.out.size (ny i hi))
    have FR4 := Lib.hid (FR3.out.trans f4 (by simp))
    have IN_4 := Lib.hid (IN_3.out.keep0 f4)
    have BY_4 := Lib.hid (BY_3.out.keep0 f4)
    have X0_4 := Lib.hid (X0_3.out.keep0 f4)
    have Y_4 := Lib.hid oy
    clear f4 IN_3 BY_3 X0_3 oy ny FR3
    go_wp2_with fail
    refine Calls.mono (SameX_true _ _ _ _ _ _ X0_4.out.sl Y_4.out.sl HLX0.out) ?_
    rintro e5 W5 ⟨rfl, f5⟩
    have FR5 := Lib.hid (FR4.out.trans f5 (by simp))
    have IN_5 := Lib.hid (IN_4.out.keep0 f5)
    have BY_5 := Lib.hid (BY_4.out.keep0 f5)
    have X0_5 := Lib.hid (X0_4.out.keep0 f5)
    have Y_5 := Lib.hid (Y_4.out.keep0 f5)
    clear f5 IN_4 BY_4 X0_4 Y_4 FR4
    clear Y_5
    go_wp2_with fail
    refine Calls.mono (OverX_any _ _ _ _ X0_5.out HLX0.out) ?_
    rintro e6 W6 ⟨rfl, f6⟩
    have FR6 := Lib.hid (FR5.out.trans f6 (fun i hi => .inr (N_X0.out i hi)))
    have IN_6 := Lib.hid (IN_5.out.keep f6 (fun i hi hm => AP_IN_X0.out i hi hm))
    have BY_6 := Lib.hid (BY_5.out.keep f6 (fun i hi hm => AP_BY_X0.out i hi hm))
    clear f6 IN_5 BY_5 X0_5 FR5
    go_wp2_with fail
    refine Calls.mono (Cut_any _ _ l m _ _ _ IN_6.out.sl HL.out.1 HW.out BY_6.out.sl HL.out.2.2.1 HV.out) ?_
    rintro e7 W7 ⟨r1, d1, k1, vx1, px1, rfl, ox, f7, nx⟩
    have AP_IN_X1 := Lib.hid (fun i (hi : i ∈ blk vin) (hm : i ∈ blk vx1) => (by have h1 := IN_6.out.lt i hi; have h2 := nx i hm; omega : False))
    have AP_BY_X1 := Lib.hid (fun i (hi : i ∈ blk vby) (hm : i ∈ blk vx1) => (by have h1 := BY_6.out.lt i hi; have h2 := nx i hm; omega : False))
    have N_X1 := Lib.hid (fun i (hi : i ∈ blk vx1) => Nat.le_trans FR6.out.size (nx i hi))
    have FR7 := Lib.hid (FR6.out.trans f7 (by simp))
    have IN_7 := Lib.hid (IN_6.out.keep0 f7)
    have BY_7 := Lib.hid (BY_6.out.keep0 f7)
    have X1_7 := Lib.hid ox
    clear f7 IN_6 BY_6 ox nx FR6
    go_wp2_with fail
    refine Calls.mono (RefCut_any _ _ l m _ _ _ (HS.out.keep0 FR7.out) HL.out.1 HW.out (HM.out.keep0 FR7.out) HL.out.2.2.1 HV.out) ?_
    rintro e8 W8 ⟨r2, d2, k2, vy, py, rfl, oy, f8, ny⟩
    obtain ⟨rfl, rfl⟩ := k1.eq k2
    have HLX1 := Lib.hid (HQ.out _ _ _ k1)
    clear k1 k2
    have N_Y := Lib.hid (fun i (hi : i ∈ blk vy) => Nat.le_trans FR7.out.size (ny i hi))
    have FR8 := Lib.hid (FR7.out.trans f8 (by simp))
    have IN_8 := Lib.hid (IN_7.out.keep0 f8)
    have BY_8 := Lib.hid (BY_7.out.keep0 f8)
    have X1_8 := Lib.hid (X1_7.out.keep0 f8)
    have Y_8 := Lib.hid oy
    clear f8 IN_7 BY_7 X1_7 oy ny FR7
    go_wp2_with fail
    refine Calls.mono (SameX_true _ _ _ _ _ _ X1_8.out.sl Y_8.out.sl HLX1.out) ?_
    rintro e9 W9 ⟨rfl, f9⟩
    have FR9 := Lib.hid (FR8.out.trans f9 (by simp))
    have IN_9 := Lib.hid (IN_8.out.keep0 f9)
    have BY_9 := Lib.hid (BY_8.out.keep0 f9)
    have X1_9 := Lib.hid (X1_8.out.keep0 f9)
    have Y_9 := Lib.hid (Y_8.out.keep0 f9)
    clear f9 IN_8 BY_8 X1_8 Y_8 FR8
    clear Y_9
    go_wp2_with fail
    refine Calls.mono (OverX_any _ _ _ _ X1_9.out HLX1.out) ?_
    rintro e10 W10 ⟨rfl, f10⟩
    have FR10 := Lib.hid (FR9.out.trans f10 (fun i hi => .inr (N_X1.out i hi)))
    have IN_10 := Lib.hid (IN_9.out.keep f10 (fun i hi hm => AP_IN_X1.out i hi hm))
    have BY_10 := Lib.hid (BY_9.out.keep f10 (fun i hi hm => AP_BY_X1.out i hi hm))
    clear f10 IN_9 BY_9 X1_9 FR9
    go_wp2_with fail
    refine Calls.mono (Both_any _ _ l m _ _ _ IN_10.out.sl HL.out.1 HW.out BY_10.out.sl HL.out.2.2.1 HV.out) ?_
    rintro e11 W11 ⟨r1, d1, k1, vx2, px2, rfl, ox, f11, nx⟩
    have AP_IN_X2 := Lib.hid (fun i (hi : i ∈ blk vin) (hm : i ∈ blk vx2) => (by have h1 := IN_10.out.lt i hi; have h2 := nx i hm; omega : False))
    have AP_BY_X2 := Lib.hid (fun i (hi : i ∈ blk vby) (hm : i ∈ blk vx2) => (by have h1 := BY_10.out.lt i hi; have h2 := nx i hm; omega : False))
    have N_X2 := Lib.hid (fun i (hi : i ∈ blk vx2) => Nat.le_trans FR10.out.size (nx i hi))
    have FR11 := Lib.hid (FR10.out.trans f11 (by simp))
    have IN_11 := Lib.hid (IN_10.out.keep0 f11)
    have BY_11 := Lib.hid (BY_10.out.keep0 f11)
    have X2_11 := Lib.hid ox
    clear f11 IN_10 BY_10 ox nx FR10
    go_wp2_with fail
    refine Calls.mono (RefBoth_any _ _ l m _ _ _ (HS.out.keep0 FR11.out) HL.out.1 HW.out (HM.out.keep0 FR11.out) HL.out.2.2.1 HV.out) ?_
    rintro e12 W12 ⟨r2, d2, k2, vy, py, rfl, oy, f12, ny⟩
    obtain ⟨rfl, rfl⟩ := k1.eq k2
    have HLX2 := Lib.hid (HQ.out _ _ _ k1)
    clear k1 k2
    have N_Y := Lib.hid (fun i (hi : i ∈ blk vy) => Nat.le_trans FR11.out.size (ny i hi))
    have FR12 := Lib.hid (FR11.out.trans f12 (by simp))
    have IN_12 := Lib.hid (IN_11.out.keep0 f12)
    have BY_12 := Lib.hid (BY_11.out.keep0 f12)
    have X2_12 := Lib.hid (X2_11.out.keep0 f12)
    have Y_12 := Lib.hid oy
    clear f12 IN_11 BY_11 X2_11 oy ny FR11
    go_wp2_with fail
    refine Calls.mono (SameX_true _ _ _ _ _ _ X2_12.out.sl Y_12.out.sl HLX2.out) ?_
    rintro e13 W13 ⟨rfl, f13⟩
    have FR13 := Lib.hid (FR12.out.trans f13 (by simp))
    have IN_13 := Lib.hid (IN_12.out.keep0 f13)
    have BY_13 := Lib.hid (BY_12.out.keep0 f13)
    have X2_13 := Lib.hid (X2_12.out.keep0 f13)
    have Y_13 := Lib.hid (Y_12.out.keep0 f13)
    clear f13 IN_12 BY_12 X2_12 Y_12 FR12
    clear Y_13
    go_wp2_with fail
    refine Calls.mono (Within_any _ _ l m _ _ _ IN_13.out.sl HL.out.1 HW.out BY_13.out.sl HL.out.2.2.1 HV.out) ?_
    rintro e14 W14 ⟨r3, d3, k3, rfl, f14⟩
    have FR14 := Lib.hid (FR13.out.trans f14 (by simp))
    have IN_14 := Lib.hid (IN_13.out.keep0 f14)
    have BY_14 := Lib.hid (BY_13.out.keep0 f14)
    have X2_14 := Lib.hid (X2_13.out.keep0 f14)
    clear f14 IN_13 BY_13 X2_13 FR13
    go_wp2_with fail
    refine Calls.mono (RefWithin_any _ _ l m _ _ _ (HS.out.keep0 FR14.out) HL.out.1 HW.out (HM.out.keep0 FR14.out) HL.out.2.2.1 HV.out) ?_
    rintro e15 W15 ⟨r4, d4, k4, rfl, f15⟩
    obtain ⟨rfl, rfl⟩ := k3.eq k4
    generalize wiB r3 d3 = bw at *
    clear k3 k4
    have FR15 := Lib.hid (FR14.out.trans f15 (by simp))
    have IN_15 := Lib.hid (IN_14.out.keep0 f15)
    have BY_15 := Lib.hid (BY_14.out.keep0 f15)
    have X2_15 := Lib.hid (X2_14.out.keep0 f15)
    clear f15 IN_14 BY_14 X2_14 FR14
    go_wp2_with fail
    refine Calls.mono (OverX_any _ _ _ _ X2_15.out HLX2.out) ?_
    rintro e16 W16 ⟨rfl, f16⟩
    have FR16 := Lib.hid (FR15.out.trans f16 (fun i hi => .inr (N_X2.out i hi)))
    have IN_16 := Lib.hid (IN_15.out.keep f16 (fun i hi hm => AP_IN_X2.out i hi hm))
    have BY_16 := Lib.hid (BY_15.out.keep f16 (fun i hi hm => AP_BY_X2.out i hi hm))
    clear f16 IN_15 BY_15 X2_15 FR15
    go_wp2_with fail
    refine Calls.mono (SameX_true _ _ l _ _ _ IN_16.out.sl (HS.out.keep0 FR16.out) HL.out.2.1) ?_
    rintro e17 W17 ⟨rfl, f17⟩
    have FR17 := Lib.hid (FR16.out.trans f17 (by simp))
    have IN_17 := Lib.hid (IN_16.out.keep0 f17)
    have BY_17 := Lib.hid (BY_16.out.keep0 f17)
    clear f17 IN_16 BY_16 FR16
    go_wp2_with fail
    refine Calls.mono (SameX_true _ _ m _ _ _ BY_17.out.sl (HM.out.keep0 FR17.out) HL.out.2.2.2) ?_
    rintro e18 W18 ⟨rfl, f18⟩
    have FR18 := Lib.hid (FR17.out.trans f18 (by simp))
    have IN_18 := Lib.hid (IN_17.out.keep0 f18)
    have BY_18 := Lib.hid (BY_17.out.keep0 f18)
    clear f18 IN_17 BY_17 FR17
    go_wp2_with fail
    refine Calls.mono (awake_any _) ?_
    rintro e19 W19 ⟨rfl, f19⟩
    have FR19 := Lib.hid (FR18.out.trans f19 (by simp))
    have IN_19 := Lib.hid (IN_18.out.keep0 f19)
    have BY_19 := Lib.hid (BY_18.out.keep0 f19)
    clear f19 IN_18 BY_18 FR18
    go_wp2_with fail
    go_ret
    exact ⟨rfl, FR19.out⟩
end Go.Proofs.Ytgbgpmdhlocjhaa
