/-
  The walk of ExtentSets. No conditions but those that each theorem names.
-/
import Derived.Test.YtgbgpmdhlocjhaaY0
namespace Go.Proofs.Ytgbgpmdhlocjhaa
open Go.RowKit
set_option linter.unusedVariables false
set_option linter.unusedSimpArgs false
set_option maxRecDepth 100000

theorem chk_bad (l : List Ex) (hg : ¬ Good l) {v : Value} {sp : List Value} {w : World} (h : SlX w v l sp) (hl : l.length ≤ 1000000000) (hw : ∀ x ∈ l, -9223372036854775808 ≤ x.1 ∧ x.1 ≤ 9223372036854775807) : Calls Try.prog 19 #[v] w fun e w' => e = .returned (.int .i64 2) ∧ Frm [] w w' := by
  have := Check_any v l sp w h hl hw
  rw [chkE_bad hg] at this
  exact this
set_option maxHeartbeats 16000000 in
theorem sets_any (v : Value) (l : List Ex) (sp : List Value) (x : Value) (m : List Ex) (msp : List Value) (w : World) (hS : SlX w v l sp) (hw : ∀ x ∈ l, -9223372036854775808 ≤ x.1 ∧ x.1 ≤ 9223372036854775807) (hI : SlX w x m msp) (hwm : ∀ x ∈ m, -9223372036854775808 ≤ x.1 ∧ x.1 ≤ 9223372036854775807) : Calls Try.prog 8 #[v, x] w (Yes w) := by
  obtain ⟨a, cap, rfl, _, _⟩ := hS.form
  obtain ⟨a2, cap2, rfl, _, _⟩ := hI.form
  have bigcase : (300 < l.length ∨ ¬ 300 < l.length ∧ 300 < m.length) → Calls Try.prog 8 #[.slice a l.length cap, .slice a2 m.length cap2] w (Yes w) := by
    intro hb
    clear hS hw hI hwm
    rcases hb with hb1 | ⟨hb0, hb1⟩
    · have hb9 : (300 : Int) < (l.length : Int) := by omega
      go_enter Try.func8, Try.ntmps8
      go_wp2_with (go_at_call 10; refine Calls.mono (awake_any _) ?_; rintro e1 W1 ⟨rfl, f1⟩)
      go_ret
      exact ⟨rfl, f1⟩
    · have hb8 : ¬ (300 : Int) < (l.length : Int) := by omega
      have hb9 : (300 : Int) < (m.length : Int) := by omega
      go_enter Try.func8, Try.ntmps8
      go_wp2_with (go_at_call 10; refine Calls.mono (awake_any _) ?_; rintro e1 W1 ⟨rfl, f1⟩)
      go_ret
      exact ⟨rfl, f1⟩
  by_cases hb1 : 300 < l.length
  · exact bigcase (.inl hb1)
  by_cases hb2 : 300 < m.length
  · exact bigcase (.inr ⟨hb1, hb2⟩)
  clear bigcase
  have hb8 : ¬ (300 : Int) < (l.length : Int) := by omega
  have hb9 : ¬ (300 : Int) < (m.length : Int) := by omega
  have HS := Lib.hid hS
  have HM := Lib.hid hI
  have HW := Lib.hid hw
  have HV := Lib.hid hwm
  have HL := Lib.hid (show l.length ≤ 1000000000 ∧ l.length ≤ 1000000 ∧ m.length ≤ 1000000000 ∧ m.length ≤ 1000000 by omega)
  clear hS hw hI hwm hb1 hb2
  by_cases hgg : Good l ∧ Good m
  · have HG := Lib.hid hgg
    clear hgg
    go_enter Try.func8, Try.ntmps8
    go_wp2_with fail
    refine Calls.mono (awake_any _) ?_
    rintro e1 W1 ⟨rfl, f1⟩
    have FR1 := Lib.hid ((Frm.refl [] w).trans f1 (by simp))
    clear f1
    go_wp2_with fail
    refine Calls.mono (Add_any _ _ l m _ _ _ (HS.out.keep0 FR1.out) HL.out.1 HW.out (HM.out.keep0 FR1.out) HL.out.2.2.1 HV.out) ?_
    rintro e2 W2 ⟨sum, d0, k0, v0, p0, rfl, o0, f2, n0⟩
    obtain ⟨rfl, q0, t0⟩ := mkp_good rfl k0 HG.out.1 HG.out.2
    have GQ0 := Lib.hid q0
    have GT0 := Lib.hid t0
    have GK0 := Lib.hid k0
    clear n0 q0 t0 k0
    have FR2 := Lib.hid (FR1.out.trans f2 (by simp))
    have R0_2 := Lib.hid o0
    clear f2 o0 FR1
    go_wp2_with fail
    refine Calls.mono (Cut_any _ _ l m _ _ _ (HS.out.keep0 FR2.out) HL.out.1 HW.out (HM.out.keep0 FR2.out) HL.out.2.2.1 HV.out) ?_
    rintro e3 W3 ⟨rest, d1, k1, v1, p1, rfl, o1, f3, n1⟩
    obtain ⟨rfl, q1, t1⟩ := mkp_good rfl k1 HG.out.1 HG.out.2
    have GQ1 := Lib.hid q1
    have GT1 := Lib.hid t1
    have GK1 := Lib.hid k1
    clear n1 q1 t1 k1
    have FR3 := Lib.hid (FR2.out.trans f3 (by simp))
    have R0_3 := Lib.hid (R0_2.out.keep0 f3)
    have R1_3 := Lib.hid o1
    clear f3 R0_2 o1 FR2
    go_wp2_with fail
    refine Calls.mono (Both_any _ _ l m _ _ _ (HS.out.keep0 FR3.out) HL.out.1 HW.out (HM.out.keep0 FR3.out) HL.out.2.2.1 HV.out) ?_
    rintro e4 W4 ⟨com, d2, k2, v2, p2, rfl, o2, f4, n2⟩
    obtain ⟨rfl, q2, t2⟩ := mkp_good rfl k2 HG.out.1 HG.out.2
    have GQ2 := Lib.hid q2
    have GT2 := Lib.hid t2
    have GK2 := Lib.hid k2
    clear n2 q2 t2 k2
    have FR4 := Lib.hid (FR3.out.trans f4 (by simp))
    have R0_4 := Lib.hid (R0_3.out.keep0 f4)
    have R1_4 := Lib.hid (R1_3.out.keep0 f4)
    have R2_4 := Lib.hid o2
    clear f4 R0_3 R1_3 o2 FR3
    go_wp2_with fail
    refine Calls.mono (chk_good l HG.out.1 (HS.out.keep0 FR4.out)) ?_
    rintro e5 W5 ⟨rfl, f5⟩
    have FR5 := Lib.hid (FR4.out.trans f5 (by simp))
    have R0_5 := Lib.hid (R0_4.out.keep0 f5)
    have R1_5 := Lib.hid (R1_4.out.keep0 f5)
    have R2_5 := Lib.hid (R2_4.out.keep0 f5)
    clear f5 R0_4 R1_4 R2_4 FR4
    go_wp2_with fail
    refine Calls.mono (chk_good m HG.out.2 (HM.out.keep0 FR5.out)) ?_
    rintro e6 W6 ⟨rfl, f6⟩
    have FR6 := Lib.hid (FR5.out.trans f6 (by simp))
    have R0_6 := Lib.hid (R0_5.out.keep0 f6)
    have R1_6 := Lib.hid (R1_5.out.keep0 f6)
    have R2_6 := Lib.hid (R2_5.out.keep0 f6)
    clear f6 R0_5 R1_5 R2_5 FR5
    go_wp2_with fail
    refine Calls.mono (mk_ex (Add_any _ _ rest com _ _ _ R1_6.out.sl (GQ1.out).big (GQ1.out).sm R2_6.out.sl (GQ2.out).big (GQ2.out).sm) (mkp_of (r := l) GQ1.out GQ2.out HG.out.1 (fun s => by rw [GT1.out s, GT2.out s]; cases hasB l s <;> cases hasB m s <;> rfl))) ?_
    rintro e7 W7 ⟨v5, p5, rfl, o5, f7, n5⟩
    clear n5
    have FR7 := Lib.hid (FR6.out.trans f7 (by simp))
    have R0_7 := Lib.hid (R0_6.out.keep0 f7)
    have R1_7 := Lib.hid (R1_6.out.keep0 f7)
    have R2_7 := Lib.hid (R2_6.out.keep0 f7)
    have S1_7 := Lib.hid o5
    clear f7 R0_6 R1_6 R2_6 o5 FR6
    go_wp2_with fail
    refine Calls.mono (mk_ex (Both_any _ _ rest com _ _ _ R1_7.out.sl (GQ1.out).big (GQ1.out).sm R2_7.out.sl (GQ2.out).big (GQ2.out).sm) (mkp_of (r := []) GQ1.out GQ2.out Good.nil (fun s => by rw [GT1.out s, GT2.out s]; cases hasB l s <;> cases hasB m s <;> rfl))) ?_
    rintro e8 W8 ⟨v6, p6, rfl, o6, f8, n6⟩
    obtain ⟨a6, c6, rfl, _, _⟩ := o6.sl.form
    clear n6
    have FR8 := Lib.hid (FR7.out.trans f8 (by simp))
    have R0_8 := Lib.hid (R0_7.out.keep0 f8)
    have R1_8 := Lib.hid (R1_7.out.keep0 f8)
    have R2_8 := Lib.hid (R2_7.out.keep0 f8)
    have S1_8 := Lib.hid (S1_7.out.keep0 f8)
    have S2_8 := Lib.hid o6
    clear f8 R0_7 R1_7 R2_7 S1_7 o6 FR7
    clear S2_8
    go_wp2_with fail
    refine Calls.mono (mk_ex (Add_any _ _ m l _ _ _ (HM.out.keep0 FR8.out) (HG.out.2).big (HG.out.2).sm (HS.out.keep0 FR8.out) (HG.out.1).big (HG.out.1).sm) (mkp_of (r := sum) HG.out.2 HG.out.1 GQ0.out (fun s => by rw [GT0.out s]; cases hasB l s <;> cases hasB m s <;> rfl))) ?_
    rintro e9 W9 ⟨v7, p7, rfl, o7, f9, n7⟩
    clear n7
    have FR9 := Lib.hid (FR8.out.trans f9 (by simp))
    have R0_9 := Lib.hid (R0_8.out.keep0 f9)
    have R1_9 := Lib.hid (R1_8.out.keep0 f9)
    have R2_9 := Lib.hid (R2_8.out.keep0 f9)
    have S1_9 := Lib.hid (S1_8.out.keep0 f9)
    have Y_9 := Lib.hid o7
    clear f9 R0_8 R1_8 R2_8 S1_8 o7 FR8
    go_wp2_with fail
    refine Calls.mono (SameX_true _ _ l _ _ _ S1_9.out.sl (HS.out.keep0 FR9.out) HL.out.2.1) ?_
    rintro e10 W10 ⟨rfl, f10⟩
    have FR10 := Lib.hid (FR9.out.trans f10 (by simp))
    have R0_10 := Lib.hid (R0_9.out.keep0 f10)
    have R1_10 := Lib.hid (R1_9.out.keep0 f10)
    have R2_10 := Lib.hid (R2_9.out.keep0 f10)
    have S1_10 := Lib.hid (S1_9.out.keep0 f10)
    have Y_10 := Lib.hid (Y_9.out.keep0 f10)
    clear f10 R0_9 R1_9 R2_9 S1_9 Y_9 FR9
    clear S1_10
    go_wp2_with fail
    refine Calls.mono (SameX_true _ _ sum _ _ _ Y_10.out.sl R0_10.out.sl (by have := GQ0.out.len; omega)) ?_
    rintro e11 W11 ⟨rfl, f11⟩
    have FR11 := Lib.hid (FR10.out.trans f11 (by simp))
    have R0_11 := Lib.hid (R0_10.out.keep0 f11)
    have R1_11 := Lib.hid (R1_10.out.keep0 f11)
    have R2_11 := Lib.hid (R2_10.out.keep0 f11)
    have Y_11 := Lib.hid (Y_10.out.keep0 f11)
    clear f11 R0_10 R1_10 R2_10 Y_10 FR10
    clear Y_11
    have hcs := sets_counts HG.out.1 HG.out.2 GQ0.out GQ2.out GT0.out GT2.out
    have hb1 := numE_bounds l
    have hb2 := numE_bounds m
    have hb3 := numE_bounds sum
    have hb4 := numE_bounds com
    obtain ⟨tt, htt⟩ : ∃ tt, tt = numE l + numE m := ⟨_, rfl⟩
    have hwa : IntKind.i64.wrap (numE sum + numE com) = tt := by rw [htt, ← hcs]; exact IntWalk.i64_in _ (by omega)
    have hwb : IntKind.i64.wrap (numE l + numE m) = tt := by rw [htt]; exact IntWalk.i64_in _ (by omega)
    clear hb1 hb2 hb3 hb4 htt hcs
    go_wp2_with fail
    refine Calls.mono (Count_any _ sum _ _ R0_11.out.sl GQ0.out.big GQ0.out.sm) ?_
    rintro e12 W12 ⟨rfl, f12⟩
    have FR12 := Lib.hid (FR11.out.trans f12 (by simp))
    have R0_12 := Lib.hid (R0_11.out.keep0 f12)
    have R1_12 := Lib.hid (R1_11.out.keep0 f12)
    have R2_12 := Lib.hid (R2_11.out.keep0 f12)
    clear f12 R0_11 R1_11 R2_11 FR11
    go_wp2_with fail
    refine Calls.mono (Count_any _ com _ _ R2_12.out.sl GQ2.out.big GQ2.out.sm) ?_
    rintro e13 W13 ⟨rfl, f13⟩
    have FR13 := Lib.hid (FR12.out.trans f13 (by simp))
    have R0_13 := Lib.hid (R0_12.out.keep0 f13)
    have R1_13 := Lib.hid (R1_12.out.keep0 f13)
    have R2_13 := Lib.hid (R2_12.out.keep0 f13)
    clear f13 R0_12 R1_12 R2_12 FR12
    go_wp2_with fail
    refine Calls.mono (Count_any _ l _ _ (HS.out.keep0 FR13.out) HG.out.1.big HG.out.1.sm) ?_
    rintro e14 W14 ⟨rfl, f14⟩
    have FR14 := Lib.hid (FR13.out.trans f14 (by simp))
    have R0_14 := Lib.hid (R0_13.out.keep0 f14)
    have R1_14 := Lib.hid (R1_13.out.keep0 f14)
    have R2_14 := Lib.hid (R2_13.out.keep0 f14)
    clear f14 R0_13 R1_13 R2_13 FR13
    go_wp2_with fail
    refine Calls.mono (Count_any _ m _ _ (HM.out.keep0 FR14.out) HG.out.2.big HG.out.2.sm) ?_
    rintro e15 W15 ⟨rfl, f15⟩
    have FR15 := Lib.hid (FR14.out.trans f15 (by simp))
    have R0_15 := Lib.hid (R0_14.out.keep0 f15)
    have R1_15 := Lib.hid (R1_14.out.keep0 f15)
    have R2_15 := Lib.hid (R2_14.out.keep0 f15)
    clear f15 R0_14 R1_14 R2_14 FR14
    go_wp2_with fail
    refine Calls.mono (wi_ex (b := true) (Within_any _ _ l sum _ _ _ (HS.out.keep0 FR15.out) (HG.out.1).big (HG.out.1).sm R0_15.out.sl (GQ0.out).big (GQ0.out).sm) (mkp_of (r := []) HG.out.1 GQ0.out Good.nil (fun s => by rw [GT0.out s]; cases hasB l s <;> cases hasB m s <;> rfl)) (by decide)) ?_
    rintro e16 W16 ⟨rfl, f16⟩
    have FR16 := Lib.hid (FR15.out.trans f16 (by simp))
    have R0_16 := Lib.hid (R0_15.out.keep0 f16)
    have R1_16 := Lib.hid (R1_15.out.keep0 f16)
    have R2_16 := Lib.hid (R2_15.out.keep0 f16)
    clear f16 R0_15 R1_15 R2_15 FR15
    go_wp2_with fail
    refine Calls.mono (wi_ex (b := true) (Within_any _ _ com m _ _ _ R2_16.out.sl (GQ2.out).big (GQ2.out).sm (HM.out.keep0 FR16.out) (HG.out.2).big (HG.out.2).sm) (mkp_of (r := []) GQ2.out HG.out.2 Good.nil (fun s => by rw [GT2.out s]; cases hasB l s <;> cases hasB m s <;> rfl)) (by decide)) ?_
    rintro e17 W17 ⟨rfl, f17⟩
    have FR17 := Lib.hid (FR16.out.trans f17 (by simp))
    have R0_17 := Lib.hid (R0_16.out.keep0 f17)
    have R1_17 := Lib.hid (R1_16.out.keep0 f17)
    have R2_17 := Lib.hid (R2_16.out.keep0 f17)
    clear f17 R0_16 R1_16 R2_16 FR16
    obtain ⟨bz, hbz⟩ : ∃ bz, bz = decide (rest = []) := ⟨_, rfl⟩
    have hlz : (((rest.length : Nat) : Int) == 0) = bz := by rw [hbz, Bool.eq_iff_iff]; simp
    have HBZ := Lib.hid hbz
    have HLZ := Lib.hid hlz
    clear hbz hlz
    obtain ⟨a1, c1, rfl, _, _⟩ := R1_17.out.sl.form
    go_wp2_with fail
    refine Calls.mono (wi_ex (b := bz) (Within_any _ _ l m _ _ _ (HS.out.keep0 FR17.out) (HG.out.1).big (HG.out.1).sm (HM.out.keep0 FR17.out) (HG.out.2).big (HG.out.2).sm) GK1.out (by rw [HBZ.out]; simp [wiB])) ?_
    rintro e18 W18 ⟨rfl, f18⟩
    have FR18 := Lib.hid (FR17.out.trans f18 (by simp))
    have R0_18 := Lib.hid (R0_17.out.keep0 f18)
    have R1_18 := Lib.hid (R1_17.out.keep0 f18)
    have R2_18 := Lib.hid (R2_17.out.keep0 f18)
    clear f18 R0_17 R1_17 R2_17 FR17
    clear R0_18
    clear R1_18
    clear R2_18
    cases bz
    · go_wp2_with fail
      go_ret
      exact ⟨congrArg (fun b => Ending.returned (.bool (!b))) HLZ.out, FR18.out⟩
    · go_wp2_with fail
      go_ret
      exact ⟨congrArg (fun b => Ending.returned (.bool b)) HLZ.out, FR18.out⟩
  · have HN := Lib.hid hgg
    have hsplit : ¬ Good l ∨ Good l ∧ ¬ Good m := by
      by_cases q : Good l
      · exact .inr ⟨q, fun h => hgg ⟨q, h⟩⟩
      · exact .inl q
    clear hgg
    rcases hsplit with hnl | ⟨hgl, hnm⟩
    · have HB := Lib.hid hnl
      clear hnl
      go_enter Try.func8, Try.ntmps8
      go_wp2_with fail
      refine Calls.mono (awake_any _) ?_
      rintro e1 W1 ⟨rfl, f1⟩
      have FR1 := Lib.hid ((Frm.refl [] w).trans f1 (by simp))
      clear f1
      go_wp2_with fail
      refine Calls.mono (Add_any _ _ l m _ _ _ (HS.out.keep0 FR1.out) HL.out.1 HW.out (HM.out.keep0 FR1.out) HL.out.2.2.1 HV.out) ?_
      rintro e2 W2 ⟨sum, d0, k0, v0, p0, rfl, o0, f2, n0⟩
      obtain ⟨rfl, rfl⟩ := mkp_bad k0 HN.out
      clear n0 k0
      have FR2 := Lib.hid (FR1.out.trans f2 (by simp))
      have R0_2 := Lib.hid o0
      clear f2 o0 FR1
      clear R0_2
      go_wp2_with fail
      refine Calls.mono (Cut_any _ _ l m _ _ _ (HS.out.keep0 FR2.out) HL.out.1 HW.out (HM.out.keep0 FR2.out) HL.out.2.2.1 HV.out) ?_
      rintro e3 W3 ⟨rest, d1, k1, v1, p1, rfl, o1, f3, n1⟩
      obtain ⟨rfl, rfl⟩ := mkp_bad k1 HN.out
      clear n1 k1
      have FR3 := Lib.hid (FR2.out.trans f3 (by simp))
      have R1_3 := Lib.hid o1
      clear f3 o1 FR2
      clear R1_3
      go_wp2_with fail
      refine Calls.mono (Both_any _ _ l m _ _ _ (HS.out.keep0 FR3.out) HL.out.1 HW.out (HM.out.keep0 FR3.out) HL.out.2.2.1 HV.out) ?_
      rintro e4 W4 ⟨com, d2, k2, v2, p2, rfl, o2, f4, n2⟩
      obtain ⟨rfl, rfl⟩ := mkp_bad k2 HN.out
      clear n2 k2
      have FR4 := Lib.hid (FR3.out.trans f4 (by simp))
      have R2_4 := Lib.hid o2
      clear f4 o2 FR3
      clear R2_4
      go_wp2_with fail
      refine Calls.mono (chk_bad l HB.out (HS.out.keep0 FR4.out) HL.out.1 HW.out) ?_
      rintro e5 W5 ⟨rfl, f5⟩
      have FR5 := Lib.hid (FR4.out.trans f5 (by simp))
      clear f5 FR4
      go_wp2_with fail
      refine Calls.mono (Within_any _ _ l m _ _ _ (HS.out.keep0 FR5.out) HL.out.1 HW.out (HM.out.keep0 FR5.out) HL.out.2.2.1 HV.out) ?_
      rintro e6 W6 ⟨r9, d9, k9, rfl, f6⟩
      obtain ⟨rfl, rfl⟩ := mkp_bad k9 HN.out
      clear k9
      have FR6 := Lib.hid (FR5.out.trans f6 (by simp))
      clear f6 FR5
      have hwf : wiB [] 2 = false := by decide
      go_wp2_with fail
      go_ret
      exact ⟨rfl, FR6.out⟩
    · have HB := Lib.hid hgl
      have HB2 := Lib.hid hnm
      clear hgl hnm
      go_enter Try.func8, Try.ntmps8
      go_wp2_with fail
      refine Calls.mono (awake_any _) ?_
      rintro e1 W1 ⟨rfl, f1⟩
      have FR1 := Lib.hid ((Frm.refl [] w).trans f1 (by simp))
      clear f1
      go_wp2_with fail
      refine Calls.mono (Add_any _ _ l m _ _ _ (HS.out.keep0 FR1.out) HL.out.1 HW.out (HM.out.keep0 FR1.out) HL.out.2.2.1 HV.out) ?_
      rintro e2 W2 ⟨sum, d0, k0, v0, p0, rfl, o0, f2, n0⟩
      obtain ⟨rfl, rfl⟩ := mkp_bad k0 HN.out
      clear n0 k0
      have FR2 := Lib.hid (FR1.out.trans f2 (by simp))
      have R0_2 := Lib.hid o0
      clear f2 o0 FR1
      clear R0_2
      go_wp2_with fail
      refine Calls.mono (Cut_any _ _ l m _ _ _ (HS.out.keep0 FR2.out) HL.out.1 HW.out (HM.out.keep0 FR2.out) HL.out.2.2.1 HV.out) ?_
      rintro e3 W3 ⟨rest, d1, k1, v1, p1, rfl, o1, f3, n1⟩
      obtain ⟨rfl, rfl⟩ := mkp_bad k1 HN.out
      clear n1 k1
      have FR3 := Lib.hid (FR2.out.trans f3 (by simp))
      have R1_3 := Lib.hid o1
      clear f3 o1 FR2
      clear R1_3
      go_wp2_with fail
      refine Calls.mono (Both_any _ _ l m _ _ _ (HS.out.keep0 FR3.out) HL.out.1 HW.out (HM.out.keep0 FR3.out) HL.out.2.2.1 HV.out) ?_
      rintro e4 W4 ⟨com, d2, k2, v2, p2, rfl, o2, f4, n2⟩
      obtain ⟨rfl, rfl⟩ := mkp_bad k2 HN.out
      clear n2 k2
      have FR4 := Lib.hid (FR3.out.trans f4 (by simp))
      have R2_4 := Lib.hid o2
      clear f4 o2 FR3
      clear R2_4
      go_wp2_with fail
      refine Calls.mono (chk_good l HB.out (HS.out.keep0 FR4.out)) ?_
      rintro e5 W5 ⟨rfl, f5⟩
      have FR5 := Lib.hid (FR4.out.trans f5 (by simp))
      clear f5 FR4
      go_wp2_with fail
      refine Calls.mono (chk_bad m HB2.out (HM.out.keep0 FR5.out) HL.out.2.2.1 HV.out) ?_
      rintro e6 W6 ⟨rfl, f6⟩
      have FR6 := Lib.hid (FR5.out.trans f6 (by simp))
      clear f6 FR5
      go_wp2_with fail
      refine Calls.mono (Within_any _ _ l m _ _ _ (HS.out.keep0 FR6.out) HL.out.1 HW.out (HM.out.keep0 FR6.out) HL.out.2.2.1 HV.out) ?_
      rintro e7 W7 ⟨r9, d9, k9, rfl, f7⟩
      obtain ⟨rfl, rfl⟩ := mkp_bad k9 HN.out
      clear k9
      have FR7 := Lib.hid (FR6.out.trans f7 (by simp))
      clear f7 FR6
      have hwf : wiB [] 2 = false := by decide
      go_wp2_with fail
      go_ret
      exact ⟨rfl, FR7.out⟩
end Go.Proofs.Ytgbgpmdhlocjhaa
