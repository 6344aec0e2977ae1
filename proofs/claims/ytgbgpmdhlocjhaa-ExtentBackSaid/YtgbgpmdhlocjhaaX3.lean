/-
  The walk of ExtentTells. No conditions but those that each theorem names.
-/
import Derived.Test.YtgbgpmdhlocjhaaX1
namespace Go.Proofs.Ytgbgpmdhlocjhaa
open Go.RowKit
set_option linter.unusedVariables false
set_option linter.unusedSimpArgs false
set_option maxRecDepth 100000

theorem ofp_len {s : List Int} {r : List Ex} {c : Int} (h : OfP s r c) : r.length ≤ 1000000 := by
  rcases h with ⟨_, _, h⟩ | ⟨_, _, rfl⟩
  · have := h.1.len; omega
  · simp
theorem listp_len {l : List Ex} {s : List Int} {c : Int} (h : ListP l s c) : s.length ≤ 1000000 := by
  rcases h with ⟨h, _, rfl⟩ | ⟨_, _, rfl⟩
  · have := secs_len_le h; omega
  · simp
theorem mkp_len {f : Bool → Bool → Bool} {l m r : List Ex} {c : Int} (h : MkP f l m r c) : r.length ≤ 1000000 := by
  rcases h with ⟨_, _, _, h⟩ | ⟨_, _, rfl⟩
  · have := h.1.len; omega
  · simp
theorem lowp_len {l : List Ex} {n : Int} {r : List Ex} {c : Int} (h : LowP l n r c) : r.length ≤ 1000000 := by
  rcases h with ⟨_, _, _, _, h⟩ | ⟨_, _, _, _, rfl⟩ | ⟨_, _, rfl⟩
  · have := h.1.len; omega
  · simp
  · simp
set_option maxHeartbeats 8000000 in
theorem tells_any (v : Value) (l : List Ex) (sp : List Value) (x : Value) (s : List Int) (ssp : List Value) (w : World) (hS : SlX w v l sp) (hw : ∀ x ∈ l, -9223372036854775808 ≤ x.1 ∧ x.1 ≤ 9223372036854775807) (hI : SlI w x s ssp) : Calls Try.prog 3 #[v, x] w (Yes w) := by
  obtain ⟨a, cap, rfl, _, _⟩ := hS.form
  obtain ⟨a2, cap2, rfl, _, _⟩ := hI.form
  by_cases hb1 : 300 < l.length
  · have hb9 : (300 : Int) < (l.length : Int) := by omega
    clear hS hw hI
    go_enter Try.func3, Try.ntmps3
    go_wp2_with (go_at_call 10; refine Calls.mono (awake_any _) ?_; rintro e1 W1 ⟨rfl, f1⟩)
    go_ret
    exact ⟨rfl, f1⟩
  by_cases hb2 : 500 < s.length
  · have hb8 : ¬ (300 : Int) < (l.length : Int) := by omega
    have hb9 : (500 : Int) < (s.length : Int) := by omega
    clear hS hw hI
    go_enter Try.func3, Try.ntmps3
    go_wp2_with (go_at_call 10; refine Calls.mono (awake_any _) ?_; rintro e1 W1 ⟨rfl, f1⟩)
    go_ret
    exact ⟨rfl, f1⟩
  · have hb8 : ¬ (300 : Int) < (l.length : Int) := by omega
    have hb9 : ¬ (500 : Int) < (s.length : Int) := by omega
    have HS := Lib.hid hS
    have HI := Lib.hid hI
    have HW := Lib.hid hw
    have HL := Lib.hid (show l.length ≤ 1000000000 ∧ l.length ≤ 1000000 ∧ l.length ≤ 100000 ∧ s.length ≤ 1000000 ∧ s.length ≤ 100000 by omega)
    have HQ := Lib.hid (fun r c (h : OfP s r c) => ofp_len h)
    have HQ2 := Lib.hid (fun r c (h : ListP l r c) => listp_len h)
    clear hS hw hI hb1 hb2
    go_enter Try.func3, Try.ntmps3
    go_wp2_with fail
    refine Calls.mono (CopyX_any _ l _ _ (HS.out.keep0 (Frm.refl [] w)) HL.out.2.1) ?_
    rintro e1 W1 ⟨vin, sin, rfl, oin, f1, nin⟩
    have N_IN := Lib.hid (fun i (hi : i ∈ blk vin) => Nat.le_trans (Frm.refl [] w).size (nin i hi))
    have FR1 := Lib.hid ((Frm.refl [] w).trans f1 (by simp))
    have IN_1 := Lib.hid oin
    clear f1 oin nin
    go_wp2_with fail
    refine Calls.mono (Lent_any _ s _ _ (HI.out.keep0 FR1.out) HL.out.2.2.2.1) ?_
    rintro e2 W2 ⟨gl, rfl, ol, f2, nl⟩
    clear nl
    have FR2 := Lib.hid (FR1.out.trans f2 (by simp))
    have IN_2 := Lib.hid (IN_1.out.keep0 f2)
    have LN_2 := Lib.hid ol
    clear f2 IN_1 ol FR1
    go_wp2_with fail
    refine Calls.mono (List_any _ l _ _ IN_2.out.sl HL.out.1 HW.out) ?_
    rintro e3 W3 ⟨s1, c1, h1, v1, p1, rfl, o1, f3, n1⟩
    have N_S1 := Lib.hid (fun i (hi : i ∈ blk v1) => Nat.le_trans FR2.out.size (n1 i hi))
    have FR3 := Lib.hid (FR2.out.trans f3 (by simp))
    have IN_3 := Lib.hid (IN_2.out.keep0 f3)
    have LN_3 := Lib.hid (LN_2.out.keep0 f3)
    have S1_3 := Lib.hid o1
    clear f3 IN_2 LN_2 o1 n1 FR2
    go_wp2_with fail
    refine Calls.mono (RefList_any _ l _ _ (HS.out.keep0 FR3.out) HL.out.1 HW.out) ?_
    rintro e4 W4 ⟨s2, c2, h2, v2, p2, rfl, o2, f4, n2⟩
    obtain ⟨rfl, rfl⟩ := h1.eq h2
    have HLS := Lib.hid (HQ2.out _ _ h1)
    clear h1 h2 HQ2
    have N_S2 := Lib.hid (fun i (hi : i ∈ blk v2) => Nat.le_trans FR3.out.size (n2 i hi))
    have FR4 := Lib.hid (FR3.out.trans f4 (by simp))
    have IN_4 := Lib.hid (IN_3.out.keep0 f4)
    have LN_4 := Lib.hid (LN_3.out.keep0 f4)
    have S1_4 := Lib.hid (S1_3.out.keep0 f4)
    have S2_4 := Lib.hid o2
    clear f4 IN_3 LN_3 S1_3 o2 n2 FR3
    go_wp2_with fail
    refine Calls.mono (Of_any _ s _ _ LN_4.out.sl HL.out.2.2.2.2) ?_
    rintro e5 W5 ⟨r1, d1, k1, vx, px, rfl, ox, f5, nx⟩
    have AP_IN_X1 := Lib.hid (fun i (hi : i ∈ blk vin) (hm : i ∈ blk vx) => (by have h1 := IN_4.out.lt i hi; have h2 := nx i hm; omega : False))
    have AP_LN_X1 := Lib.hid (fun i (hi : i ∈ blk (.slice (some ⟨gl, 0, none⟩) s.length (s.length + 3))) (hm : i ∈ blk vx) => (by have h1 := LN_4.out.lt i hi; have h2 := nx i hm; omega : False))
    have N_X1 := Lib.hid (fun i (hi : i ∈ blk vx) => Nat.le_trans FR4.out.size (nx i hi))
    have FR5 := Lib.hid (FR4.out.trans f5 (by simp))
    have IN_5 := Lib.hid (IN_4.out.keep0 f5)
    have LN_5 := Lib.hid (LN_4.out.keep0 f5)
    have S1_5 := Lib.hid (S1_4.out.keep0 f5)
    have S2_5 := Lib.hid (S2_4.out.keep0 f5)
    have X1_5 := Lib.hid ox
    clear f5 IN_4 LN_4 S1_4 S2_4 ox nx FR4
    go_wp2_with fail
    refine Calls.mono (RefOf_any _ s _ _ (HI.out.keep0 FR5.out) HL.out.2.2.2.2) ?_
    rintro e6 W6 ⟨r2, d2, k2, vy, py, rfl, oy, f6, ny⟩
    obtain ⟨rfl, rfl⟩ := k1.eq k2
    have HLX := Lib.hid (HQ.out _ _ k1)
    clear k1 k2 HQ
    have N_X2 := Lib.hid (fun i (hi : i ∈ blk vy) => Nat.le_trans FR5.out.size (ny i hi))
    have FR6 := Lib.hid (FR5.out.trans f6 (by simp))
    have IN_6 := Lib.hid (IN_5.out.keep0 f6)
    have LN_6 := Lib.hid (LN_5.out.keep0 f6)
    have S1_6 := Lib.hid (S1_5.out.keep0 f6)
    have S2_6 := Lib.hid (S2_5.out.keep0 f6)
    have X1_6 := Lib.hid (X1_5.out.keep0 f6)
    have X2_6 := Lib.hid oy
    clear f6 IN_5 LN_5 S1_5 S2_5 X1_5 oy ny FR5
    go_wp2_with fail
    refine Calls.mono (SameI_true _ _ _ _ _ _ S1_6.out.sl S2_6.out.sl HLS.out) ?_
    rintro e7 W7 ⟨rfl, f7⟩
    have FR7 := Lib.hid (FR6.out.trans f7 (by simp))
    have IN_7 := Lib.hid (IN_6.out.keep0 f7)
    have LN_7 := Lib.hid (LN_6.out.keep0 f7)
    have S1_7 := Lib.hid (S1_6.out.keep0 f7)
    have S2_7 := Lib.hid (S2_6.out.keep0 f7)
    have X1_7 := Lib.hid (X1_6.out.keep0 f7)
    have X2_7 := Lib.hid (X2_6.out.keep0 f7)
    clear f7 IN_6 LN_6 S1_6 S2_6 X1_6 X2_6 FR6
    go_wp2_with fail
    refine Calls.mono (SameX_true _ _ _ _ _ _ X1_7.out.sl X2_7.out.sl HLX.out) ?_
    rintro e8 W8 ⟨rfl, f8⟩
    have FR8 := Lib.hid (FR7.out.trans f8 (by simp))
    have IN_8 := Lib.hid (IN_7.out.keep0 f8)
    have LN_8 := Lib.hid (LN_7.out.keep0 f8)
    have S1_8 := Lib.hid (S1_7.out.keep0 f8)
    have S2_8 := Lib.hid (S2_7.out.keep0 f8)
    have X1_8 := Lib.hid (X1_7.out.keep0 f8)
    have X2_8 := Lib.hid (X2_7.out.keep0 f8)
    clear f8 IN_7 LN_7 S1_7 S2_7 X1_7 X2_7 FR7
    go_wp2_with fail
    refine Calls.mono (Check_any _ l _ _ IN_8.out.sl HL.out.1 HW.out) ?_
    rintro e9 W9 ⟨rfl, f9⟩
    have FR9 := Lib.hid (FR8.out.trans f9 (by simp))
    have IN_9 := Lib.hid (IN_8.out.keep0 f9)
    have LN_9 := Lib.hid (LN_8.out.keep0 f9)
    have S1_9 := Lib.hid (S1_8.out.keep0 f9)
    have S2_9 := Lib.hid (S2_8.out.keep0 f9)
    have X1_9 := Lib.hid (X1_8.out.keep0 f9)
    have X2_9 := Lib.hid (X2_8.out.keep0 f9)
    clear f9 IN_8 LN_8 S1_8 S2_8 X1_8 X2_8 FR8
    go_wp2_with fail
    refine Calls.mono (RefCheck_any _ l _ _ (HS.out.keep0 FR9.out) HL.out.1 HW.out) ?_
    rintro e10 W10 ⟨rfl, f10⟩
    have FR10 := Lib.hid (FR9.out.trans f10 (by simp))
    have IN_10 := Lib.hid (IN_9.out.keep0 f10)
    have LN_10 := Lib.hid (LN_9.out.keep0 f10)
    have S1_10 := Lib.hid (S1_9.out.keep0 f10)
    have S2_10 := Lib.hid (S2_9.out.keep0 f10)
    have X1_10 := Lib.hid (X1_9.out.keep0 f10)
    have X2_10 := Lib.hid (X2_9.out.keep0 f10)
    clear f10 IN_9 LN_9 S1_9 S2_9 X1_9 X2_9 FR9
    go_wp2_with fail
    refine Calls.mono (Count_any _ l _ _ IN_10.out.sl HL.out.1 HW.out) ?_
    rintro e11 W11 ⟨rfl, f11⟩
    have FR11 := Lib.hid (FR10.out.trans f11 (by simp))
    have IN_11 := Lib.hid (IN_10.out.keep0 f11)
    have LN_11 := Lib.hid (LN_10.out.keep0 f11)
    have S1_11 := Lib.hid (S1_10.out.keep0 f11)
    have S2_11 := Lib.hid (S2_10.out.keep0 f11)
    have X1_11 := Lib.hid (X1_10.out.keep0 f11)
    have X2_11 := Lib.hid (X2_10.out.keep0 f11)
    clear f11 IN_10 LN_10 S1_10 S2_10 X1_10 X2_10 FR10
    go_wp2_with fail
    refine Calls.mono (RefCount_any _ l _ _ (HS.out.keep0 FR11.out) HL.out.1 HW.out) ?_
    rintro e12 W12 ⟨rfl, f12⟩
    have FR12 := Lib.hid (FR11.out.trans f12 (by simp))
    have IN_12 := Lib.hid (IN_11.out.keep0 f12)
    have LN_12 := Lib.hid (LN_11.out.keep0 f12)
    have S1_12 := Lib.hid (S1_11.out.keep0 f12)
    have S2_12 := Lib.hid (S2_11.out.keep0 f12)
    have X1_12 := Lib.hid (X1_11.out.keep0 f12)
    have X2_12 := Lib.hid (X2_11.out.keep0 f12)
    clear f12 IN_11 LN_11 S1_11 S2_11 X1_11 X2_11 FR11
    clear S1_12
    clear S2_12
    clear X2_12
    go_wp2_with fail
    refine Calls.mono (OverX_any _ _ _ _ X1_12.out HLX.out) ?_
    rintro e13 W13 ⟨rfl, f13⟩
    have FR13 := Lib.hid (FR12.out.trans f13 (fun i hi => .inr (N_X1.out i hi)))
    have IN_13 := Lib.hid (IN_12.out.keep f13 (fun i hi hm => AP_IN_X1.out i hi hm))
    have LN_13 := Lib.hid (LN_12.out.keep f13 (fun i hi hm => AP_LN_X1.out i hi hm))
    clear f13 IN_12 LN_12 X1_12 FR12
    go_wp2_with fail
    refine Calls.mono (SameX_true _ _ l _ _ _ IN_13.out.sl (HS.out.keep0 FR13.out) HL.out.2.1) ?_
    rintro e14 W14 ⟨rfl, f14⟩
    have FR14 := Lib.hid (FR13.out.trans f14 (by simp))
    have IN_14 := Lib.hid (IN_13.out.keep0 f14)
    have LN_14 := Lib.hid (LN_13.out.keep0 f14)
    clear f14 IN_13 LN_13 FR13
    go_wp2_with fail
    refine Calls.mono (Kept_true _ _ _ _ s _ _ LN_14.out (HI.out.keep0 FR14.out) HL.out.2.2.2.2) ?_
    rintro e15 W15 ⟨rfl, f15⟩
    have FR15 := Lib.hid (FR14.out.trans f15 (by simp))
    have IN_15 := Lib.hid (IN_14.out.keep0 f15)
    have LN_15 := Lib.hid (LN_14.out.keep0 f15)
    clear f15 IN_14 LN_14 FR14
    go_wp2_with fail
    refine Calls.mono (awake_any _) ?_
    rintro e16 W16 ⟨rfl, f16⟩
    have FR16 := Lib.hid (FR15.out.trans f16 (by simp))
    have IN_16 := Lib.hid (IN_15.out.keep0 f16)
    have LN_16 := Lib.hid (LN_15.out.keep0 f16)
    clear f16 IN_15 LN_15 FR15
    go_wp2_with fail
    go_ret
    exact ⟨rfl, FR16.out⟩
end Go.Proofs.Ytgbgpmdhlocjhaa
