/-
  The walk of ExtentLows. No conditions but those that each theorem names.
-/
import Derived.Test.YtgbgpmdhlocjhaaX3
namespace Go.Proofs.Ytgbgpmdhlocjhaa
open Go.RowKit
set_option linter.unusedVariables false
set_option linter.unusedSimpArgs false
set_option maxRecDepth 100000

set_option maxHeartbeats 8000000 in
theorem lows_any (v : Value) (l : List Ex) (sp : List Value) (n : Int) (w : World) (hS : SlX w v l sp) (hw : ∀ x ∈ l, -9223372036854775808 ≤ x.1 ∧ x.1 ≤ 9223372036854775807) (hn : -9223372036854775808 ≤ n ∧ n ≤ 9223372036854775807) : Calls Try.prog 5 #[v, .int .i64 n] w (Yes w) := by
  obtain ⟨a, cap, rfl, _, _⟩ := hS.form
  have HNN := Lib.hid hn
  clear hn
  by_cases hb1 : 300 < l.length
  · have hb9 : (300 : Int) < (l.length : Int) := by omega
    clear hS hw
    go_enter Try.func5, Try.ntmps5
    go_wp2_with (go_at_call 10; refine Calls.mono (awake_any _) ?_; rintro e1 W1 ⟨rfl, f1⟩)
    go_ret
    exact ⟨rfl, f1⟩
  · have hb8 : ¬ (300 : Int) < (l.length : Int) := by omega
    have HS := Lib.hid hS
    have HW := Lib.hid hw
    have HL := Lib.hid (show l.length ≤ 1000000000 ∧ l.length ≤ 1000000 by omega)
    have HQ := Lib.hid (fun r c (h : LowP l n r c) => lowp_len h)
    clear hS hw hb1
    go_enter Try.func5, Try.ntmps5
    go_wp2_with fail
    refine Calls.mono (CopyX_any _ l _ _ (HS.out.keep0 (Frm.refl [] w)) HL.out.2) ?_
    rintro e1 W1 ⟨vin, sin, rfl, oin, f1, nin⟩
    have N_IN := Lib.hid (fun i (hi : i ∈ blk vin) => Nat.le_trans (Frm.refl [] w).size (nin i hi))
    have FR1 := Lib.hid ((Frm.refl [] w).trans f1 (by simp))
    have IN_1 := Lib.hid oin
    clear f1 oin nin
    go_wp2_with fail
    refine Calls.mono (Lowest_any _ l n _ _ IN_1.out.sl HL.out.1 HW.out HNN.out) ?_
    rintro e2 W2 ⟨r1, d1, k1, vx, px, rfl, ox, f2, nx⟩
    have AP_IN_X1 := Lib.hid (fun i (hi : i ∈ blk vin) (hm : i ∈ blk vx) => (by have h1 := IN_1.out.lt i hi; have h2 := nx i hm; omega : False))
    have N_X1 := Lib.hid (fun i (hi : i ∈ blk vx) => Nat.le_trans FR1.out.size (nx i hi))
    have FR2 := Lib.hid (FR1.out.trans f2 (by simp))
    have IN_2 := Lib.hid (IN_1.out.keep0 f2)
    have X1_2 := Lib.hid ox
    clear f2 IN_1 ox nx FR1
    go_wp2_with fail
    refine Calls.mono (RefLowest_any _ l n _ _ (HS.out.keep0 FR2.out) HL.out.1 HW.out HNN.out) ?_
    rintro e3 W3 ⟨r2, d2, k2, vy, py, rfl, oy, f3, ny⟩
    obtain ⟨rfl, rfl⟩ := k1.eq k2
    have HLX := Lib.hid (HQ.out _ _ k1)
    clear k1 k2 HQ
    have N_X2 := Lib.hid (fun i (hi : i ∈ blk vy) => Nat.le_trans FR2.out.size (ny i hi))
    have FR3 := Lib.hid (FR2.out.trans f3 (by simp))
    have IN_3 := Lib.hid (IN_2.out.keep0 f3)
    have X1_3 := Lib.hid (X1_2.out.keep0 f3)
    have X2_3 := Lib.hid oy
    clear f3 IN_2 X1_2 oy ny FR2
    go_wp2_with fail
    refine Calls.mono (SameX_true _ _ _ _ _ _ X1_3.out.sl X2_3.out.sl HLX.out) ?_
    rintro e4 W4 ⟨rfl, f4⟩
    have FR4 := Lib.hid (FR3.out.trans f4 (by simp))
    have IN_4 := Lib.hid (IN_3.out.keep0 f4)
    have X1_4 := Lib.hid (X1_3.out.keep0 f4)
    have X2_4 := Lib.hid (X2_3.out.keep0 f4)
    clear f4 IN_3 X1_3 X2_3 FR3
    clear X2_4
    go_wp2_with fail
    refine Calls.mono (OverX_any _ _ _ _ X1_4.out HLX.out) ?_
    rintro e5 W5 ⟨rfl, f5⟩
    have FR5 := Lib.hid (FR4.out.trans f5 (fun i hi => .inr (N_X1.out i hi)))
    have IN_5 := Lib.hid (IN_4.out.keep f5 (fun i hi hm => AP_IN_X1.out i hi hm))
    clear f5 IN_4 X1_4 FR4
    go_wp2_with fail
    refine Calls.mono (SameX_true _ _ l _ _ _ IN_5.out.sl (HS.out.keep0 FR5.out) HL.out.2) ?_
    rintro e6 W6 ⟨rfl, f6⟩
    have FR6 := Lib.hid (FR5.out.trans f6 (by simp))
    have IN_6 := Lib.hid (IN_5.out.keep0 f6)
    clear f6 IN_5 FR5
    go_wp2_with fail
    refine Calls.mono (awake_any _) ?_
    rintro e7 W7 ⟨rfl, f7⟩
    have FR7 := Lib.hid (FR6.out.trans f7 (by simp))
    have IN_7 := Lib.hid (IN_6.out.keep0 f7)
    clear f7 IN_6 FR6
    go_wp2_with fail
    go_ret
    exact ⟨rfl, FR7.out⟩
end Go.Proofs.Ytgbgpmdhlocjhaa
