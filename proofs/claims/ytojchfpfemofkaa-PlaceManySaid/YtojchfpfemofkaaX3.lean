/-
  The walk of PlaceMany. No conditions but those that each theorem names.
-/
import Derived.Test.YtojchfpfemofkaaX1
namespace Go.Proofs.Ytojchfpfemofkaa
open Go.RowKit
set_option linter.unusedVariables false
set_option linter.unusedSimpArgs false
set_option maxRecDepth 100000

set_option maxHeartbeats 8000000 in
theorem many_law (v d : Value) (f : List Int) (t : List Bool) (c : Int) (sp dsp : List Value) (w : World) (hS : SlI w v f sp) (hT : SlO w d t dsp) : Calls Try.prog 4 #[v, d, .int .i64 c] w (Yes w) := by
  obtain ⟨a, cap, rfl, _, _⟩ := hS.form
  obtain ⟨a2, cap2, rfl, _, _⟩ := hT.form
  by_cases hb1 : 12 < f.length
  · have hb9 : (12 : Int) < (f.length : Int) := by omega
    clear hS hT
    go_enter Try.func4, Try.ntmps4
    go_wp2_with (go_at_call 8; refine Calls.mono (awake_any _) ?_; rintro e1 W1 ⟨rfl, f1⟩)
    go_ret
    exact ⟨rfl, f1⟩
  have hb8 : ¬ (12 : Int) < (f.length : Int) := by omega
  by_cases hb2 : 12 < t.length
  · have hb9 : (12 : Int) < (t.length : Int) := by omega
    clear hS hT
    go_enter Try.func4, Try.ntmps4
    go_wp2_with (go_at_call 8; refine Calls.mono (awake_any _) ?_; rintro e1 W1 ⟨rfl, f1⟩)
    go_ret
    exact ⟨rfl, f1⟩
  have hb7 : ¬ (12 : Int) < (t.length : Int) := by omega
  have HS := Lib.hid hS
  have HT := Lib.hid hT
  have HL := Lib.hid (show f.length ≤ 1000000 ∧ f.length ≤ 100000 ∧ t.length ≤ 1000000 ∧ t.length ≤ 100000 ∧ f.length ≤ 12 ∧ t.length ≤ 12 by omega)
  clear hS hT hb1 hb2
  go_enter Try.func4, Try.ntmps4
  go_wp2_with fail
  refine Calls.mono (Lent_any _ f _ _ (HS.out.keep0 (Frm.refl [] w)) HL.out.1) ?_
  rintro e1 W1 ⟨gl, rfl, ol, f1, nl⟩
  clear nl
  have FR1 := Lib.hid ((Frm.refl [] w).trans f1 (by simp))
  have LN_1 := Lib.hid ol
  clear f1 ol
  go_wp2_with fail
  refine Calls.mono (LentB_any _ t _ _ (HT.out.keep0 FR1.out) HL.out.2.2.1) ?_
  rintro e2 W2 ⟨gb, rfl, ob, f2, nb⟩
  clear nb
  have FR2 := Lib.hid (FR1.out.trans f2 (by simp))
  have LN_2 := Lib.hid (LN_1.out.keep0 f2)
  have LB_2 := Lib.hid ob
  clear f2 LN_1 ob FR1
  go_wp2_with fail
  refine Calls.mono (Many_any _ _ f t c _ _ _ LN_2.out.sl LB_2.out.sl HL.out.2.2.2.2.1 HL.out.2.2.2.2.2) ?_
  rintro e3 W3 ⟨k1, er1, m1, rfl, f3⟩
  have FR3 := Lib.hid (FR2.out.trans f3 (by simp))
  have LN_3 := Lib.hid (LN_2.out.keep0 f3)
  have LB_3 := Lib.hid (LB_2.out.keep0 f3)
  clear f3 LN_2 LB_2 FR2
  go_wp2_with fail
  refine Calls.mono (RefMany_any _ _ f t c _ _ _ (HS.out.keep0 FR3.out) (HT.out.keep0 FR3.out) HL.out.2.2.2.2.1 HL.out.2.2.2.2.2) ?_
  rintro e4 W4 ⟨k2, er2, m2, rfl, f4⟩
  obtain ⟨rfl, rfl⟩ := m1.eq m2
  clear m1 m2
  have FR4 := Lib.hid (FR3.out.trans f4 (by simp))
  have LN_4 := Lib.hid (LN_3.out.keep0 f4)
  have LB_4 := Lib.hid (LB_3.out.keep0 f4)
  clear f4 LN_3 LB_3 FR3
  go_wp2_with fail
  refine Calls.mono (Kept_true _ _ _ _ f _ _ LN_4.out (HS.out.keep0 FR4.out) HL.out.2.1) ?_
  rintro e5 W5 ⟨rfl, f5⟩
  have FR5 := Lib.hid (FR4.out.trans f5 (by simp))
  have LN_5 := Lib.hid (LN_4.out.keep0 f5)
  have LB_5 := Lib.hid (LB_4.out.keep0 f5)
  clear f5 LN_4 LB_4 FR4
  go_wp2_with fail
  refine Calls.mono (KeptB_true _ _ _ _ t _ _ LB_5.out (HT.out.keep0 FR5.out) HL.out.2.2.2.1) ?_
  rintro e6 W6 ⟨rfl, f6⟩
  have FR6 := Lib.hid (FR5.out.trans f6 (by simp))
  have LN_6 := Lib.hid (LN_5.out.keep0 f6)
  have LB_6 := Lib.hid (LB_5.out.keep0 f6)
  clear f6 LN_5 LB_5 FR5
  go_wp2_with fail
  refine Calls.mono (awake_any _) ?_
  rintro e7 W7 ⟨rfl, f7⟩
  have FR7 := Lib.hid (FR6.out.trans f7 (by simp))
  have LN_7 := Lib.hid (LN_6.out.keep0 f7)
  have LB_7 := Lib.hid (LB_6.out.keep0 f7)
  clear f7 LN_6 LB_6 FR6
  go_wp2_with fail
  go_ret
  exact ⟨rfl, FR7.out⟩
end Go.Proofs.Ytojchfpfemofkaa
