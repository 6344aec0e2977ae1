/-
  The walk of awake. No conditions but those that each theorem names.
-/
import Derived.Test.YtojchfpfemofkaaX0
namespace Go.Proofs.Ytojchfpfemofkaa
open Go.RowKit
set_option linter.unusedVariables false
set_option linter.unusedSimpArgs false
set_option maxRecDepth 100000

theorem mn_a : MnR [3, 5, 5] (List.replicate 3 true) 2 6 0 := .inr ⟨fine_iff.1 (by kernel_rfl), ⟨[0, 0, 1], by kernel_rfl, by kernel_rfl⟩, rfl⟩
theorem mn_b : MnR [1, 1] (List.replicate 2 true) 2 1 0 := .inr ⟨fine_iff.1 (by kernel_rfl), ⟨[0, 0], by kernel_rfl, by kernel_rfl⟩, rfl⟩
set_option maxHeartbeats 8000000 in
theorem awake_any (w : World) : Calls Try.prog 8 #[] w (Yes w) := by
  go_enter Try.func8, Try.ntmps8
  have A_1 := Lib.hid (sli_lit w [3, 5, 5] (n := 3) (cs := #[.int .i64 3, .int .i64 5, .int .i64 5]) rfl rfl (by omega))
  have FR1 := Lib.hid ((Frm.refl [] w).alloc (.cells #[.int .i64 3, .int .i64 5, .int .i64 5] 3))
  go_wp2_with fail
  refine Calls.mono (all_any 3 (by omega) _) ?_
  rintro e2 W2 ⟨vT, pT, rfl, oT, f2, nT⟩
  clear nT
  have FR2 := Lib.hid (FR1.out.trans f2 (by simp))
  have A_2 := Lib.hid (A_1.out.keep0 f2)
  have T_2 := Lib.hid oT.sl
  clear f2 A_1 FR1
  go_wp2_with fail
  refine Calls.mono (Many_any _ _ [3, 5, 5] (List.replicate 3 true) 2 _ _ _ A_2.out T_2.out (by decide) (by decide)) ?_
  rintro e3 W3 ⟨kk, er, mm, rfl, f3⟩
  obtain ⟨rfl, rfl⟩ := mm.eq mn_a
  clear mm
  have FR3 := Lib.hid (FR2.out.trans f3 (by simp))
  have A_3 := Lib.hid (A_2.out.keep0 f3)
  have T_3 := Lib.hid (T_2.out.keep0 f3)
  clear f3 A_2 T_2 FR2
  clear A_3
  clear T_3
  have B_4 := Lib.hid (sli_lit W3 [3, 5, 5] (n := 3) (cs := #[.int .i64 3, .int .i64 5, .int .i64 5]) rfl rfl (by omega))
  have FR4 := Lib.hid (FR3.out.alloc (.cells #[.int .i64 3, .int .i64 5, .int .i64 5] 3))
  clear FR3
  go_wp2_with fail
  refine Calls.mono (all_any 3 (by omega) _) ?_
  rintro e5 W5 ⟨vU, pU, rfl, oU, f5, nU⟩
  clear nU
  have FR5 := Lib.hid (FR4.out.trans f5 (by simp))
  have B_5 := Lib.hid (B_4.out.keep0 f5)
  have U_5 := Lib.hid oU.sl
  clear f5 B_4 FR4
  have B_6 := Lib.hid (B_5.out.keep0 ((Frm.refl [] W5).alloc (.cells #[.int .i64 1, .int .i64 2] 3)))
  have U_6 := Lib.hid (U_5.out.keep0 ((Frm.refl [] W5).alloc (.cells #[.int .i64 1, .int .i64 2] 3)))
  have X_6 := Lib.hid (sli_lit W5 [1, 2] (n := 2) (cs := #[.int .i64 1, .int .i64 2]) rfl rfl (by omega))
  have FR6 := Lib.hid (FR5.out.alloc (.cells #[.int .i64 1, .int .i64 2] 3))
  clear B_5 U_5 FR5
  go_wp2_with fail
  refine Calls.mono (is_true _ _ _ [3, 5, 5] (List.replicate 3 true) 2 [1, 2] [1, 2] _ _ _ _ B_6.out U_6.out X_6.out (by decide) (by decide) (by kernel_rfl) rfl (by decide)) ?_
  rintro e7 W7 ⟨rfl, f7⟩
  have FR7 := Lib.hid (FR6.out.trans f7 (by simp))
  have B_7 := Lib.hid (B_6.out.keep0 f7)
  have U_7 := Lib.hid (U_6.out.keep0 f7)
  have X_7 := Lib.hid (X_6.out.keep0 f7)
  clear f7 B_6 U_6 X_6 FR6
  clear B_7
  clear U_7
  clear X_7
  have C_8 := Lib.hid (sli_lit W7 [3, 5, 5] (n := 3) (cs := #[.int .i64 3, .int .i64 5, .int .i64 5]) rfl rfl (by omega))
  have FR8 := Lib.hid (FR7.out.alloc (.cells #[.int .i64 3, .int .i64 5, .int .i64 5] 3))
  clear FR7
  go_wp2_with fail
  refine Calls.mono (all_any 3 (by omega) _) ?_
  rintro e9 W9 ⟨vV, pV, rfl, oV, f9, nV⟩
  clear nV
  have FR9 := Lib.hid (FR8.out.trans f9 (by simp))
  have C_9 := Lib.hid (C_8.out.keep0 f9)
  have V_9 := Lib.hid oV.sl
  clear f9 C_8 FR8
  have C_10 := Lib.hid (C_9.out.keep0 ((Frm.refl [] W9).alloc (.cells #[.int .i64 1, .int .i64 2, .int .i64 0] 3)))
  have V_10 := Lib.hid (V_9.out.keep0 ((Frm.refl [] W9).alloc (.cells #[.int .i64 1, .int .i64 2, .int .i64 0] 3)))
  have Y_10 := Lib.hid (sli_lit W9 [1, 2, 0] (n := 3) (cs := #[.int .i64 1, .int .i64 2, .int .i64 0]) rfl rfl (by omega))
  have FR10 := Lib.hid (FR9.out.alloc (.cells #[.int .i64 1, .int .i64 2, .int .i64 0] 3))
  clear C_9 V_9 FR9
  go_wp2_with fail
  refine Calls.mono (is_true _ _ _ [3, 5, 5] (List.replicate 3 true) 3 [1, 2, 0] [1, 2, 0] _ _ _ _ C_10.out V_10.out Y_10.out (by decide) (by decide) (by kernel_rfl) rfl (by decide)) ?_
  rintro e11 W11 ⟨rfl, f11⟩
  have FR11 := Lib.hid (FR10.out.trans f11 (by simp))
  have C_11 := Lib.hid (C_10.out.keep0 f11)
  have V_11 := Lib.hid (V_10.out.keep0 f11)
  have Y_11 := Lib.hid (Y_10.out.keep0 f11)
  clear f11 C_10 V_10 Y_10 FR10
  clear C_11
  clear V_11
  clear Y_11
  have D_12 := Lib.hid (sli_lit W11 [0, 5, 5] (n := 3) (cs := #[.int .i64 0, .int .i64 5, .int .i64 5]) rfl rfl (by omega))
  have FR12 := Lib.hid (FR11.out.alloc (.cells #[.int .i64 0, .int .i64 5, .int .i64 5] 3))
  clear FR11
  go_wp2_with fail
  refine Calls.mono (all_any 3 (by omega) _) ?_
  rintro e13 W13 ⟨vQ, pQ, rfl, oQ, f13, nQ⟩
  clear nQ
  have FR13 := Lib.hid (FR12.out.trans f13 (by simp))
  have D_13 := Lib.hid (D_12.out.keep0 f13)
  have Q_13 := Lib.hid oQ.sl
  clear f13 D_12 FR12
  go_wp2_with fail
  refine Calls.mono (full_true _ _ [0, 5, 5] (List.replicate 3 true) 3 _ _ _ D_13.out Q_13.out (by decide) (by decide) (by kernel_rfl)) ?_
  rintro e14 W14 ⟨rfl, f14⟩
  have FR14 := Lib.hid (FR13.out.trans f14 (by simp))
  have D_14 := Lib.hid (D_13.out.keep0 f14)
  have Q_14 := Lib.hid (Q_13.out.keep0 f14)
  clear f14 D_13 Q_13 FR13
  clear D_14
  clear Q_14
  go_wp2_with fail
  go_ret
  exact ⟨rfl, FR14.out⟩
end Go.Proofs.Ytojchfpfemofkaa
