/-
  The walk of PlaceKnown. No conditions but those that each theorem names.
-/
import Derived.Test.YtojchfpfemofkaaX1
namespace Go.Proofs.Ytojchfpfemofkaa
open Go.RowKit
set_option linter.unusedVariables false
set_option linter.unusedSimpArgs false
set_option maxRecDepth 100000

set_option maxHeartbeats 8000000 in
theorem known_any (w : World) : Calls Try.prog 5 #[] w (Yes w) := by
  go_enter Try.func5, Try.ntmps5
  have T_1 := Lib.hid (slo_lit w [true, true, false] (n := 3) (cs := #[.bool true, .bool true, .bool false]) rfl rfl (by omega))
  have FR1 := Lib.hid ((Frm.refl [] w).alloc (.cells #[.bool true, .bool true, .bool false] 4))
  have T_2 := Lib.hid (T_1.out.keep0 ((Frm.refl [] (w.alloc (.cells #[.bool true, .bool true, .bool false] 4))).alloc (.cells #[.int .i64 3, .int .i64 5, .int .i64 5] 3)))
  have A_2 := Lib.hid (show SlI ((w.alloc (.cells #[.bool true, .bool true, .bool false] 4)).alloc (.cells #[.int .i64 3, .int .i64 5, .int .i64 5] 3)) (.slice (some ⟨w.heap.size + 1, 0, none⟩) 3 3) [3, 5, 5] [] by have := sli_lit (w.alloc (.cells #[.bool true, .bool true, .bool false] 4)) [3, 5, 5] (n := 3) (cs := #[.int .i64 3, .int .i64 5, .int .i64 5]) rfl rfl (by omega); simp only [size_alloc] at this; exact this)
  have FR2 := Lib.hid (FR1.out.alloc (.cells #[.int .i64 3, .int .i64 5, .int .i64 5] 3))
  clear T_1 FR1
  have T_3 := Lib.hid (T_2.out.keep0 ((Frm.refl [] ((w.alloc (.cells #[.bool true, .bool true, .bool false] 4)).alloc (.cells #[.int .i64 3, .int .i64 5, .int .i64 5] 3))).alloc (.cells #[.int .i64 1, .int .i64 0] 3)))
  have A_3 := Lib.hid (A_2.out.keep0 ((Frm.refl [] ((w.alloc (.cells #[.bool true, .bool true, .bool false] 4)).alloc (.cells #[.int .i64 3, .int .i64 5, .int .i64 5] 3))).alloc (.cells #[.int .i64 1, .int .i64 0] 3)))
  have X_3 := Lib.hid (show SlI (((w.alloc (.cells #[.bool true, .bool true, .bool false] 4)).alloc (.cells #[.int .i64 3, .int .i64 5, .int .i64 5] 3)).alloc (.cells #[.int .i64 1, .int .i64 0] 3)) (.slice (some ⟨w.heap.size + 1 + 1, 0, none⟩) 2 2) [1, 0] [] by have := sli_lit ((w.alloc (.cells #[.bool true, .bool true, .bool false] 4)).alloc (.cells #[.int .i64 3, .int .i64 5, .int .i64 5] 3)) [1, 0] (n := 2) (cs := #[.int .i64 1, .int .i64 0]) rfl rfl (by omega); simp only [size_alloc] at this; exact this)
  have FR3 := Lib.hid (FR2.out.alloc (.cells #[.int .i64 1, .int .i64 0] 3))
  clear T_2 A_2 FR2
  go_wp2_with fail
  refine Calls.mono (is_true _ _ _ [3, 5, 5] [true, true, false] 3 [1, 0] [1, 0] _ _ _ _ A_3.out T_3.out X_3.out (by decide) (by decide) (by kernel_rfl) rfl (by decide)) ?_
  rintro e4 W4 ⟨rfl, f4⟩
  have FR4 := Lib.hid (FR3.out.trans f4 (by simp))
  have T_4 := Lib.hid (T_3.out.keep0 f4)
  have A_4 := Lib.hid (A_3.out.keep0 f4)
  have X_4 := Lib.hid (X_3.out.keep0 f4)
  clear f4 T_3 A_3 X_3 FR3
  clear A_4
  clear X_4
  have T_5 := Lib.hid (T_4.out.keep0 ((Frm.refl [] W4).alloc (.cells #[.int .i64 3, .int .i64 0, .int .i64 5] 3)))
  have B_5 := Lib.hid (sli_lit W4 [3, 0, 5] (n := 3) (cs := #[.int .i64 3, .int .i64 0, .int .i64 5]) rfl rfl (by omega))
  have FR5 := Lib.hid (FR4.out.alloc (.cells #[.int .i64 3, .int .i64 0, .int .i64 5] 3))
  clear T_4 FR4
  go_wp2_with fail
  refine Calls.mono (full_true _ _ [3, 0, 5] [true, true, false] 2 _ _ _ B_5.out T_5.out (by decide) (by decide) (by kernel_rfl)) ?_
  rintro e6 W6 ⟨rfl, f6⟩
  have FR6 := Lib.hid (FR5.out.trans f6 (by simp))
  have T_6 := Lib.hid (T_5.out.keep0 f6)
  have B_6 := Lib.hid (B_5.out.keep0 f6)
  clear f6 T_5 B_5 FR5
  clear B_6
  clear T_6
  have C_7 := Lib.hid (sli_lit W6 [3, 5] (n := 2) (cs := #[.int .i64 3, .int .i64 5]) rfl rfl (by omega))
  have FR7 := Lib.hid (FR6.out.alloc (.cells #[.int .i64 3, .int .i64 5] 3))
  clear FR6
  have C_8 := Lib.hid (C_7.out.keep0 ((Frm.refl [] (W6.alloc (.cells #[.int .i64 3, .int .i64 5] 3))).alloc (.cells #[.bool false, .bool false] 4)))
  have N_8 := Lib.hid (show SlO ((W6.alloc (.cells #[.int .i64 3, .int .i64 5] 3)).alloc (.cells #[.bool false, .bool false] 4)) (.slice (some ⟨W6.heap.size + 1, 0, none⟩) 2 2) [false, false] [] by have := slo_lit (W6.alloc (.cells #[.int .i64 3, .int .i64 5] 3)) [false, false] (n := 2) (cs := #[.bool false, .bool false]) rfl rfl (by omega); simp only [size_alloc] at this; exact this)
  have FR8 := Lib.hid (FR7.out.alloc (.cells #[.bool false, .bool false] 4))
  clear C_7 FR7
  go_wp2_with fail
  refine Calls.mono (full_true _ _ [3, 5] [false, false] 1 _ _ _ C_8.out N_8.out (by decide) (by decide) (by kernel_rfl)) ?_
  rintro e9 W9 ⟨rfl, f9⟩
  have FR9 := Lib.hid (FR8.out.trans f9 (by simp))
  have C_9 := Lib.hid (C_8.out.keep0 f9)
  have N_9 := Lib.hid (N_8.out.keep0 f9)
  clear f9 C_8 N_8 FR8
  clear C_9
  clear N_9
  have D_10 := Lib.hid (sli_lit W9 [1, 1] (n := 2) (cs := #[.int .i64 1, .int .i64 1]) rfl rfl (by omega))
  have FR10 := Lib.hid (FR9.out.alloc (.cells #[.int .i64 1, .int .i64 1] 3))
  clear FR9
  go_wp2_with fail
  refine Calls.mono (all_any 2 (by omega) _) ?_
  rintro e11 W11 ⟨vU, pU, rfl, oU, f11, nU⟩
  clear nU
  have FR11 := Lib.hid (FR10.out.trans f11 (by simp))
  have D_11 := Lib.hid (D_10.out.keep0 f11)
  have U_11 := Lib.hid oU.sl
  clear f11 D_10 FR10
  go_wp2_with fail
  refine Calls.mono (Many_any _ _ [1, 1] (List.replicate 2 true) 2 _ _ _ D_11.out U_11.out (by decide) (by decide)) ?_
  rintro e12 W12 ⟨kk, er, mm, rfl, f12⟩
  obtain ⟨rfl, rfl⟩ := mm.eq mn_b
  clear mm
  have FR12 := Lib.hid (FR11.out.trans f12 (by simp))
  have D_12 := Lib.hid (D_11.out.keep0 f12)
  have U_12 := Lib.hid (U_11.out.keep0 f12)
  clear f12 D_11 U_11 FR11
  clear D_12
  clear U_12
  go_wp2_with fail
  refine Calls.mono (awake_any _) ?_
  rintro e13 W13 ⟨rfl, f13⟩
  have FR13 := Lib.hid (FR12.out.trans f13 (by simp))
  clear f13 FR12
  have E_14 := Lib.hid (sli_lit W13 [3] (n := 1) (cs := #[.int .i64 3]) rfl rfl (by omega))
  have FR14 := Lib.hid (FR13.out.alloc (.cells #[.int .i64 3] 3))
  clear FR13
  go_wp2_with fail
  refine Calls.mono (all_any 1 (by omega) _) ?_
  rintro e15 W15 ⟨vV, pV, rfl, oV, f15, nV⟩
  clear nV
  have FR15 := Lib.hid (FR14.out.trans f15 (by simp))
  have E_15 := Lib.hid (E_14.out.keep0 f15)
  have V_15 := Lib.hid oV.sl
  clear f15 E_14 FR14
  go_wp2_with fail
  have hck16 := Check_any _ _ [3] (List.replicate 1 true) 1 _ _ _ E_15.out V_15.out (by decide) (by decide)
  rw [show chkC [3] (List.replicate 1 true) 1 = 2 by kernel_rfl] at hck16
  refine Calls.mono hck16 ?_
  rintro e16 W16 ⟨rfl, rfl⟩
  clear hck16
  clear E_15
  clear V_15
  have F_17 := Lib.hid (sli_lit W16 [3, 5] (n := 2) (cs := #[.int .i64 3, .int .i64 5]) rfl rfl (by omega))
  have FR17 := Lib.hid (FR15.out.alloc (.cells #[.int .i64 3, .int .i64 5] 3))
  clear FR15
  go_wp2_with fail
  refine Calls.mono (all_any 2 (by omega) _) ?_
  rintro e18 W18 ⟨vQ, pQ, rfl, oQ, f18, nQ⟩
  clear nQ
  have FR18 := Lib.hid (FR17.out.trans f18 (by simp))
  have F_18 := Lib.hid (F_17.out.keep0 f18)
  have Q_18 := Lib.hid oQ.sl
  clear f18 F_17 FR17
  go_wp2_with fail
  have hck19 := Check_any _ _ [3, 5] (List.replicate 2 true) 4 _ _ _ F_18.out Q_18.out (by decide) (by decide)
  rw [show chkC [3, 5] (List.replicate 2 true) 4 = 2 by kernel_rfl] at hck19
  refine Calls.mono hck19 ?_
  rintro e19 W19 ⟨rfl, rfl⟩
  clear hck19
  clear F_18
  clear Q_18
  go_wp2_with fail
  go_ret
  exact ⟨rfl, FR18.out⟩
end Go.Proofs.Ytojchfpfemofkaa
