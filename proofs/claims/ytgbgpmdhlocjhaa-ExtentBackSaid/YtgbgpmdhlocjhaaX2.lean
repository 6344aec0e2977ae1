/-
  The walk of ExtentKnown. No conditions but those that each theorem names.
-/
import Derived.Test.YtgbgpmdhlocjhaaX1
namespace Go.Proofs.Ytgbgpmdhlocjhaa
open Go.RowKit
set_option linter.unusedVariables false
set_option linter.unusedSimpArgs false
set_option maxRecDepth 100000

set_option maxHeartbeats 16000000 in
theorem known_any (w : World) : Calls Try.prog 6 #[] w (Yes w) := by
  go_enter Try.func6, Try.ntmps6
  go_wp2_with fail
  refine Calls.mono (lit_of [(3, 2), (6, 1)] rfl rfl (by decide)) ?_
  rintro e1 W1 ⟨vA0, sA0, rfl, oA0, f1, nA0⟩
  have g1 : Frm [] w W1 := ((Frm.refl [] w).alloc (.cells #[.int .i64 3, .int .i64 2, .int .i64 6, .int .i64 1] 3)).trans f1 (by simp)
  have FR1 := Lib.hid ((Frm.refl [] w).trans g1 (by simp))
  have A0_1 := Lib.hid oA0
  clear f1 g1 oA0
  clear nA0
  go_wp2_with fail
  refine Calls.mono (chk_ex [(3, 2), (6, 1)] 0 (by decide) (by decide) (by decide) A0_1.out.sl) ?_
  rintro e2 W2 ⟨rfl, f2⟩
  have g2 : Frm [] W1 W2 := f2
  have FR2 := Lib.hid (FR1.out.trans g2 (by simp))
  have A0_2 := Lib.hid (A0_1.out.keep0 g2)
  clear f2 g2 A0_1 FR1
  clear A0_2
  go_wp2_with fail
  refine Calls.mono (lit_of [(4, 1), (3, 1)] rfl rfl (by decide)) ?_
  rintro e3 W3 ⟨vA2, sA2, rfl, oA2, f3, nA2⟩
  have g3 : Frm [] W2 W3 := ((Frm.refl [] W2).alloc (.cells #[.int .i64 4, .int .i64 1, .int .i64 3, .int .i64 1] 3)).trans f3 (by simp)
  have FR3 := Lib.hid (FR2.out.trans g3 (by simp))
  have A2_3 := Lib.hid oA2
  clear f3 g3 oA2 FR2
  clear nA2
  go_wp2_with fail
  refine Calls.mono (chk_ex [(4, 1), (3, 1)] 2 (by decide) (by decide) (by decide) A2_3.out.sl) ?_
  rintro e4 W4 ⟨rfl, f4⟩
  have g4 : Frm [] W3 W4 := f4
  have FR4 := Lib.hid (FR3.out.trans g4 (by simp))
  have A2_4 := Lib.hid (A2_3.out.keep0 g4)
  clear f4 g4 A2_3 FR3
  clear A2_4
  go_wp2_with fail
  refine Calls.mono (lit_of [(4095, 1)] rfl rfl (by decide)) ?_
  rintro e5 W5 ⟨vA4, sA4, rfl, oA4, f5, nA4⟩
  have g5 : Frm [] W4 W5 := ((Frm.refl [] W4).alloc (.cells #[.int .i64 4095, .int .i64 1] 3)).trans f5 (by simp)
  have FR5 := Lib.hid (FR4.out.trans g5 (by simp))
  have A4_5 := Lib.hid oA4
  clear f5 g5 oA4 FR4
  clear nA4
  go_wp2_with fail
  refine Calls.mono (chk_ex [(4095, 1)] 0 (by decide) (by decide) (by decide) A4_5.out.sl) ?_
  rintro e6 W6 ⟨rfl, f6⟩
  have g6 : Frm [] W5 W6 := f6
  have FR6 := Lib.hid (FR5.out.trans g6 (by simp))
  have A4_6 := Lib.hid (A4_5.out.keep0 g6)
  clear f6 g6 A4_5 FR5
  clear A4_6
  go_wp2_with fail
  refine Calls.mono (lit_of [(4095, 2)] rfl rfl (by decide)) ?_
  rintro e7 W7 ⟨vA6, sA6, rfl, oA6, f7, nA6⟩
  have g7 : Frm [] W6 W7 := ((Frm.refl [] W6).alloc (.cells #[.int .i64 4095, .int .i64 2] 3)).trans f7 (by simp)
  have FR7 := Lib.hid (FR6.out.trans g7 (by simp))
  have A6_7 := Lib.hid oA6
  clear f7 g7 oA6 FR6
  clear nA6
  go_wp2_with fail
  refine Calls.mono (chk_ex [(4095, 2)] 2 (by decide) (by decide) (by decide) A6_7.out.sl) ?_
  rintro e8 W8 ⟨rfl, f8⟩
  have g8 : Frm [] W7 W8 := f8
  have FR8 := Lib.hid (FR7.out.trans g8 (by simp))
  have A6_8 := Lib.hid (A6_7.out.keep0 g8)
  clear f8 g8 A6_7 FR7
  clear A6_8
  go_wp2_with fail
  refine Calls.mono (lit_of [(5, 0)] rfl rfl (by decide)) ?_
  rintro e9 W9 ⟨vA8, sA8, rfl, oA8, f9, nA8⟩
  have g9 : Frm [] W8 W9 := ((Frm.refl [] W8).alloc (.cells #[.int .i64 5, .int .i64 0] 3)).trans f9 (by simp)
  have FR9 := Lib.hid (FR8.out.trans g9 (by simp))
  have A8_9 := Lib.hid oA8
  clear f9 g9 oA8 FR8
  clear nA8
  go_wp2_with fail
  refine Calls.mono (chk_ex [(5, 0)] 2 (by decide) (by decide) (by decide) A8_9.out.sl) ?_
  rintro e10 W10 ⟨rfl, f10⟩
  have g10 : Frm [] W9 W10 := f10
  have FR10 := Lib.hid (FR9.out.trans g10 (by simp))
  have A8_10 := Lib.hid (A8_9.out.keep0 g10)
  clear f10 g10 A8_9 FR9
  clear A8_10
  go_wp2_with fail
  refine Calls.mono (lit_of [(3, 2), (6, 1)] rfl rfl (by decide)) ?_
  rintro e11 W11 ⟨vB, sB, rfl, oB, f11, nB⟩
  have g11 : Frm [] W10 W11 := ((Frm.refl [] W10).alloc (.cells #[.int .i64 3, .int .i64 2, .int .i64 6, .int .i64 1] 3)).trans f11 (by simp)
  have FR11 := Lib.hid (FR10.out.trans g11 (by simp))
  have B_11 := Lib.hid oB
  clear f11 g11 oB FR10
  clear nB
  go_wp2_with fail
  refine Calls.mono (list_ex [(3, 2), (6, 1)] [3, 4, 6] 0 eg3 (by decide) (by decide) B_11.out.sl) ?_
  rintro e12 W12 ⟨vS, sS, rfl, oS, f12, nS⟩
  have g12 : Frm [] W11 W12 := f12
  have FR12 := Lib.hid (FR11.out.trans g12 (by simp))
  have B_12 := Lib.hid (B_11.out.keep0 g12)
  have S_12 := Lib.hid oS
  clear f12 g12 B_11 oS FR11
  clear nS
  clear B_12
  go_wp2_with fail
  refine Calls.mono (lit_ofI [4096] [] 2 eg4 rfl rfl (by decide)) ?_
  rintro e13 W13 ⟨vZ, sZ, rfl, oZ, f13, nZ⟩
  have g13 : Frm [] W12 W13 := ((Frm.refl [] W12).alloc (.cells #[.int .i64 4096] 3)).trans f13 (by simp)
  have FR13 := Lib.hid (FR12.out.trans g13 (by simp))
  have S_13 := Lib.hid (S_12.out.keep0 g13)
  have Z_13 := Lib.hid oZ
  clear f13 g13 S_12 oZ FR12
  clear nZ
  clear Z_13
  go_wp2_with fail
  refine Calls.mono (lit_of [(3, 5)] rfl rfl (by decide)) ?_
  rintro e14 W14 ⟨vC, sC, rfl, oC, f14, nC⟩
  have g14 : Frm [] W13 W14 := ((Frm.refl [] W13).alloc (.cells #[.int .i64 3, .int .i64 5] 3)).trans f14 (by simp)
  have FR14 := Lib.hid (FR13.out.trans g14 (by simp))
  have S_14 := Lib.hid (S_13.out.keep0 g14)
  have C_14 := Lib.hid oC
  clear f14 g14 S_13 oC FR13
  clear nC
  go_wp2_with fail
  refine Calls.mono (lit_of [(5, 1)] rfl rfl (by decide)) ?_
  rintro e15 W15 ⟨vD, sD, rfl, oD, f15, nD⟩
  have g15 : Frm [] W14 W15 := ((Frm.refl [] W14).alloc (.cells #[.int .i64 5, .int .i64 1] 3)).trans f15 (by simp)
  have FR15 := Lib.hid (FR14.out.trans g15 (by simp))
  have S_15 := Lib.hid (S_14.out.keep0 g15)
  have C_15 := Lib.hid (C_14.out.keep0 g15)
  have D_15 := Lib.hid oD
  clear f15 g15 S_14 C_14 oD FR14
  clear nD
  go_wp2_with fail
  refine Calls.mono (mk_ex (Cut_any _ _ [(3, 5)] [(5, 1)] _ _ _ C_15.out.sl (by decide) (sm_all (by decide)) D_15.out.sl (by decide) (sm_all (by decide))) eg5) ?_
  rintro e16 W16 ⟨vE, sE, rfl, oE, f16, nE⟩
  have g16 : Frm [] W15 W16 := f16
  have FR16 := Lib.hid (FR15.out.trans g16 (by simp))
  have S_16 := Lib.hid (S_15.out.keep0 g16)
  have C_16 := Lib.hid (C_15.out.keep0 g16)
  have D_16 := Lib.hid (D_15.out.keep0 g16)
  have E_16 := Lib.hid oE
  clear f16 g16 S_15 C_15 D_15 oE FR15
  clear nE
  clear C_16
  clear D_16
  go_wp2_with fail
  refine Calls.mono (lit_of [(3, 5)] rfl rfl (by decide)) ?_
  rintro e17 W17 ⟨vC2, sC2, rfl, oC2, f17, nC2⟩
  have g17 : Frm [] W16 W17 := ((Frm.refl [] W16).alloc (.cells #[.int .i64 3, .int .i64 5] 3)).trans f17 (by simp)
  have FR17 := Lib.hid (FR16.out.trans g17 (by simp))
  have S_17 := Lib.hid (S_16.out.keep0 g17)
  have E_17 := Lib.hid (E_16.out.keep0 g17)
  have C2_17 := Lib.hid oC2
  clear f17 g17 S_16 E_16 oC2 FR16
  clear nC2
  go_wp2_with fail
  refine Calls.mono (lit_of [(0, 4), (6, 9)] rfl rfl (by decide)) ?_
  rintro e18 W18 ⟨vD2, sD2, rfl, oD2, f18, nD2⟩
  have g18 : Frm [] W17 W18 := ((Frm.refl [] W17).alloc (.cells #[.int .i64 0, .int .i64 4, .int .i64 6, .int .i64 9] 3)).trans f18 (by simp)
  have FR18 := Lib.hid (FR17.out.trans g18 (by simp))
  have S_18 := Lib.hid (S_17.out.keep0 g18)
  have E_18 := Lib.hid (E_17.out.keep0 g18)
  have C2_18 := Lib.hid (C2_17.out.keep0 g18)
  have D2_18 := Lib.hid oD2
  clear f18 g18 S_17 E_17 C2_17 oD2 FR17
  clear nD2
  go_wp2_with fail
  refine Calls.mono (mk_ex (Both_any _ _ [(3, 5)] [(0, 4), (6, 9)] _ _ _ C2_18.out.sl (by decide) (sm_all (by decide)) D2_18.out.sl (by decide) (sm_all (by decide))) eg6) ?_
  rintro e19 W19 ⟨vK, sK, rfl, oK, f19, nK⟩
  have g19 : Frm [] W18 W19 := f19
  have FR19 := Lib.hid (FR18.out.trans g19 (by simp))
  have S_19 := Lib.hid (S_18.out.keep0 g19)
  have E_19 := Lib.hid (E_18.out.keep0 g19)
  have C2_19 := Lib.hid (C2_18.out.keep0 g19)
  have D2_19 := Lib.hid (D2_18.out.keep0 g19)
  have K_19 := Lib.hid oK
  clear f19 g19 S_18 E_18 C2_18 D2_18 oK FR18
  clear nK
  clear C2_19
  clear D2_19
  go_wp2_with fail
  refine Calls.mono (SameI_true _ _ [3, 4, 6] _ [] _ (S_19.out.sl.keep0 ((Frm.refl [] _).alloc _)) (sli_lit (heap_alloc_new _ _) rfl (by decide)) (by decide)) ?_
  rintro e20 W20 ⟨rfl, f20⟩
  have g20 : Frm [] W19 W20 := ((Frm.refl [] W19).alloc (.cells #[.int .i64 3, .int .i64 4, .int .i64 6] 3)).trans f20 (by simp)
  have FR20 := Lib.hid (FR19.out.trans g20 (by simp))
  have S_20 := Lib.hid (S_19.out.keep0 g20)
  have E_20 := Lib.hid (E_19.out.keep0 g20)
  have K_20 := Lib.hid (K_19.out.keep0 g20)
  clear f20 g20 S_19 E_19 K_19 FR19
  clear S_20
  go_wp2_with fail
  refine Calls.mono (lit_is [(3, 2), (6, 2)] rfl rfl (by decide) E_20.out.sl) ?_
  rintro e21 W21 ⟨rfl, f21⟩
  have g21 : Frm [] W20 W21 := ((Frm.refl [] W20).alloc (.cells #[.int .i64 3, .int .i64 2, .int .i64 6, .int .i64 2] 3)).trans f21 (by simp)
  have FR21 := Lib.hid (FR20.out.trans g21 (by simp))
  have E_21 := Lib.hid (E_20.out.keep0 g21)
  have K_21 := Lib.hid (K_20.out.keep0 g21)
  clear f21 g21 E_20 K_20 FR20
  clear E_21
  go_wp2_with fail
  refine Calls.mono (lit_is [(3, 1), (6, 2)] rfl rfl (by decide) K_21.out.sl) ?_
  rintro e22 W22 ⟨rfl, f22⟩
  have g22 : Frm [] W21 W22 := ((Frm.refl [] W21).alloc (.cells #[.int .i64 3, .int .i64 1, .int .i64 6, .int .i64 2] 3)).trans f22 (by simp)
  have FR22 := Lib.hid (FR21.out.trans g22 (by simp))
  have K_22 := Lib.hid (K_21.out.keep0 g22)
  clear f22 g22 K_21 FR21
  clear K_22
  go_wp2_with fail
  refine Calls.mono (lit_of [(3, 2), (6, 4)] rfl rfl (by decide)) ?_
  rintro e23 W23 ⟨vP, sP, rfl, oP, f23, nP⟩
  have g23 : Frm [] W22 W23 := ((Frm.refl [] W22).alloc (.cells #[.int .i64 3, .int .i64 2, .int .i64 6, .int .i64 4] 3)).trans f23 (by simp)
  have FR23 := Lib.hid (FR22.out.trans g23 (by simp))
  have P_23 := Lib.hid oP
  clear f23 g23 oP FR22
  clear nP
  go_wp2_with fail
  refine Calls.mono (low_ex [(3, 2), (6, 4)] 3 [(3, 2), (6, 1)] 0 eg7 (by decide) (by decide) (by decide) P_23.out.sl) ?_
  rintro e24 W24 ⟨vQ, sQ, rfl, oQ, f24, nQ⟩
  have g24 : Frm [] W23 W24 := f24
  have FR24 := Lib.hid (FR23.out.trans g24 (by simp))
  have P_24 := Lib.hid (P_23.out.keep0 g24)
  have Q_24 := Lib.hid oQ
  clear f24 g24 P_23 oQ FR23
  clear nQ
  clear P_24
  go_wp2_with fail
  refine Calls.mono (lit_of [(3, 2)] rfl rfl (by decide)) ?_
  rintro e25 W25 ⟨vP2, sP2, rfl, oP2, f25, nP2⟩
  have g25 : Frm [] W24 W25 := ((Frm.refl [] W24).alloc (.cells #[.int .i64 3, .int .i64 2] 3)).trans f25 (by simp)
  have FR25 := Lib.hid (FR24.out.trans g25 (by simp))
  have Q_25 := Lib.hid (Q_24.out.keep0 g25)
  have P2_25 := Lib.hid oP2
  clear f25 g25 Q_24 oP2 FR24
  clear nP2
  go_wp2_with fail
  refine Calls.mono (low_ex [(3, 2)] 3 [] 8 eg8 (by decide) (by decide) (by decide) P2_25.out.sl) ?_
  rintro e26 W26 ⟨vQ2, sQ2, rfl, oQ2, f26, nQ2⟩
  have g26 : Frm [] W25 W26 := f26
  have FR26 := Lib.hid (FR25.out.trans g26 (by simp))
  have Q_26 := Lib.hid (Q_25.out.keep0 g26)
  have P2_26 := Lib.hid (P2_25.out.keep0 g26)
  have Q2_26 := Lib.hid oQ2
  clear f26 g26 Q_25 P2_25 oQ2 FR25
  clear nQ2
  clear P2_26
  clear Q2_26
  go_wp2_with fail
  refine Calls.mono (lit_of [(3, 2)] rfl rfl (by decide)) ?_
  rintro e27 W27 ⟨vP3, sP3, rfl, oP3, f27, nP3⟩
  have g27 : Frm [] W26 W27 := ((Frm.refl [] W26).alloc (.cells #[.int .i64 3, .int .i64 2] 3)).trans f27 (by simp)
  have FR27 := Lib.hid (FR26.out.trans g27 (by simp))
  have Q_27 := Lib.hid (Q_26.out.keep0 g27)
  have P3_27 := Lib.hid oP3
  clear f27 g27 Q_26 oP3 FR26
  clear nP3
  go_wp2_with fail
  refine Calls.mono (low_ex [(3, 2)] 0 [] 0 eg9 (by decide) (by decide) (by decide) P3_27.out.sl) ?_
  rintro e28 W28 ⟨vR, sR, rfl, oR, f28, nR⟩
  have g28 : Frm [] W27 W28 := f28
  have FR28 := Lib.hid (FR27.out.trans g28 (by simp))
  have Q_28 := Lib.hid (Q_27.out.keep0 g28)
  have P3_28 := Lib.hid (P3_27.out.keep0 g28)
  have R_28 := Lib.hid oR
  clear f28 g28 Q_27 P3_27 oR FR27
  clear nR
  clear P3_28
  go_wp2_with fail
  refine Calls.mono (lit_of [(3, 2)] rfl rfl (by decide)) ?_
  rintro e29 W29 ⟨vP4, sP4, rfl, oP4, f29, nP4⟩
  have g29 : Frm [] W28 W29 := ((Frm.refl [] W28).alloc (.cells #[.int .i64 3, .int .i64 2] 3)).trans f29 (by simp)
  have FR29 := Lib.hid (FR28.out.trans g29 (by simp))
  have Q_29 := Lib.hid (Q_28.out.keep0 g29)
  have R_29 := Lib.hid (R_28.out.keep0 g29)
  have P4_29 := Lib.hid oP4
  clear f29 g29 Q_28 R_28 oP4 FR28
  clear nP4
  go_wp2_with fail
  refine Calls.mono (low_ex [(3, 2)] (-1) [] 2 eg10 (by decide) (by decide) (by decide) P4_29.out.sl) ?_
  rintro e30 W30 ⟨vQ4, sQ4, rfl, oQ4, f30, nQ4⟩
  have g30 : Frm [] W29 W30 := f30
  have FR30 := Lib.hid (FR29.out.trans g30 (by simp))
  have Q_30 := Lib.hid (Q_29.out.keep0 g30)
  have R_30 := Lib.hid (R_29.out.keep0 g30)
  have P4_30 := Lib.hid (P4_29.out.keep0 g30)
  have Q4_30 := Lib.hid oQ4
  clear f30 g30 Q_29 R_29 P4_29 oQ4 FR29
  clear nQ4
  clear P4_30
  clear Q4_30
  go_wp2_with fail
  refine Calls.mono (lit_is [(3, 2), (6, 1)] rfl rfl (by decide) Q_30.out.sl) ?_
  rintro e31 W31 ⟨rfl, f31⟩
  have g31 : Frm [] W30 W31 := ((Frm.refl [] W30).alloc (.cells #[.int .i64 3, .int .i64 2, .int .i64 6, .int .i64 1] 3)).trans f31 (by simp)
  have FR31 := Lib.hid (FR30.out.trans g31 (by simp))
  have Q_31 := Lib.hid (Q_30.out.keep0 g31)
  have R_31 := Lib.hid (R_30.out.keep0 g31)
  clear f31 g31 Q_30 R_30 FR30
  clear Q_31
  go_wp2_with fail
  refine Calls.mono (is_true [] _ _ _ [] _ R_31.out.sl (SlE.nil _ _ _) (by decide)) ?_
  rintro e32 W32 ⟨rfl, f32⟩
  have g32 : Frm [] W31 W32 := f32
  have FR32 := Lib.hid (FR31.out.trans g32 (by simp))
  have R_32 := Lib.hid (R_31.out.keep0 g32)
  clear f32 g32 R_31 FR31
  clear R_32
  go_wp2_with fail
  refine Calls.mono (awake_any _) ?_
  rintro e33 W33 ⟨rfl, f33⟩
  have g33 : Frm [] W32 W33 := f33
  have FR33 := Lib.hid (FR32.out.trans g33 (by simp))
  clear f33 g33 FR32
  go_wp2_with fail
  refine Calls.mono (lit_of [(4, 1)] rfl rfl (by decide)) ?_
  rintro e34 W34 ⟨vT1, sT1, rfl, oT1, f34, nT1⟩
  have g34 : Frm [] W33 W34 := ((Frm.refl [] W33).alloc (.cells #[.int .i64 4, .int .i64 1] 3)).trans f34 (by simp)
  have FR34 := Lib.hid (FR33.out.trans g34 (by simp))
  have T1_34 := Lib.hid oT1
  clear f34 g34 oT1 FR33
  clear nT1
  go_wp2_with fail
  refine Calls.mono (lit_of [(3, 2)] rfl rfl (by decide)) ?_
  rintro e35 W35 ⟨vT2, sT2, rfl, oT2, f35, nT2⟩
  have g35 : Frm [] W34 W35 := ((Frm.refl [] W34).alloc (.cells #[.int .i64 3, .int .i64 2] 3)).trans f35 (by simp)
  have FR35 := Lib.hid (FR34.out.trans g35 (by simp))
  have T1_35 := Lib.hid (T1_34.out.keep0 g35)
  have T2_35 := Lib.hid oT2
  clear f35 g35 T1_34 oT2 FR34
  clear nT2
  go_wp2_with fail
  refine Calls.mono (wi_ex (b := true) (Within_any _ _ [(4, 1)] [(3, 2)] _ _ _ T1_35.out.sl (by decide) (sm_all (by decide)) T2_35.out.sl (by decide) (sm_all (by decide))) eg11 (by decide)) ?_
  rintro e36 W36 ⟨rfl, f36⟩
  have g36 : Frm [] W35 W36 := f36
  have FR36 := Lib.hid (FR35.out.trans g36 (by simp))
  have T1_36 := Lib.hid (T1_35.out.keep0 g36)
  have T2_36 := Lib.hid (T2_35.out.keep0 g36)
  clear f36 g36 T1_35 T2_35 FR35
  clear T1_36
  clear T2_36
  go_wp2_with fail
  refine Calls.mono (lit_of [(3, 2)] rfl rfl (by decide)) ?_
  rintro e37 W37 ⟨vU1, sU1, rfl, oU1, f37, nU1⟩
  have g37 : Frm [] W36 W37 := ((Frm.refl [] W36).alloc (.cells #[.int .i64 3, .int .i64 2] 3)).trans f37 (by simp)
  have FR37 := Lib.hid (FR36.out.trans g37 (by simp))
  have U1_37 := Lib.hid oU1
  clear f37 g37 oU1 FR36
  clear nU1
  go_wp2_with fail
  refine Calls.mono (lit_of [(4, 1)] rfl rfl (by decide)) ?_
  rintro e38 W38 ⟨vU2, sU2, rfl, oU2, f38, nU2⟩
  have g38 : Frm [] W37 W38 := ((Frm.refl [] W37).alloc (.cells #[.int .i64 4, .int .i64 1] 3)).trans f38 (by simp)
  have FR38 := Lib.hid (FR37.out.trans g38 (by simp))
  have U1_38 := Lib.hid (U1_37.out.keep0 g38)
  have U2_38 := Lib.hid oU2
  clear f38 g38 U1_37 oU2 FR37
  clear nU2
  go_wp2_with fail
  refine Calls.mono (wi_ex (b := false) (Within_any _ _ [(3, 2)] [(4, 1)] _ _ _ U1_38.out.sl (by decide) (sm_all (by decide)) U2_38.out.sl (by decide) (sm_all (by decide))) eg12 (by decide)) ?_
  rintro e39 W39 ⟨rfl, f39⟩
  have g39 : Frm [] W38 W39 := f39
  have FR39 := Lib.hid (FR38.out.trans g39 (by simp))
  have U1_39 := Lib.hid (U1_38.out.keep0 g39)
  have U2_39 := Lib.hid (U2_38.out.keep0 g39)
  clear f39 g39 U1_38 U2_38 FR38
  clear U1_39
  clear U2_39
  go_wp2_with fail
  go_ret
  exact ⟨rfl, FR39.out⟩
end Go.Proofs.Ytgbgpmdhlocjhaa
