/-
  Contracts of awake and ExtentKnown. No conditions but those that each theorem names.
-/
import Derived.Test.YtgbgpmdhlocjhaaX0
namespace Go.Proofs.Ytgbgpmdhlocjhaa
open Go.RowKit
set_option linter.unusedVariables false
set_option linter.unusedSimpArgs false
set_option maxRecDepth 100000

set_option maxHeartbeats 4000000 in
theorem awake_any (w : World) : Calls Try.prog 10 #[] w (Yes w) := by
  go_enter Try.func10, Try.ntmps10
  go_wp2_with fail
  refine Calls.mono (lit_ofI [6, 4, 3, 4] [(3, 2), (6, 1)] 0 eg1 rfl rfl (by decide)) ?_
  rintro e1 W1 ⟨vA, sA, rfl, oA, f1, nA⟩
  have g1 : Frm [] w W1 := ((Frm.refl [] w).alloc (.cells #[.int .i64 6, .int .i64 4, .int .i64 3, .int .i64 4] 3)).trans f1 (by simp)
  have FR1 := Lib.hid ((Frm.refl [] w).trans g1 (by simp))
  have A_1 := Lib.hid oA
  clear f1 g1 oA
  clear nA
  go_wp2_with fail
  refine Calls.mono (lit_of [(3, 2)] rfl rfl (by decide)) ?_
  rintro e2 W2 ⟨vB, sB, rfl, oB, f2, nB⟩
  have g2 : Frm [] W1 W2 := ((Frm.refl [] W1).alloc (.cells #[.int .i64 3, .int .i64 2] 3)).trans f2 (by simp)
  have FR2 := Lib.hid (FR1.out.trans g2 (by simp))
  have A_2 := Lib.hid (A_1.out.keep0 g2)
  have B_2 := Lib.hid oB
  clear f2 g2 A_1 oB FR1
  clear nB
  go_wp2_with fail
  refine Calls.mono (lit_of [(5, 1)] rfl rfl (by decide)) ?_
  rintro e3 W3 ⟨vC, sC, rfl, oC, f3, nC⟩
  have g3 : Frm [] W2 W3 := ((Frm.refl [] W2).alloc (.cells #[.int .i64 5, .int .i64 1] 3)).trans f3 (by simp)
  have FR3 := Lib.hid (FR2.out.trans g3 (by simp))
  have A_3 := Lib.hid (A_2.out.keep0 g3)
  have B_3 := Lib.hid (B_2.out.keep0 g3)
  have C_3 := Lib.hid oC
  clear f3 g3 A_2 B_2 oC FR2
  clear nC
  go_wp2_with fail
  refine Calls.mono (mk_ex (Add_any _ _ [(3, 2)] [(5, 1)] _ _ _ B_3.out.sl (by decide) (sm_all (by decide)) C_3.out.sl (by decide) (sm_all (by decide))) eg2) ?_
  rintro e4 W4 ⟨vD, sD, rfl, oD, f4, nD⟩
  have g4 : Frm [] W3 W4 := f4
  have FR4 := Lib.hid (FR3.out.trans g4 (by simp))
  have A_4 := Lib.hid (A_3.out.keep0 g4)
  have B_4 := Lib.hid (B_3.out.keep0 g4)
  have C_4 := Lib.hid (C_3.out.keep0 g4)
  have D_4 := Lib.hid oD
  clear f4 g4 A_3 B_3 C_3 oD FR3
  clear nD
  clear B_4
  clear C_4
  go_wp2_with fail
  refine Calls.mono (lit_is [(3, 2), (6, 1)] rfl rfl (by decide) A_4.out.sl) ?_
  rintro e5 W5 ⟨rfl, f5⟩
  have g5 : Frm [] W4 W5 := ((Frm.refl [] W4).alloc (.cells #[.int .i64 3, .int .i64 2, .int .i64 6, .int .i64 1] 3)).trans f5 (by simp)
  have FR5 := Lib.hid (FR4.out.trans g5 (by simp))
  have A_5 := Lib.hid (A_4.out.keep0 g5)
  have D_5 := Lib.hid (D_4.out.keep0 g5)
  clear f5 g5 A_4 D_4 FR4
  clear A_5
  go_wp2_with fail
  refine Calls.mono (lit_is [(3, 3)] rfl rfl (by decide) D_5.out.sl) ?_
  rintro e6 W6 ⟨rfl, f6⟩
  have g6 : Frm [] W5 W6 := ((Frm.refl [] W5).alloc (.cells #[.int .i64 3, .int .i64 3] 3)).trans f6 (by simp)
  have FR6 := Lib.hid (FR5.out.trans g6 (by simp))
  have D_6 := Lib.hid (D_5.out.keep0 g6)
  clear f6 g6 D_5 FR5
  clear D_6
  go_wp2_with fail
  refine Calls.mono (lit_of [(3, 2), (6, 1)] rfl rfl (by decide)) ?_
  rintro e7 W7 ⟨vE, sE, rfl, oE, f7, nE⟩
  have g7 : Frm [] W6 W7 := ((Frm.refl [] W6).alloc (.cells #[.int .i64 3, .int .i64 2, .int .i64 6, .int .i64 1] 3)).trans f7 (by simp)
  have FR7 := Lib.hid (FR6.out.trans g7 (by simp))
  have E_7 := Lib.hid oE
  clear f7 g7 oE FR6
  clear nE
  go_wp2_with fail
  refine Calls.mono (cnt_ex [(3, 2), (6, 1)] 3 (by decide) (by decide) (by decide) E_7.out.sl) ?_
  rintro e8 W8 ⟨rfl, f8⟩
  have g8 : Frm [] W7 W8 := f8
  have FR8 := Lib.hid (FR7.out.trans g8 (by simp))
  have E_8 := Lib.hid (E_7.out.keep0 g8)
  clear f8 g8 E_7 FR7
  clear E_8
  go_wp2_with fail
  refine Calls.mono (lit_of [(3, 2), (5, 1)] rfl rfl (by decide)) ?_
  rintro e9 W9 ⟨vK, sK, rfl, oK, f9, nK⟩
  have g9 : Frm [] W8 W9 := ((Frm.refl [] W8).alloc (.cells #[.int .i64 3, .int .i64 2, .int .i64 5, .int .i64 1] 3)).trans f9 (by simp)
  have FR9 := Lib.hid (FR8.out.trans g9 (by simp))
  have K_9 := Lib.hid oK
  clear f9 g9 oK FR8
  clear nK
  go_wp2_with fail
  refine Calls.mono (chk_ex [(3, 2), (5, 1)] 2 (by decide) (by decide) (by decide) K_9.out.sl) ?_
  rintro e10 W10 ⟨rfl, f10⟩
  have g10 : Frm [] W9 W10 := f10
  have FR10 := Lib.hid (FR9.out.trans g10 (by simp))
  have K_10 := Lib.hid (K_9.out.keep0 g10)
  clear f10 g10 K_9 FR9
  clear K_10
  go_wp2_with fail
  go_ret
  exact ⟨rfl, FR10.out⟩
end Go.Proofs.Ytgbgpmdhlocjhaa
