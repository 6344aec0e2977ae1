/-
  The walk of AddrKnown. No conditions but those that the theorem names.
-/
import Derived.Test.YtpgekoicbceliaaCM
namespace Go.Proofs.Ytpgekoicbceliaa
open Go.RowKit Go.Sort Go.Maps
set_option linter.unusedVariables false
set_option linter.unusedSimpArgs false
set_option maxRecDepth 100000

theorem Apart_yes (v : Value) (l sp : List Ad) (w : World) (hS : SlA w v l sp) (hl : l.length ≤ 1000) (hw : ∀ x ∈ l, WfA x) (h : apB l = true) :
    Calls Try.prog 30 #[v] w fun e w' => e = .returned (.bool true) ∧ Frm [] w w' := by
  have := Apart_any v l sp w hS hl hw
  rwa [h] at this
theorem Apart_no (v : Value) (l sp : List Ad) (w : World) (hS : SlA w v l sp) (hl : l.length ≤ 1000) (hw : ∀ x ∈ l, WfA x) (h : apB l = false) :
    Calls Try.prog 30 #[v] w fun e w' => e = .returned (.bool false) ∧ Frm [] w w' := by
  have := Apart_any v l sp w hS hl hw
  rwa [h] at this
theorem Has_yes (v : Value) (l sp : List Ad) (x : Ad) (w : World) (hS : SlA w v l sp) (hl : l.length ≤ 1000) (h : x ∈ l) :
    Calls Try.prog 28 #[v, av x] w fun e w' => e = .returned (.bool true) ∧ Frm [] w w' := by
  have := Has_any v l sp x w hS hl
  unfold HasB at this
  rwa [decide_eq_true h] at this
theorem Has_no (v : Value) (l sp : List Ad) (x : Ad) (w : World) (hS : SlA w v l sp) (hl : l.length ≤ 1000) (h : x ∉ l) :
    Calls Try.prog 28 #[v, av x] w fun e w' => e = .returned (.bool false) ∧ Frm [] w w' := by
  have := Has_any v l sp x w hS hl
  unfold HasB at this
  rwa [decide_eq_false h] at this
theorem km1 : mayB (2, 5) 2 8 = false := by decide
theorem km2 : mayB (0, 8) 2 8 = false := by decide
theorem kl1 : ltA (1, 5) (1, 5) = false := by decide
theorem kn1 : srt ([(0, 5)] ++ [(1, 5), (0, 5)]) = [(0, 5), (1, 5)] := by decide
theorem kn2 : srt (minA [(0, 5), (1, 5)] [(1, 5)]) = [(0, 5)] := by decide
theorem kn3 : srt (bothA [(0, 5), (1, 5)] [(1, 5), (2, 5)]) = [(1, 5)] := by decide
theorem kn4 : srt (onA [(0, 5), (1, 6), (1, 5)] 1) = [(1, 5), (1, 6)] := by decide
set_option maxHeartbeats 8000000 in
theorem known_any (w : World) : Calls Try.prog 5 #[] w (Yes w) := by
  have m1 := fun W => May_any (2, 5) 2 8 W
  have m2 := fun W => May_any (0, 8) 2 8 W
  have l1 := fun W => Less_any (1, 5) (1, 5) W
  rw [km1] at m1
  rw [km2] at m2
  rw [kl1] at l1
  have M1 := Lib.hid m1
  have M2 := Lib.hid m2
  have L1 := Lib.hid l1
  clear m1 m2 l1
  have F0 := Lib.hid (Frm.refl [] w)
  go_enter Try.func5, Try.ntmps5
  go_wp2_with fail
  refine (at_any 2 5 _).mono ?_
  rintro r w1 ⟨rfl, f1⟩
  have G1 := Lib.hid (f1)
  have F1 := Lib.hid (F0.out.trans G1.out (by simp))
  clear f1 F0 G1
  go_wp2_with fail
  refine (M1.out _).mono ?_
  rintro r w2 ⟨rfl, f2⟩
  have G2 := Lib.hid (f2)
  have F2 := Lib.hid (F1.out.trans G2.out (by simp))
  clear f2 F1 G2
  go_wp2_with fail
  refine (at_any 0 8 _).mono ?_
  rintro r w3 ⟨rfl, f3⟩
  have G3 := Lib.hid (f3)
  have F3 := Lib.hid (F2.out.trans G3.out (by simp))
  clear f3 F2 G3
  go_wp2_with fail
  refine (M2.out _).mono ?_
  rintro r w4 ⟨rfl, f4⟩
  have G4 := Lib.hid (f4)
  have F4 := Lib.hid (F3.out.trans G4.out (by simp))
  clear f4 F3 G4
  go_wp2_with fail
  refine (at_any 1 5 _).mono ?_
  rintro r w5 ⟨rfl, f5⟩
  have G5 := Lib.hid (f5)
  have F5 := Lib.hid (F4.out.trans G5.out (by simp))
  clear f5 F4 G5
  go_wp2_with fail
  refine (at_any 1 5 _).mono ?_
  rintro r w6 ⟨rfl, f6⟩
  have G6 := Lib.hid (f6)
  have F6 := Lib.hid (F5.out.trans G6.out (by simp))
  clear f6 F5 G6
  go_wp2_with fail
  refine (L1.out _).mono ?_
  rintro r w7 ⟨rfl, f7⟩
  have G7 := Lib.hid (f7)
  have F7 := Lib.hid (F6.out.trans G7.out (by simp))
  clear f7 F6 G7
  go_wp2_with fail
  refine (of_any [(0, 5), (1, 5)] 4 _ _ (heap_alloc_at rfl) rfl (by decide)).mono ?_
  rintro r w8 ⟨v8, sp8, rfl, o8, f8, n8⟩
  have A_8o := Lib.hid o8
  clear o8 n8
  have G8 := Lib.hid (((Frm.refl [] _).alloc (.cells #[.int .i64 0, .int .i64 5, .int .i64 1, .int .i64 5] 3)).trans f8 (by simp))
  have F8 := Lib.hid (F7.out.trans G8.out (by simp))
  clear f8 F7 G8
  go_wp2_with fail
  refine (Apart_yes v8 [(0, 5), (1, 5)] sp8 _ A_8o.out.sl (by decide) (wf_all _ (by decide)) (by decide)).mono ?_
  rintro r w9 ⟨rfl, f9⟩
  have G9 := Lib.hid (f9)
  have F9 := Lib.hid (F8.out.trans G9.out (by simp))
  have A_9 := Lib.hid (A_8o.out.keep G9.out (by simp))
  clear A_8o
  clear f9 F8 G9
  clear A_9
  go_wp2_with fail
  refine (of_any [(0, 5), (0, 6)] 4 _ _ (heap_alloc_at rfl) rfl (by decide)).mono ?_
  rintro r w10 ⟨v10, sp10, rfl, o10, f10, n10⟩
  have A_10o := Lib.hid o10
  clear o10 n10
  have G10 := Lib.hid (((Frm.refl [] _).alloc (.cells #[.int .i64 0, .int .i64 5, .int .i64 0, .int .i64 6] 3)).trans f10 (by simp))
  have F10 := Lib.hid (F9.out.trans G10.out (by simp))
  clear f10 F9 G10
  go_wp2_with fail
  refine (Apart_no v10 [(0, 5), (0, 6)] sp10 _ A_10o.out.sl (by decide) (wf_all _ (by decide)) (by decide)).mono ?_
  rintro r w11 ⟨rfl, f11⟩
  have G11 := Lib.hid (f11)
  have F11 := Lib.hid (F10.out.trans G11.out (by simp))
  have A_11 := Lib.hid (A_10o.out.keep G11.out (by simp))
  clear A_10o
  clear f11 F10 G11
  clear A_11
  go_wp2_with fail
  refine (of_any [(0, 5)] 2 _ _ (heap_alloc_at rfl) rfl (by decide)).mono ?_
  rintro r w12 ⟨v12, sp12, rfl, o12, f12, n12⟩
  have A_12o := Lib.hid o12
  clear o12 n12
  have G12 := Lib.hid (((Frm.refl [] _).alloc (.cells #[.int .i64 0, .int .i64 5] 3)).trans f12 (by simp))
  have F12 := Lib.hid (F11.out.trans G12.out (by simp))
  clear f12 F11 G12
  go_wp2_with fail
  refine (of_any [(1, 5), (0, 5)] 4 _ _ (heap_alloc_at rfl) rfl (by decide)).mono ?_
  rintro r w13 ⟨v13, sp13, rfl, o13, f13, n13⟩
  have B_13o := Lib.hid o13
  clear o13 n13
  have G13 := Lib.hid (((Frm.refl [] _).alloc (.cells #[.int .i64 1, .int .i64 5, .int .i64 0, .int .i64 5] 3)).trans f13 (by simp))
  have F13 := Lib.hid (F12.out.trans G13.out (by simp))
  have A_13 := Lib.hid (A_12o.out.keep G13.out (by simp))
  clear A_12o
  clear f13 F12 G13
  go_wp2_with fail
  refine (Union_any v12 v13 [(0, 5)] sp12 [(1, 5), (0, 5)] sp13 _ A_13.out.sl (by decide) (wf_all _ (by decide)) B_13o.out.sl (by decide) (wf_all _ (by decide))).mono ?_
  rintro r w14 ⟨v14, sp14, rfl, o14, f14, n14⟩
  rw [kn1] at o14
  have C_14o := Lib.hid o14
  clear o14 n14
  have G14 := Lib.hid (f14)
  have F14 := Lib.hid (F13.out.trans G14.out (by simp))
  have A_14 := Lib.hid (A_13.out.keep G14.out (by simp))
  clear A_13
  have B_14 := Lib.hid (B_13o.out.keep G14.out (by simp))
  clear B_13o
  clear f14 F13 G14
  clear A_14
  clear B_14
  go_wp2_with fail
  refine (of_any [(0, 5), (1, 5)] 4 _ _ (heap_alloc_at rfl) rfl (by decide)).mono ?_
  rintro r w15 ⟨v15, sp15, rfl, o15, f15, n15⟩
  have D_15o := Lib.hid o15
  clear o15 n15
  have G15 := Lib.hid (((Frm.refl [] _).alloc (.cells #[.int .i64 0, .int .i64 5, .int .i64 1, .int .i64 5] 3)).trans f15 (by simp))
  have F15 := Lib.hid (F14.out.trans G15.out (by simp))
  have C_15 := Lib.hid (C_14o.out.keep G15.out (by simp))
  clear C_14o
  clear f15 F14 G15
  go_wp2_with fail
  refine (Same_true v14 v15 [(0, 5), (1, 5)] sp14 sp15 _ C_15.out.sl D_15o.out.sl (by decide)).mono ?_
  rintro r w16 ⟨rfl, f16⟩
  have G16 := Lib.hid (f16)
  have F16 := Lib.hid (F15.out.trans G16.out (by simp))
  have C_16 := Lib.hid (C_15.out.keep G16.out (by simp))
  clear C_15
  have D_16 := Lib.hid (D_15o.out.keep G16.out (by simp))
  clear D_15o
  clear f16 F15 G16
  clear C_16
  clear D_16
  go_wp2_with fail
  refine (of_any [(0, 5), (1, 5)] 4 _ _ (heap_alloc_at rfl) rfl (by decide)).mono ?_
  rintro r w17 ⟨v17, sp17, rfl, o17, f17, n17⟩
  have A_17o := Lib.hid o17
  clear o17 n17
  have G17 := Lib.hid (((Frm.refl [] _).alloc (.cells #[.int .i64 0, .int .i64 5, .int .i64 1, .int .i64 5] 3)).trans f17 (by simp))
  have F17 := Lib.hid (F16.out.trans G17.out (by simp))
  clear f17 F16 G17
  go_wp2_with fail
  refine (of_any [(1, 5)] 2 _ _ (heap_alloc_at rfl) rfl (by decide)).mono ?_
  rintro r w18 ⟨v18, sp18, rfl, o18, f18, n18⟩
  have B_18o := Lib.hid o18
  clear o18 n18
  have G18 := Lib.hid (((Frm.refl [] _).alloc (.cells #[.int .i64 1, .int .i64 5] 3)).trans f18 (by simp))
  have F18 := Lib.hid (F17.out.trans G18.out (by simp))
  have A_18 := Lib.hid (A_17o.out.keep G18.out (by simp))
  clear A_17o
  clear f18 F17 G18
  go_wp2_with fail
  refine (Minus_any v17 v18 [(0, 5), (1, 5)] sp17 [(1, 5)] sp18 _ A_18.out.sl (by decide) (wf_all _ (by decide)) B_18o.out.sl (by decide) (wf_all _ (by decide))).mono ?_
  rintro r w19 ⟨v19, sp19, rfl, o19, f19, n19⟩
  rw [kn2] at o19
  have C_19o := Lib.hid o19
  clear o19 n19
  have G19 := Lib.hid (f19)
  have F19 := Lib.hid (F18.out.trans G19.out (by simp))
  have A_19 := Lib.hid (A_18.out.keep G19.out (by simp))
  clear A_18
  have B_19 := Lib.hid (B_18o.out.keep G19.out (by simp))
  clear B_18o
  clear f19 F18 G19
  clear A_19
  clear B_19
  go_wp2_with fail
  refine (of_any [(0, 5)] 2 _ _ (heap_alloc_at rfl) rfl (by decide)).mono ?_
  rintro r w20 ⟨v20, sp20, rfl, o20, f20, n20⟩
  have D_20o := Lib.hid o20
  clear o20 n20
  have G20 := Lib.hid (((Frm.refl [] _).alloc (.cells #[.int .i64 0, .int .i64 5] 3)).trans f20 (by simp))
  have F20 := Lib.hid (F19.out.trans G20.out (by simp))
  have C_20 := Lib.hid (C_19o.out.keep G20.out (by simp))
  clear C_19o
  clear f20 F19 G20
  go_wp2_with fail
  refine (Same_true v19 v20 [(0, 5)] sp19 sp20 _ C_20.out.sl D_20o.out.sl (by decide)).mono ?_
  rintro r w21 ⟨rfl, f21⟩
  have G21 := Lib.hid (f21)
  have F21 := Lib.hid (F20.out.trans G21.out (by simp))
  have C_21 := Lib.hid (C_20.out.keep G21.out (by simp))
  clear C_20
  have D_21 := Lib.hid (D_20o.out.keep G21.out (by simp))
  clear D_20o
  clear f21 F20 G21
  clear C_21
  clear D_21
  go_wp2_with fail
  refine (of_any [(0, 5), (1, 5)] 4 _ _ (heap_alloc_at rfl) rfl (by decide)).mono ?_
  rintro r w22 ⟨v22, sp22, rfl, o22, f22, n22⟩
  have A_22o := Lib.hid o22
  clear o22 n22
  have G22 := Lib.hid (((Frm.refl [] _).alloc (.cells #[.int .i64 0, .int .i64 5, .int .i64 1, .int .i64 5] 3)).trans f22 (by simp))
  have F22 := Lib.hid (F21.out.trans G22.out (by simp))
  clear f22 F21 G22
  go_wp2_with fail
  refine (of_any [(1, 5), (2, 5)] 4 _ _ (heap_alloc_at rfl) rfl (by decide)).mono ?_
  rintro r w23 ⟨v23, sp23, rfl, o23, f23, n23⟩
  have B_23o := Lib.hid o23
  clear o23 n23
  have G23 := Lib.hid (((Frm.refl [] _).alloc (.cells #[.int .i64 1, .int .i64 5, .int .i64 2, .int .i64 5] 3)).trans f23 (by simp))
  have F23 := Lib.hid (F22.out.trans G23.out (by simp))
  have A_23 := Lib.hid (A_22o.out.keep G23.out (by simp))
  clear A_22o
  clear f23 F22 G23
  go_wp2_with fail
  refine (Both_any v22 v23 [(0, 5), (1, 5)] sp22 [(1, 5), (2, 5)] sp23 _ A_23.out.sl (by decide) (wf_all _ (by decide)) B_23o.out.sl (by decide) (wf_all _ (by decide))).mono ?_
  rintro r w24 ⟨v24, sp24, rfl, o24, f24, n24⟩
  rw [kn3] at o24
  have C_24o := Lib.hid o24
  clear o24 n24
  have G24 := Lib.hid (f24)
  have F24 := Lib.hid (F23.out.trans G24.out (by simp))
  have A_24 := Lib.hid (A_23.out.keep G24.out (by simp))
  clear A_23
  have B_24 := Lib.hid (B_23o.out.keep G24.out (by simp))
  clear B_23o
  clear f24 F23 G24
  clear A_24
  clear B_24
  go_wp2_with fail
  refine (of_any [(1, 5)] 2 _ _ (heap_alloc_at rfl) rfl (by decide)).mono ?_
  rintro r w25 ⟨v25, sp25, rfl, o25, f25, n25⟩
  have D_25o := Lib.hid o25
  clear o25 n25
  have G25 := Lib.hid (((Frm.refl [] _).alloc (.cells #[.int .i64 1, .int .i64 5] 3)).trans f25 (by simp))
  have F25 := Lib.hid (F24.out.trans G25.out (by simp))
  have C_25 := Lib.hid (C_24o.out.keep G25.out (by simp))
  clear C_24o
  clear f25 F24 G25
  go_wp2_with fail
  refine (Same_true v24 v25 [(1, 5)] sp24 sp25 _ C_25.out.sl D_25o.out.sl (by decide)).mono ?_
  rintro r w26 ⟨rfl, f26⟩
  have G26 := Lib.hid (f26)
  have F26 := Lib.hid (F25.out.trans G26.out (by simp))
  have C_26 := Lib.hid (C_25.out.keep G26.out (by simp))
  clear C_25
  have D_26 := Lib.hid (D_25o.out.keep G26.out (by simp))
  clear D_25o
  clear f26 F25 G26
  clear C_26
  clear D_26
  go_wp2_with fail
  refine (of_any [(0, 5), (1, 6), (1, 5)] 6 _ _ (heap_alloc_at rfl) rfl (by decide)).mono ?_
  rintro r w27 ⟨v27, sp27, rfl, o27, f27, n27⟩
  have A_27o := Lib.hid o27
  clear o27 n27
  have G27 := Lib.hid (((Frm.refl [] _).alloc (.cells #[.int .i64 0, .int .i64 5, .int .i64 1, .int .i64 6, .int .i64 1, .int .i64 5] 3)).trans f27 (by simp))
  have F27 := Lib.hid (F26.out.trans G27.out (by simp))
  clear f27 F26 G27
  go_wp2_with fail
  refine (On_any v27 [(0, 5), (1, 6), (1, 5)] sp27 1 _ A_27o.out.sl (by decide) (wf_all _ (by decide))).mono ?_
  rintro r w28 ⟨v28, sp28, rfl, o28, f28, n28⟩
  rw [kn4] at o28
  have C_28o := Lib.hid o28
  clear o28 n28
  have G28 := Lib.hid (f28)
  have F28 := Lib.hid (F27.out.trans G28.out (by simp))
  have A_28 := Lib.hid (A_27o.out.keep G28.out (by simp))
  clear A_27o
  clear f28 F27 G28
  clear A_28
  go_wp2_with fail
  refine (of_any [(1, 5), (1, 6)] 4 _ _ (heap_alloc_at rfl) rfl (by decide)).mono ?_
  rintro r w29 ⟨v29, sp29, rfl, o29, f29, n29⟩
  have D_29o := Lib.hid o29
  clear o29 n29
  have G29 := Lib.hid (((Frm.refl [] _).alloc (.cells #[.int .i64 1, .int .i64 5, .int .i64 1, .int .i64 6] 3)).trans f29 (by simp))
  have F29 := Lib.hid (F28.out.trans G29.out (by simp))
  have C_29 := Lib.hid (C_28o.out.keep G29.out (by simp))
  clear C_28o
  clear f29 F28 G29
  go_wp2_with fail
  refine (Same_true v28 v29 [(1, 5), (1, 6)] sp28 sp29 _ C_29.out.sl D_29o.out.sl (by decide)).mono ?_
  rintro r w30 ⟨rfl, f30⟩
  have G30 := Lib.hid (f30)
  have F30 := Lib.hid (F29.out.trans G30.out (by simp))
  have C_30 := Lib.hid (C_29.out.keep G30.out (by simp))
  clear C_29
  have D_30 := Lib.hid (D_29o.out.keep G30.out (by simp))
  clear D_29o
  clear f30 F29 G30
  clear C_30
  clear D_30
  go_wp2_with fail
  refine (awake_any _).mono ?_
  rintro r w31 ⟨rfl, f31⟩
  have G31 := Lib.hid (f31)
  have F31 := Lib.hid (F30.out.trans G31.out (by simp))
  clear f31 F30 G31
  go_wp2_with fail
  refine (of_any [(0, 5)] 2 _ _ (heap_alloc_at rfl) rfl (by decide)).mono ?_
  rintro r w32 ⟨v32, sp32, rfl, o32, f32, n32⟩
  have A_32o := Lib.hid o32
  clear o32 n32
  have G32 := Lib.hid (((Frm.refl [] _).alloc (.cells #[.int .i64 0, .int .i64 5] 3)).trans f32 (by simp))
  have F32 := Lib.hid (F31.out.trans G32.out (by simp))
  clear f32 F31 G32
  go_wp2_with fail
  refine (at_any 0 5 _).mono ?_
  rintro r w33 ⟨rfl, f33⟩
  have G33 := Lib.hid (f33)
  have F33 := Lib.hid (F32.out.trans G33.out (by simp))
  have A_33 := Lib.hid (A_32o.out.keep G33.out (by simp))
  clear A_32o
  clear f33 F32 G33
  go_wp2_with fail
  refine (Has_yes v32 [(0, 5)] sp32 (0, 5) _ A_33.out.sl (by decide) (by decide)).mono ?_
  rintro r w34 ⟨rfl, f34⟩
  have G34 := Lib.hid (f34)
  have F34 := Lib.hid (F33.out.trans G34.out (by simp))
  have A_34 := Lib.hid (A_33.out.keep G34.out (by simp))
  clear A_33
  clear f34 F33 G34
  clear A_34
  go_wp2_with fail
  refine (at_any 0 5 _).mono ?_
  rintro r w35 ⟨rfl, f35⟩
  have G35 := Lib.hid (f35)
  have F35 := Lib.hid (F34.out.trans G35.out (by simp))
  clear f35 F34 G35
  go_wp2_with fail
  refine (Has_no (.slice none 0 0) [] [] (0, 5) _ (SlA.nil _) (by decide) (by decide)).mono ?_
  rintro r w36 ⟨rfl, f36⟩
  have G36 := Lib.hid (f36)
  have F36 := Lib.hid (F35.out.trans G36.out (by simp))
  clear f36 F35 G36
  go_wp2_with fail
  go_ret
  exact ⟨rfl, F36.out⟩
end Go.Proofs.Ytpgekoicbceliaa
