/-
  The walk of AddrParts. No conditions but those that the theorem names.
-/
import Derived.Test.YtpgekoicbceliaaCR
namespace Go.Proofs.Ytpgekoicbceliaa
open Go.RowKit Go.Sort Go.Maps
set_option linter.unusedVariables false
set_option linter.unusedSimpArgs false
set_option maxRecDepth 100000

theorem long_yes (a b : Option Addr) (n m c d : Nat) (w : World) (hn : n ≤ maxLen) (hm : m ≤ maxLen) (h : 200 < n ∨ 200 < m) : Calls Try.prog 14 #[.slice a n c, .slice b m d] w fun e w' => e = .returned (.bool true) ∧ w' = w := by
  have := long_any a b n m c d w hn hm
  have e : (decide (200 < n) || decide (200 < m)) = true := by simpa using h
  rwa [e] at this
theorem long_no (a b : Option Addr) (n m c d : Nat) (w : World) (hn : n ≤ maxLen) (hm : m ≤ maxLen) (h1 : n ≤ 200) (h2 : m ≤ 200) : Calls Try.prog 14 #[.slice a n c, .slice b m d] w fun e w' => e = .returned (.bool false) ∧ w' = w := by
  have := long_any a b n m c d w hn hm
  have e : (decide (200 < n) || decide (200 < m)) = false := by simp; omega
  rwa [e] at this
set_option maxHeartbeats 8000000 in
theorem parts_row (va : Value) (a Asp : List Ad) (vb : Value) (b Bsp : List Ad) (w : World) (hA : SlA w va a Asp) (hwa : ∀ x ∈ a, WfA x) (hB : SlA w vb b Bsp) (hwb : ∀ x ∈ b, WfA x) : Calls Try.prog 6 #[va, vb] w (Yes w) := by
  obtain ⟨Aa, Ac, rfl, ha1, ha2⟩ := hA.form
  obtain ⟨Ba, Bc, rfl, hb1, hb2⟩ := hB.form
  have hla : a.length ≤ maxLen := by omega
  have hlb : b.length ≤ maxLen := by omega
  by_cases hlong : 200 < a.length ∨ 200 < b.length
  · have HL := Lib.hid hlong
    have H1 := Lib.hid hla
    have H2 := Lib.hid hlb
    clear hA hB hwa hwb hlong ha1 ha2 hb1 hb2 hla hlb
    go_enter Try.func6, Try.ntmps6
    go_wp2_with fail
    refine (known_any _).mono ?_
    rintro r w1 ⟨rfl, f1⟩
    have F1 := Lib.hid f1
    clear f1
    go_wp2_with fail
    refine (long_yes _ _ _ _ _ _ _ H1.out H2.out HL.out).mono ?_
    rintro r w2 ⟨rfl, hw2⟩
    subst hw2
    go_wp2_with fail
    go_ret
    exact ⟨rfl, F1.out⟩
  · have ha : a.length ≤ 200 := by omega
    have hb : b.length ≤ 200 := by omega
    have LA := Lib.hid (show a.length ≤ 1000 by omega)
    have LB := Lib.hid (show b.length ≤ 1000 by omega)
    have h1 : (srt (minA a b)).length ≤ 200 := Nat.le_trans (srt_length _) (Nat.le_trans (minA_len _ _) ha)
    have h2 : (srt (minA b a)).length ≤ 200 := Nat.le_trans (srt_length _) (Nat.le_trans (minA_len _ _) hb)
    have h3 : (srt (bothA a b)).length ≤ 200 := Nat.le_trans (srt_length _) (Nat.le_trans (bothA_len _ _) ha)
    have h4 : (srt (a ++ b)).length ≤ 400 := Nat.le_trans (srt_length _) (by simp; omega)
    have h5 : (srt (srt (minA a b) ++ srt (bothA a b))).length ≤ 400 := Nat.le_trans (srt_length _) (by simp; omega)
    have LL := Lib.hid (show (srt (minA a b)).length ≤ 1000 by omega)
    have LR := Lib.hid (show (srt (minA b a)).length ≤ 1000 by omega)
    have LT := Lib.hid (show (srt (bothA a b)).length ≤ 1000 by omega)
    have LU := Lib.hid (show (srt (a ++ b)).length ≤ 1000 by omega)
    have LX := Lib.hid (show (srt (srt (minA a b) ++ srt (bothA a b))).length ≤ 1000 by omega)
    have WL := Lib.hid (show ∀ x ∈ srt (minA a b), WfA x from fun x hx => hwa x (mem_minA.1 (mem_srt.1 hx)).1)
    have WR := Lib.hid (show ∀ x ∈ srt (minA b a), WfA x from fun x hx => hwb x (mem_minA.1 (mem_srt.1 hx)).1)
    have WT := Lib.hid (show ∀ x ∈ srt (bothA a b), WfA x from fun x hx => hwa x (mem_bothA.1 (mem_srt.1 hx)).1)
    have WU := Lib.hid (show ∀ x ∈ srt (a ++ b), WfA x from fun x hx => (List.mem_append.1 (mem_srt.1 hx)).elim (hwa x) (hwb x))
    have WX := Lib.hid (show ∀ x ∈ srt (srt (minA a b) ++ srt (bothA a b)), WfA x from fun x hx => (List.mem_append.1 (mem_srt.1 hx)).elim (WL.out x) (WT.out x))
    have WA := Lib.hid hwa
    have WB := Lib.hid hwb
    have hpl := parts_len a b
    have i1 : ((srt (minA a b)).length : Int) ≤ 200 := by omega
    have i2 : ((srt (minA b a)).length : Int) ≤ 200 := by omega
    have i3 : ((srt (bothA a b)).length : Int) ≤ 200 := by omega
    have PL := Lib.hid hpl
    have H1 := Lib.hid hla
    have H2 := Lib.hid hlb
    have H3 := Lib.hid ha
    have H4 := Lib.hid hb
    have TA := Lib.hid hA
    have TB := Lib.hid hB
    clear hA hB hwa hwb hlong ha1 ha2 hb1 hb2 hla hlb ha hb h1 h2 h3 h4 h5 hpl
    go_enter Try.func6, Try.ntmps6
    go_wp2_with fail
    refine (known_any _).mono ?_
    rintro r w1 ⟨rfl, f1⟩
    have F1 := Lib.hid f1
    have SA := Lib.hid (TA.out.keep f1 (by simp))
    have SB := Lib.hid (TB.out.keep f1 (by simp))
    clear f1 TA TB
    go_wp2_with fail
    refine (long_no _ _ _ _ _ _ _ H1.out H2.out H3.out H4.out).mono ?_
    rintro r w2' ⟨rfl, hw2⟩
    subst hw2
    go_wp2_with fail
    refine (Minus_any _ _ (a) Asp (b) Bsp _ SA.out LA.out WA.out SB.out LB.out WB.out).mono ?_
    rintro r w2 ⟨v2, Lsp, rfl, o2, f2, n2⟩
    obtain ⟨La, Lc, rfl, _, _⟩ := o2.sl.form
    have L_2o := Lib.hid o2.sl
    clear o2 n2
    have G2 := Lib.hid (f2)
    have F2 := Lib.hid (F1.out.trans G2.out (by simp))
    have A_2 := Lib.hid (SA.out.keep G2.out (by simp))
    clear SA
    have B_2 := Lib.hid (SB.out.keep G2.out (by simp))
    clear SB
    clear f2 F1 G2
    go_wp2_with fail
    refine (Minus_any _ _ (b) Bsp (a) Asp _ B_2.out LB.out WB.out A_2.out LA.out WA.out).mono ?_
    rintro r w3 ⟨v3, Rsp, rfl, o3, f3, n3⟩
    obtain ⟨Ra, Rc, rfl, _, _⟩ := o3.sl.form
    have R_3o := Lib.hid o3.sl
    clear o3 n3
    have G3 := Lib.hid (f3)
    have F3 := Lib.hid (F2.out.trans G3.out (by simp))
    have A_3 := Lib.hid (A_2.out.keep G3.out (by simp))
    clear A_2
    have B_3 := Lib.hid (B_2.out.keep G3.out (by simp))
    clear B_2
    have L_3 := Lib.hid (L_2o.out.keep G3.out (by simp))
    clear L_2o
    clear f3 F2 G3
    go_wp2_with fail
    refine (Both_any _ _ (a) Asp (b) Bsp _ A_3.out LA.out WA.out B_3.out LB.out WB.out).mono ?_
    rintro r w4 ⟨v4, Tsp, rfl, o4, f4, n4⟩
    obtain ⟨Ta, Tc, rfl, _, _⟩ := o4.sl.form
    have T_4o := Lib.hid o4.sl
    clear o4 n4
    have G4 := Lib.hid (f4)
    have F4 := Lib.hid (F3.out.trans G4.out (by simp))
    have A_4 := Lib.hid (A_3.out.keep G4.out (by simp))
    clear A_3
    have B_4 := Lib.hid (B_3.out.keep G4.out (by simp))
    clear B_3
    have L_4 := Lib.hid (L_3.out.keep G4.out (by simp))
    clear L_3
    have R_4 := Lib.hid (R_3o.out.keep G4.out (by simp))
    clear R_3o
    clear f4 F3 G4
    go_wp2_with fail
    refine (Union_any _ _ (a) Asp (b) Bsp _ A_4.out LA.out WA.out B_4.out LB.out WB.out).mono ?_
    rintro r w5 ⟨v5, Usp, rfl, o5, f5, n5⟩
    obtain ⟨Ua, Uc, rfl, _, _⟩ := o5.sl.form
    have U_5o := Lib.hid o5.sl
    clear o5 n5
    have G5 := Lib.hid (f5)
    have F5 := Lib.hid (F4.out.trans G5.out (by simp))
    have A_5 := Lib.hid (A_4.out.keep G5.out (by simp))
    clear A_4
    have B_5 := Lib.hid (B_4.out.keep G5.out (by simp))
    clear B_4
    have L_5 := Lib.hid (L_4.out.keep G5.out (by simp))
    clear L_4
    have R_5 := Lib.hid (R_4.out.keep G5.out (by simp))
    clear R_4
    have T_5 := Lib.hid (T_4o.out.keep G5.out (by simp))
    clear T_4o
    clear f5 F4 G5
    go_wp2_with fail
    refine (rises_true _ (srt (minA a b)) Lsp _ L_5.out LL.out (rises_srt _)).mono ?_
    rintro r w6 ⟨rfl, f6⟩
    have G6 := Lib.hid (f6)
    have F6 := Lib.hid (F5.out.trans G6.out (by simp))
    have A_6 := Lib.hid (A_5.out.keep G6.out (by simp))
    clear A_5
    have B_6 := Lib.hid (B_5.out.keep G6.out (by simp))
    clear B_5
    have L_6 := Lib.hid (L_5.out.keep G6.out (by simp))
    clear L_5
    have R_6 := Lib.hid (R_5.out.keep G6.out (by simp))
    clear R_5
    have T_6 := Lib.hid (T_5.out.keep G6.out (by simp))
    clear T_5
    have U_6 := Lib.hid (U_5o.out.keep G6.out (by simp))
    clear U_5o
    clear f6 F5 G6
    go_wp2_with fail
    refine (rises_true _ (srt (minA b a)) Rsp _ R_6.out LR.out (rises_srt _)).mono ?_
    rintro r w7 ⟨rfl, f7⟩
    have G7 := Lib.hid (f7)
    have F7 := Lib.hid (F6.out.trans G7.out (by simp))
    have A_7 := Lib.hid (A_6.out.keep G7.out (by simp))
    clear A_6
    have B_7 := Lib.hid (B_6.out.keep G7.out (by simp))
    clear B_6
    have L_7 := Lib.hid (L_6.out.keep G7.out (by simp))
    clear L_6
    have R_7 := Lib.hid (R_6.out.keep G7.out (by simp))
    clear R_6
    have T_7 := Lib.hid (T_6.out.keep G7.out (by simp))
    clear T_6
    have U_7 := Lib.hid (U_6.out.keep G7.out (by simp))
    clear U_6
    clear f7 F6 G7
    go_wp2_with fail
    refine (rises_true _ (srt (bothA a b)) Tsp _ T_7.out LT.out (rises_srt _)).mono ?_
    rintro r w8 ⟨rfl, f8⟩
    have G8 := Lib.hid (f8)
    have F8 := Lib.hid (F7.out.trans G8.out (by simp))
    have A_8 := Lib.hid (A_7.out.keep G8.out (by simp))
    clear A_7
    have B_8 := Lib.hid (B_7.out.keep G8.out (by simp))
    clear B_7
    have L_8 := Lib.hid (L_7.out.keep G8.out (by simp))
    clear L_7
    have R_8 := Lib.hid (R_7.out.keep G8.out (by simp))
    clear R_7
    have T_8 := Lib.hid (T_7.out.keep G8.out (by simp))
    clear T_7
    have U_8 := Lib.hid (U_7.out.keep G8.out (by simp))
    clear U_7
    clear f8 F7 G8
    go_wp2_with fail
    refine (rises_true _ (srt (a ++ b)) Usp _ U_8.out LU.out (rises_srt _)).mono ?_
    rintro r w9 ⟨rfl, f9⟩
    have G9 := Lib.hid (f9)
    have F9 := Lib.hid (F8.out.trans G9.out (by simp))
    have A_9 := Lib.hid (A_8.out.keep G9.out (by simp))
    clear A_8
    have B_9 := Lib.hid (B_8.out.keep G9.out (by simp))
    clear B_8
    have L_9 := Lib.hid (L_8.out.keep G9.out (by simp))
    clear L_8
    have R_9 := Lib.hid (R_8.out.keep G9.out (by simp))
    clear R_8
    have T_9 := Lib.hid (T_8.out.keep G9.out (by simp))
    clear T_8
    have U_9 := Lib.hid (U_8.out.keep G9.out (by simp))
    clear U_8
    clear f9 F8 G9
    have hs1 : (((srt (minA a b)).length : Int) + ((srt (minA b a)).length : Int) + ((srt (bothA a b)).length : Int) == ((srt (a ++ b)).length : Int)) = true := by have := PL.out; simp; omega
    go_wp2_with fail
    refine (within_true _ _ (srt (minA a b)) (a) Lsp Asp _ L_9.out LL.out A_9.out LA.out (fun y hy => (mem_minA.1 (mem_srt.1 hy)).1)).mono ?_
    rintro r w10 ⟨rfl, f10⟩
    have G10 := Lib.hid (f10)
    have F10 := Lib.hid (F9.out.trans G10.out (by simp))
    have A_10 := Lib.hid (A_9.out.keep G10.out (by simp))
    clear A_9
    have B_10 := Lib.hid (B_9.out.keep G10.out (by simp))
    clear B_9
    have L_10 := Lib.hid (L_9.out.keep G10.out (by simp))
    clear L_9
    have R_10 := Lib.hid (R_9.out.keep G10.out (by simp))
    clear R_9
    have T_10 := Lib.hid (T_9.out.keep G10.out (by simp))
    clear T_9
    have U_10 := Lib.hid (U_9.out.keep G10.out (by simp))
    clear U_9
    clear f10 F9 G10
    go_wp2_with fail
    refine (within_true _ _ (srt (minA b a)) (b) Rsp Bsp _ R_10.out LR.out B_10.out LB.out (fun y hy => (mem_minA.1 (mem_srt.1 hy)).1)).mono ?_
    rintro r w11 ⟨rfl, f11⟩
    have G11 := Lib.hid (f11)
    have F11 := Lib.hid (F10.out.trans G11.out (by simp))
    have A_11 := Lib.hid (A_10.out.keep G11.out (by simp))
    clear A_10
    have B_11 := Lib.hid (B_10.out.keep G11.out (by simp))
    clear B_10
    have L_11 := Lib.hid (L_10.out.keep G11.out (by simp))
    clear L_10
    have R_11 := Lib.hid (R_10.out.keep G11.out (by simp))
    clear R_10
    have T_11 := Lib.hid (T_10.out.keep G11.out (by simp))
    clear T_10
    have U_11 := Lib.hid (U_10.out.keep G11.out (by simp))
    clear U_10
    clear f11 F10 G11
    go_wp2_with fail
    refine (within_true _ _ (srt (bothA a b)) (a) Tsp Asp _ T_11.out LT.out A_11.out LA.out (fun y hy => (mem_bothA.1 (mem_srt.1 hy)).1)).mono ?_
    rintro r w12 ⟨rfl, f12⟩
    have G12 := Lib.hid (f12)
    have F12 := Lib.hid (F11.out.trans G12.out (by simp))
    have A_12 := Lib.hid (A_11.out.keep G12.out (by simp))
    clear A_11
    have B_12 := Lib.hid (B_11.out.keep G12.out (by simp))
    clear B_11
    have L_12 := Lib.hid (L_11.out.keep G12.out (by simp))
    clear L_11
    have R_12 := Lib.hid (R_11.out.keep G12.out (by simp))
    clear R_11
    have T_12 := Lib.hid (T_11.out.keep G12.out (by simp))
    clear T_11
    have U_12 := Lib.hid (U_11.out.keep G12.out (by simp))
    clear U_11
    clear f12 F11 G12
    go_wp2_with fail
    refine (within_true _ _ (srt (bothA a b)) (b) Tsp Bsp _ T_12.out LT.out B_12.out LB.out (fun y hy => (mem_bothA.1 (mem_srt.1 hy)).2)).mono ?_
    rintro r w13 ⟨rfl, f13⟩
    have G13 := Lib.hid (f13)
    have F13 := Lib.hid (F12.out.trans G13.out (by simp))
    have A_13 := Lib.hid (A_12.out.keep G13.out (by simp))
    clear A_12
    have B_13 := Lib.hid (B_12.out.keep G13.out (by simp))
    clear B_12
    have L_13 := Lib.hid (L_12.out.keep G13.out (by simp))
    clear L_12
    have R_13 := Lib.hid (R_12.out.keep G13.out (by simp))
    clear R_12
    have T_13 := Lib.hid (T_12.out.keep G13.out (by simp))
    clear T_12
    have U_13 := Lib.hid (U_12.out.keep G13.out (by simp))
    clear U_12
    clear f13 F12 G13
    go_wp2_with fail
    refine (within_true _ _ (a) (srt (a ++ b)) Asp Usp _ A_13.out LA.out U_13.out LU.out (fun y hy => mem_srt.2 (List.mem_append.2 (.inl hy)))).mono ?_
    rintro r w14 ⟨rfl, f14⟩
    have G14 := Lib.hid (f14)
    have F14 := Lib.hid (F13.out.trans G14.out (by simp))
    have A_14 := Lib.hid (A_13.out.keep G14.out (by simp))
    clear A_13
    have B_14 := Lib.hid (B_13.out.keep G14.out (by simp))
    clear B_13
    have L_14 := Lib.hid (L_13.out.keep G14.out (by simp))
    clear L_13
    have R_14 := Lib.hid (R_13.out.keep G14.out (by simp))
    clear R_13
    have T_14 := Lib.hid (T_13.out.keep G14.out (by simp))
    clear T_13
    have U_14 := Lib.hid (U_13.out.keep G14.out (by simp))
    clear U_13
    clear f14 F13 G14
    go_wp2_with fail
    refine (within_true _ _ (b) (srt (a ++ b)) Bsp Usp _ B_14.out LB.out U_14.out LU.out (fun y hy => mem_srt.2 (List.mem_append.2 (.inr hy)))).mono ?_
    rintro r w15 ⟨rfl, f15⟩
    have G15 := Lib.hid (f15)
    have F15 := Lib.hid (F14.out.trans G15.out (by simp))
    have A_15 := Lib.hid (A_14.out.keep G15.out (by simp))
    clear A_14
    have B_15 := Lib.hid (B_14.out.keep G15.out (by simp))
    clear B_14
    have L_15 := Lib.hid (L_14.out.keep G15.out (by simp))
    clear L_14
    have R_15 := Lib.hid (R_14.out.keep G15.out (by simp))
    clear R_14
    have T_15 := Lib.hid (T_14.out.keep G15.out (by simp))
    clear T_14
    have U_15 := Lib.hid (U_14.out.keep G15.out (by simp))
    clear U_14
    clear f15 F14 G15
    go_wp2_with fail
    refine (Both_any _ _ (srt (minA a b)) Lsp (b) Bsp _ L_15.out LL.out WL.out B_15.out LB.out WB.out).mono ?_
    rintro r w16 ⟨v16, sp16, rfl, o16, f16, n16⟩
    rw [parts_no1] at o16
    obtain ⟨a16, c16, rfl, _, _⟩ := o16.sl.form
    clear o16 n16
    have G16 := Lib.hid (f16)
    have F16 := Lib.hid (F15.out.trans G16.out (by simp))
    have A_16 := Lib.hid (A_15.out.keep G16.out (by simp))
    clear A_15
    have B_16 := Lib.hid (B_15.out.keep G16.out (by simp))
    clear B_15
    have L_16 := Lib.hid (L_15.out.keep G16.out (by simp))
    clear L_15
    have R_16 := Lib.hid (R_15.out.keep G16.out (by simp))
    clear R_15
    have T_16 := Lib.hid (T_15.out.keep G16.out (by simp))
    clear T_15
    have U_16 := Lib.hid (U_15.out.keep G16.out (by simp))
    clear U_15
    clear f16 F15 G16
    go_wp2_with fail
    refine (Both_any _ _ (srt (minA b a)) Rsp (a) Asp _ R_16.out LR.out WR.out A_16.out LA.out WA.out).mono ?_
    rintro r w17 ⟨v17, sp17, rfl, o17, f17, n17⟩
    rw [parts_no1] at o17
    obtain ⟨a17, c17, rfl, _, _⟩ := o17.sl.form
    clear o17 n17
    have G17 := Lib.hid (f17)
    have F17 := Lib.hid (F16.out.trans G17.out (by simp))
    have A_17 := Lib.hid (A_16.out.keep G17.out (by simp))
    clear A_16
    have B_17 := Lib.hid (B_16.out.keep G17.out (by simp))
    clear B_16
    have L_17 := Lib.hid (L_16.out.keep G17.out (by simp))
    clear L_16
    have R_17 := Lib.hid (R_16.out.keep G17.out (by simp))
    clear R_16
    have T_17 := Lib.hid (T_16.out.keep G17.out (by simp))
    clear T_16
    have U_17 := Lib.hid (U_16.out.keep G17.out (by simp))
    clear U_16
    clear f17 F16 G17
    go_wp2_with fail
    refine (Both_any _ _ (srt (minA a b)) Lsp (srt (minA b a)) Rsp _ L_17.out LL.out WL.out R_17.out LR.out WR.out).mono ?_
    rintro r w18 ⟨v18, sp18, rfl, o18, f18, n18⟩
    rw [parts_no2] at o18
    obtain ⟨a18, c18, rfl, _, _⟩ := o18.sl.form
    clear o18 n18
    have G18 := Lib.hid (f18)
    have F18 := Lib.hid (F17.out.trans G18.out (by simp))
    have A_18 := Lib.hid (A_17.out.keep G18.out (by simp))
    clear A_17
    have B_18 := Lib.hid (B_17.out.keep G18.out (by simp))
    clear B_17
    have L_18 := Lib.hid (L_17.out.keep G18.out (by simp))
    clear L_17
    have R_18 := Lib.hid (R_17.out.keep G18.out (by simp))
    clear R_17
    have T_18 := Lib.hid (T_17.out.keep G18.out (by simp))
    clear T_17
    have U_18 := Lib.hid (U_17.out.keep G18.out (by simp))
    clear U_17
    clear f18 F17 G18
    go_wp2_with fail
    refine (Union_any _ _ (srt (minA a b)) Lsp (srt (bothA a b)) Tsp _ L_18.out LL.out WL.out T_18.out LT.out WT.out).mono ?_
    rintro r w19 ⟨v19, Xsp, rfl, o19, f19, n19⟩
    obtain ⟨Xa, Xc, rfl, _, _⟩ := o19.sl.form
    have X_19o := Lib.hid o19.sl
    clear o19 n19
    have G19 := Lib.hid (f19)
    have F19 := Lib.hid (F18.out.trans G19.out (by simp))
    have A_19 := Lib.hid (A_18.out.keep G19.out (by simp))
    clear A_18
    have B_19 := Lib.hid (B_18.out.keep G19.out (by simp))
    clear B_18
    have L_19 := Lib.hid (L_18.out.keep G19.out (by simp))
    clear L_18
    have R_19 := Lib.hid (R_18.out.keep G19.out (by simp))
    clear R_18
    have T_19 := Lib.hid (T_18.out.keep G19.out (by simp))
    clear T_18
    have U_19 := Lib.hid (U_18.out.keep G19.out (by simp))
    clear U_18
    clear f19 F18 G19
    go_wp2_with fail
    refine (Union_any _ _ (srt (srt (minA a b) ++ srt (bothA a b))) Xsp (srt (minA b a)) Rsp _ X_19o.out LX.out WX.out R_19.out LR.out WR.out).mono ?_
    rintro r w20 ⟨v20, Ysp, rfl, o20, f20, n20⟩
    obtain ⟨Ya, Yc, rfl, _, _⟩ := o20.sl.form
    have Y_20o := Lib.hid o20.sl
    clear o20 n20
    have G20 := Lib.hid (f20)
    have F20 := Lib.hid (F19.out.trans G20.out (by simp))
    have A_20 := Lib.hid (A_19.out.keep G20.out (by simp))
    clear A_19
    have B_20 := Lib.hid (B_19.out.keep G20.out (by simp))
    clear B_19
    have L_20 := Lib.hid (L_19.out.keep G20.out (by simp))
    clear L_19
    have R_20 := Lib.hid (R_19.out.keep G20.out (by simp))
    clear R_19
    have T_20 := Lib.hid (T_19.out.keep G20.out (by simp))
    clear T_19
    have U_20 := Lib.hid (U_19.out.keep G20.out (by simp))
    clear U_19
    have X_20 := Lib.hid (X_19o.out.keep G20.out (by simp))
    clear X_19o
    clear f20 F19 G20
    clear X_20 WX LX
    have ey := parts_all a b
    rw [ey] at Y_20o ⊢
    clear ey
    go_wp2_with fail
    refine (Same_true _ _ (srt (a ++ b)) Ysp Usp _ Y_20o.out U_20.out (by have := LU.out; omega)).mono ?_
    rintro r w21 ⟨rfl, f21⟩
    have G21 := Lib.hid (f21)
    have F21 := Lib.hid (F20.out.trans G21.out (by simp))
    have A_21 := Lib.hid (A_20.out.keep G21.out (by simp))
    clear A_20
    have B_21 := Lib.hid (B_20.out.keep G21.out (by simp))
    clear B_20
    have L_21 := Lib.hid (L_20.out.keep G21.out (by simp))
    clear L_20
    have R_21 := Lib.hid (R_20.out.keep G21.out (by simp))
    clear R_20
    have T_21 := Lib.hid (T_20.out.keep G21.out (by simp))
    clear T_20
    have U_21 := Lib.hid (U_20.out.keep G21.out (by simp))
    clear U_20
    have Y_21 := Lib.hid (Y_20o.out.keep G21.out (by simp))
    clear Y_20o
    clear f21 F20 G21
    clear Y_21
    go_wp2_with fail
    refine (Union_any _ _ (b) Bsp (a) Asp _ B_21.out LB.out WB.out A_21.out LA.out WA.out).mono ?_
    rintro r w22 ⟨v22, Zsp, rfl, o22, f22, n22⟩
    obtain ⟨Za, Zc, rfl, _, _⟩ := o22.sl.form
    have Z_22o := Lib.hid o22.sl
    clear o22 n22
    have G22 := Lib.hid (f22)
    have F22 := Lib.hid (F21.out.trans G22.out (by simp))
    have A_22 := Lib.hid (A_21.out.keep G22.out (by simp))
    clear A_21
    have B_22 := Lib.hid (B_21.out.keep G22.out (by simp))
    clear B_21
    have L_22 := Lib.hid (L_21.out.keep G22.out (by simp))
    clear L_21
    have R_22 := Lib.hid (R_21.out.keep G22.out (by simp))
    clear R_21
    have T_22 := Lib.hid (T_21.out.keep G22.out (by simp))
    clear T_21
    have U_22 := Lib.hid (U_21.out.keep G22.out (by simp))
    clear U_21
    clear f22 F21 G22
    have ez := parts_turn a b
    rw [ez] at Z_22o ⊢
    clear ez
    go_wp2_with fail
    refine (Same_true _ _ (srt (a ++ b)) Zsp Usp _ Z_22o.out U_22.out (by have := LU.out; omega)).mono ?_
    rintro r w23 ⟨rfl, f23⟩
    have G23 := Lib.hid (f23)
    have F23 := Lib.hid (F22.out.trans G23.out (by simp))
    have A_23 := Lib.hid (A_22.out.keep G23.out (by simp))
    clear A_22
    have B_23 := Lib.hid (B_22.out.keep G23.out (by simp))
    clear B_22
    have L_23 := Lib.hid (L_22.out.keep G23.out (by simp))
    clear L_22
    have R_23 := Lib.hid (R_22.out.keep G23.out (by simp))
    clear R_22
    have T_23 := Lib.hid (T_22.out.keep G23.out (by simp))
    clear T_22
    have U_23 := Lib.hid (U_22.out.keep G23.out (by simp))
    clear U_22
    have Z_23 := Lib.hid (Z_22o.out.keep G23.out (by simp))
    clear Z_22o
    clear f23 F22 G23
    clear Z_23
    go_wp2_with fail
    refine (Sort_any _ (srt (a ++ b)) Usp _ U_23.out LU.out WU.out).mono ?_
    rintro r w24 ⟨v24, Vsp, rfl, o24, f24, n24⟩
    obtain ⟨Va, Vc, rfl, _, _⟩ := o24.sl.form
    have V_24o := Lib.hid o24.sl
    clear o24 n24
    have G24 := Lib.hid (f24)
    have F24 := Lib.hid (F23.out.trans G24.out (by simp))
    have A_24 := Lib.hid (A_23.out.keep G24.out (by simp))
    clear A_23
    have B_24 := Lib.hid (B_23.out.keep G24.out (by simp))
    clear B_23
    have L_24 := Lib.hid (L_23.out.keep G24.out (by simp))
    clear L_23
    have R_24 := Lib.hid (R_23.out.keep G24.out (by simp))
    clear R_23
    have T_24 := Lib.hid (T_23.out.keep G24.out (by simp))
    clear T_23
    have U_24 := Lib.hid (U_23.out.keep G24.out (by simp))
    clear U_23
    clear f24 F23 G24
    have ev := srt_srt (a ++ b)
    rw [ev] at V_24o ⊢
    clear ev
    go_wp2_with fail
    refine (Same_true _ _ (srt (a ++ b)) Vsp Usp _ V_24o.out U_24.out (by have := LU.out; omega)).mono ?_
    rintro r w25 ⟨rfl, f25⟩
    have G25 := Lib.hid (f25)
    have F25 := Lib.hid (F24.out.trans G25.out (by simp))
    have A_25 := Lib.hid (A_24.out.keep G25.out (by simp))
    clear A_24
    have B_25 := Lib.hid (B_24.out.keep G25.out (by simp))
    clear B_24
    have L_25 := Lib.hid (L_24.out.keep G25.out (by simp))
    clear L_24
    have R_25 := Lib.hid (R_24.out.keep G25.out (by simp))
    clear R_24
    have T_25 := Lib.hid (T_24.out.keep G25.out (by simp))
    clear T_24
    have U_25 := Lib.hid (U_24.out.keep G25.out (by simp))
    clear U_24
    have V_25 := Lib.hid (V_24o.out.keep G25.out (by simp))
    clear V_24o
    clear f25 F24 G25
    go_wp2_with fail
    go_ret
    exact ⟨rfl, F25.out⟩
end Go.Proofs.Ytpgekoicbceliaa
