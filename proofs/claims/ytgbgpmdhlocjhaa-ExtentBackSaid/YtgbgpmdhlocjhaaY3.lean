/-
  The walk of ExtentBack. No conditions but those that each theorem names.
-/
import Derived.Test.YtgbgpmdhlocjhaaY2
import Derived.Test.YtgbgpmdhlocjhaaX2
namespace Go.Proofs.Ytgbgpmdhlocjhaa
open Go.RowKit
set_option linter.unusedVariables false
set_option linter.unusedSimpArgs false
set_option maxRecDepth 100000

def AllRel (n : Nat) (w0 : World) (cv : Value) (wr : World) : Prop := ∃ k : Nat, k ≤ n ∧ cv = .int .i64 k ∧ Frm [] w0 wr
set_option maxHeartbeats 16000000 in
theorem back_any (v : Value) (l : List Ex) (sp : List Value) (x : Value) (s : List Int) (ssp : List Value) (w : World) (hS : SlX w v l sp) (hw : ∀ x ∈ l, -9223372036854775808 ≤ x.1 ∧ x.1 ≤ 9223372036854775807) (hI : SlI w x s ssp) : Calls Try.prog 7 #[v, x] w (Yes w) := by
  obtain ⟨a, cap, rfl, _, _⟩ := hS.form
  obtain ⟨a2, cap2, rfl, _, _⟩ := hI.form
  have bigcase : (300 < l.length ∨ ¬ 300 < l.length ∧ 500 < s.length) → Calls Try.prog 7 #[.slice a l.length cap, .slice a2 s.length cap2] w (Yes w) := by
    intro hb
    clear hS hw hI
    rcases hb with hb1 | ⟨hb0, hb1⟩
    · have hb9 : (300 : Int) < (l.length : Int) := by omega
      go_enter Try.func7, Try.ntmps7
      go_wp2_with (go_at_call 6; refine Calls.mono (known_any _) ?_; rintro e1 W1 ⟨rfl, f1⟩)
      go_ret
      exact ⟨rfl, f1⟩
    · have hb8 : ¬ (300 : Int) < (l.length : Int) := by omega
      have hb9 : (500 : Int) < (s.length : Int) := by omega
      go_enter Try.func7, Try.ntmps7
      go_wp2_with (go_at_call 6; refine Calls.mono (known_any _) ?_; rintro e1 W1 ⟨rfl, f1⟩)
      go_ret
      exact ⟨rfl, f1⟩
  by_cases hb1 : 300 < l.length
  · exact bigcase (.inl hb1)
  by_cases hb2 : 500 < s.length
  · exact bigcase (.inr ⟨hb1, hb2⟩)
  clear bigcase
  have hb8 : ¬ (300 : Int) < (l.length : Int) := by omega
  have hb9 : ¬ (500 : Int) < (s.length : Int) := by omega
  have hs9 : ((s.length : Nat) : Int) ≤ 500 := by omega
  have HS := Lib.hid hS
  have HI := Lib.hid hI
  have HW := Lib.hid hw
  have HL := Lib.hid (show l.length ≤ 1000000000 ∧ l.length ≤ 1000000 ∧ s.length ≤ 100000 ∧ s.length ≤ 1000000 by omega)
  clear hS hw hI hb1 hb2
  have HCK := Lib.hid (fun W (q : SlX W (.slice a l.length cap) l sp) => Check_any _ l sp W q HL.out.1 HW.out)
  by_cases hg : Good l
  · have HG := Lib.hid hg
    clear hg
    by_cases hr : inR s
    · have HR := Lib.hid hr
      clear hr
      go_enter Try.func7, Try.ntmps7
      go_wp2_with fail
      refine Calls.mono (known_any _) ?_
      rintro e1 W1 ⟨rfl, f1⟩
      have FR1 := Lib.hid ((Frm.refl [] w).trans f1 (by simp))
      clear f1
      go_wp2_with fail
      refine Calls.mono (list_good l HG.out (HS.out.keep0 FR1.out)) ?_
      rintro e2 W2 ⟨vs, ps, rfl, os, f2, ns⟩
      clear ns
      obtain ⟨sa, sc, rfl, _, _⟩ := os.sl.form
      have FR2 := Lib.hid (FR1.out.trans f2 (by simp))
      have S_2 := Lib.hid os
      clear f2 os FR1
      go_wp2_with fail
      refine Calls.mono (of_ex2 _ l 0 (of_secs HG.out) S_2.out.sl (by have := secs_len_le HG.out; omega)) ?_
      rintro e3 W3 ⟨vm, pm, rfl, om, f3, nm⟩
      clear nm
      have FR3 := Lib.hid (FR2.out.trans f3 (by simp))
      have S_3 := Lib.hid (S_2.out.keep0 f3)
      have M_3 := Lib.hid om
      clear f3 S_2 om FR2
      go_wp2_with fail
      refine Calls.mono (SameX_true _ _ l _ _ _ M_3.out.sl (HS.out.keep0 FR3.out) HL.out.2.1) ?_
      rintro e4 W4 ⟨rfl, f4⟩
      have FR4 := Lib.hid (FR3.out.trans f4 (by simp))
      have S_4 := Lib.hid (S_3.out.keep0 f4)
      have M_4 := Lib.hid (M_3.out.keep0 f4)
      clear f4 S_3 M_3 FR3
      clear M_4
      go_wp2_with fail
      refine Calls.mono ((by have q := Count_any _ l _ _ (HS.out.keep0 FR4.out) HL.out.1 HW.out; rw [secs_num HG.out] at q; exact q)) ?_
      rintro e5 W5 ⟨rfl, f5⟩
      have FR5 := Lib.hid (FR4.out.trans f5 (by simp))
      have S_5 := Lib.hid (S_4.out.keep0 f5)
      clear f5 S_4 FR4
      have hqq : ((((secs l).length : Nat) : Int) == (((secs l).length : Nat) : Int)) = true := by simp
      go_wp2_with fail
      refine Calls.mono (rising_true _ _ _ _ S_5.out.sl (by have := secs_len_le HG.out; omega) (secs_inc HG.out)) ?_
      rintro e6 W6 ⟨rfl, f6⟩
      have FR6 := Lib.hid (FR5.out.trans f6 (by simp))
      have S_6 := Lib.hid (S_5.out.keep0 f6)
      clear f6 S_5 FR5
      clear S_6
      go_wp2_with fail
      refine Calls.mono (Of_any _ s _ _ (HI.out.keep0 FR6.out) HL.out.2.2.1) ?_
      rintro e7 W7 ⟨r, d2, h2, vr, pr, rfl, or, f7, nr⟩
      clear nr
      have h3 : d2 = 0 ∧ IsL r (· ∈ s) := by
        rcases h2 with ⟨p, d, h⟩ | ⟨p, d, h⟩
        · exact ⟨d, h⟩
        · exact absurd HR.out p
      obtain ⟨rfl, hr⟩ := h3
      have HRR := Lib.hid hr
      clear hr h2
      have FR7 := Lib.hid (FR6.out.trans f7 (by simp))
      have R_7 := Lib.hid or
      clear f7 or FR6
      go_wp2_with fail
      refine Calls.mono (list_good r HRR.out.1 R_7.out.sl) ?_
      rintro e8 W8 ⟨vb, pb, rfl, ob, f8, nb⟩
      clear nb
      obtain ⟨ba, bc, rfl, _, _⟩ := ob.sl.form
      have hbl := secs_len_le HRR.out.1
      have hbl9 : (((secs r).length : Nat) : Int) ≤ 4096 := by omega
      have HBL := Lib.hid hbl
      clear hbl
      have FR8 := Lib.hid (FR7.out.trans f8 (by simp))
      have R_8 := Lib.hid (R_7.out.keep0 f8)
      have B_8 := Lib.hid ob
      clear f8 R_7 ob FR7
      go_wp2_with fail
      refine Calls.mono (chk_good r HRR.out.1 R_8.out.sl) ?_
      rintro e9 W9 ⟨rfl, f9⟩
      have FR9 := Lib.hid (FR8.out.trans f9 (by simp))
      have R_9 := Lib.hid (R_8.out.keep0 f9)
      have B_9 := Lib.hid (B_8.out.keep0 f9)
      clear f9 R_8 B_8 FR8
      clear R_9
      go_wp2_with fail
      refine Calls.mono (rising_true _ _ _ _ B_9.out.sl (by have := HBL.out; omega) (secs_inc HRR.out.1)) ?_
      rintro e10 W10 ⟨rfl, f10⟩
      have FR10 := Lib.hid (FR9.out.trans f10 (by simp))
      have B_10 := Lib.hid (B_9.out.keep0 f10)
      clear f10 B_9 FR9
      have HMEM := Lib.hid (show ∀ t, t ∈ secs r ↔ t ∈ s from fun t => (mem_secs).trans (HRR.out.2 t))
      generalize secs r = back at *
      generalize hbn : back.length = bn at *
      have HBN := Lib.hid hbn
      clear hbn
      go_wp2_with fail
      go_loopw [14] (AllRel s.length W10) (fun cv _ => s.length - (intOf cv).toNat)
      case atStart => exact ⟨0, by omega, rfl, Frm.refl _ _⟩
      case round =>
        obtain ⟨k, hk, rfl, f⟩ := hrel
        by_cases hlt : k < s.length
        · obtain ⟨b0, off, rfl⟩ := HI.out.at (by omega)
          have c0 := cellI (HI.out.keep0 (FR10.out.trans f (by simp))) k hlt
          have HA := Lib.hid (among_true _ back s[k] _ wr ((B_10.out).keep0 f).sl (by have := HBL.out; have := HBN.out; omega) ((HMEM.out _).2 (List.getElem_mem hlt)))
          generalize s[k] = y at *
          have F := Lib.hid f
          clear f
          go_wp2_with (go_at_call 38; refine Calls.mono (HA.out) ?_; rintro ee W9 ⟨rfl, f9⟩)
          go_roundw
          case rel => exact ⟨k + 1, by omega, by go_num, F.out.trans f9 (by simp)⟩
          case measure => simp [intOf]; omega
        · obtain rfl : k = s.length := by omega
          have F := Lib.hid f
          clear f
          go_wp2_with fail
          go_loopw [15] (AllRel bn W10) (fun cv _ => bn - (intOf cv).toNat)
          case atStart => exact ⟨0, by omega, rfl, F.out⟩
          case round =>
            obtain ⟨k2, hk2, rfl, f2⟩ := hrel
            by_cases hlt2 : k2 < bn
            · have hlt3 : k2 < back.length := by rw [HBN.out]; exact hlt2
              have HB9 := Lib.hid ((B_10.out).keep0 f2)
              obtain ⟨b0, off, rfl⟩ := HB9.out.sl.at (by omega)
              have c0 := cellI HB9.out.sl k2 hlt3
              have HA := Lib.hid (among_true _ s back[k2] _ wr (HI.out.keep0 (FR10.out.trans f2 (by simp))) HL.out.2.2.2 ((HMEM.out _).1 (List.getElem_mem hlt3)))
              generalize back[k2] = y at *
              have F2 := Lib.hid f2
              clear f2 hlt3
              go_wp2_with (go_at_call 38; refine Calls.mono (HA.out) ?_; rintro ee W9 ⟨rfl, f9⟩)
              go_roundw
              case rel => exact ⟨k2 + 1, by omega, by go_num, F2.out.trans f9 (by simp)⟩
              case measure => simp [intOf]; omega
            · obtain rfl : k2 = bn := by omega
              have F2 := Lib.hid (FR10.out.trans f2 (by simp))
              clear f2
              go_wp2_with fail
              refine Calls.mono (chk_good l HG.out (HS.out.keep0 F2.out)) ?_
              rintro ee W9 ⟨rfl, f9⟩
              go_wp2_with fail
              go_ret
              exact ⟨rfl, F2.out.trans f9 (by simp)⟩
    · have HR := Lib.hid hr
      clear hr
      go_enter Try.func7, Try.ntmps7
      go_wp2_with fail
      refine Calls.mono (known_any _) ?_
      rintro e1 W1 ⟨rfl, f1⟩
      have FR1 := Lib.hid ((Frm.refl [] w).trans f1 (by simp))
      clear f1
      go_wp2_with fail
      refine Calls.mono (list_good l HG.out (HS.out.keep0 FR1.out)) ?_
      rintro e2 W2 ⟨vs, ps, rfl, os, f2, ns⟩
      clear ns
      obtain ⟨sa, sc, rfl, _, _⟩ := os.sl.form
      have FR2 := Lib.hid (FR1.out.trans f2 (by simp))
      have S_2 := Lib.hid os
      clear f2 os FR1
      go_wp2_with fail
      refine Calls.mono (of_ex2 _ l 0 (of_secs HG.out) S_2.out.sl (by have := secs_len_le HG.out; omega)) ?_
      rintro e3 W3 ⟨vm, pm, rfl, om, f3, nm⟩
      clear nm
      have FR3 := Lib.hid (FR2.out.trans f3 (by simp))
      have S_3 := Lib.hid (S_2.out.keep0 f3)
      have M_3 := Lib.hid om
      clear f3 S_2 om FR2
      go_wp2_with fail
      refine Calls.mono (SameX_true _ _ l _ _ _ M_3.out.sl (HS.out.keep0 FR3.out) HL.out.2.1) ?_
      rintro e4 W4 ⟨rfl, f4⟩
      have FR4 := Lib.hid (FR3.out.trans f4 (by simp))
      have S_4 := Lib.hid (S_3.out.keep0 f4)
      have M_4 := Lib.hid (M_3.out.keep0 f4)
      clear f4 S_3 M_3 FR3
      clear M_4
      go_wp2_with fail
      refine Calls.mono ((by have q := Count_any _ l _ _ (HS.out.keep0 FR4.out) HL.out.1 HW.out; rw [secs_num HG.out] at q; exact q)) ?_
      rintro e5 W5 ⟨rfl, f5⟩
      have FR5 := Lib.hid (FR4.out.trans f5 (by simp))
      have S_5 := Lib.hid (S_4.out.keep0 f5)
      clear f5 S_4 FR4
      have hqq : ((((secs l).length : Nat) : Int) == (((secs l).length : Nat) : Int)) = true := by simp
      go_wp2_with fail
      refine Calls.mono (rising_true _ _ _ _ S_5.out.sl (by have := secs_len_le HG.out; omega) (secs_inc HG.out)) ?_
      rintro e6 W6 ⟨rfl, f6⟩
      have FR6 := Lib.hid (FR5.out.trans f6 (by simp))
      have S_6 := Lib.hid (S_5.out.keep0 f6)
      clear f6 S_5 FR5
      clear S_6
      go_wp2_with fail
      refine Calls.mono (Of_any _ s _ _ (HI.out.keep0 FR6.out) HL.out.2.2.1) ?_
      rintro e7 W7 ⟨r, d2, h2, vr, pr, rfl, or, f7, nr⟩
      clear nr
      have h3 : d2 = 2 ∧ r = [] := by
        rcases h2 with ⟨p, d, h⟩ | ⟨p, d, h⟩
        · exact absurd p HR.out
        · exact ⟨d, h⟩
      obtain ⟨rfl, rfl⟩ := h3
      clear h2
      obtain ⟨ra, rc, rfl, _, _⟩ := or.sl.form
      have FR7 := Lib.hid (FR6.out.trans f7 (by simp))
      have R_7 := Lib.hid or
      clear f7 or FR6
      clear R_7
      go_wp2_with fail
      refine Calls.mono (chk_good l HG.out (HS.out.keep0 FR7.out)) ?_
      rintro e8 W8 ⟨rfl, f8⟩
      have FR8 := Lib.hid (FR7.out.trans f8 (by simp))
      clear f8 FR7
      go_wp2_with fail
      go_ret
      exact ⟨rfl, FR8.out⟩
  · have HG := Lib.hid hg
    clear hg
    by_cases hr : inR s
    · have HR := Lib.hid hr
      clear hr
      go_enter Try.func7, Try.ntmps7
      go_wp2_with fail
      refine Calls.mono (known_any _) ?_
      rintro e1 W1 ⟨rfl, f1⟩
      have FR1 := Lib.hid ((Frm.refl [] w).trans f1 (by simp))
      clear f1
      go_wp2_with fail
      refine Calls.mono (List_any _ l _ _ (HS.out.keep0 FR1.out) HL.out.1 HW.out) ?_
      rintro e2 W2 ⟨t1, d1, h1, v1, p1, rfl, o1, f2, n1⟩
      clear n1
      obtain ⟨rfl, rfl⟩ := h1.eq (show ListP l [] 2 from .inr ⟨HG.out, rfl, rfl⟩)
      clear h1
      have FR2 := Lib.hid (FR1.out.trans f2 (by simp))
      have S_2 := Lib.hid o1
      clear f2 o1 FR1
      clear S_2
      go_wp2_with fail
      refine Calls.mono (Of_any _ s _ _ (HI.out.keep0 FR2.out) HL.out.2.2.1) ?_
      rintro e3 W3 ⟨r, d2, h2, vr, pr, rfl, or, f3, nr⟩
      clear nr
      have h3 : d2 = 0 ∧ IsL r (· ∈ s) := by
        rcases h2 with ⟨p, d, h⟩ | ⟨p, d, h⟩
        · exact ⟨d, h⟩
        · exact absurd HR.out p
      obtain ⟨rfl, hr⟩ := h3
      have HRR := Lib.hid hr
      clear hr h2
      have FR3 := Lib.hid (FR2.out.trans f3 (by simp))
      have R_3 := Lib.hid or
      clear f3 or FR2
      go_wp2_with fail
      refine Calls.mono (list_good r HRR.out.1 R_3.out.sl) ?_
      rintro e4 W4 ⟨vb, pb, rfl, ob, f4, nb⟩
      clear nb
      obtain ⟨ba, bc, rfl, _, _⟩ := ob.sl.form
      have hbl := secs_len_le HRR.out.1
      have hbl9 : (((secs r).length : Nat) : Int) ≤ 4096 := by omega
      have HBL := Lib.hid hbl
      clear hbl
      have FR4 := Lib.hid (FR3.out.trans f4 (by simp))
      have R_4 := Lib.hid (R_3.out.keep0 f4)
      have B_4 := Lib.hid ob
      clear f4 R_3 ob FR3
      go_wp2_with fail
      refine Calls.mono (chk_good r HRR.out.1 R_4.out.sl) ?_
      rintro e5 W5 ⟨rfl, f5⟩
      have FR5 := Lib.hid (FR4.out.trans f5 (by simp))
      have R_5 := Lib.hid (R_4.out.keep0 f5)
      have B_5 := Lib.hid (B_4.out.keep0 f5)
      clear f5 R_4 B_4 FR4
      clear R_5
      go_wp2_with fail
      refine Calls.mono (rising_true _ _ _ _ B_5.out.sl (by have := HBL.out; omega) (secs_inc HRR.out.1)) ?_
      rintro e6 W6 ⟨rfl, f6⟩
      have FR6 := Lib.hid (FR5.out.trans f6 (by simp))
      have B_6 := Lib.hid (B_5.out.keep0 f6)
      clear f6 B_5 FR5
      have HMEM := Lib.hid (show ∀ t, t ∈ secs r ↔ t ∈ s from fun t => (mem_secs).trans (HRR.out.2 t))
      generalize secs r = back at *
      generalize hbn : back.length = bn at *
      have HBN := Lib.hid hbn
      clear hbn
      go_wp2_with fail
      go_loopw [14] (AllRel s.length W6) (fun cv _ => s.length - (intOf cv).toNat)
      case atStart => exact ⟨0, by omega, rfl, Frm.refl _ _⟩
      case round =>
        obtain ⟨k, hk, rfl, f⟩ := hrel
        by_cases hlt : k < s.length
        · obtain ⟨b0, off, rfl⟩ := HI.out.at (by omega)
          have c0 := cellI (HI.out.keep0 (FR6.out.trans f (by simp))) k hlt
          have HA := Lib.hid (among_true _ back s[k] _ wr ((B_6.out).keep0 f).sl (by have := HBL.out; have := HBN.out; omega) ((HMEM.out _).2 (List.getElem_mem hlt)))
          generalize s[k] = y at *
          have F := Lib.hid f
          clear f
          go_wp2_with (go_at_call 38; refine Calls.mono (HA.out) ?_; rintro ee W9 ⟨rfl, f9⟩)
          go_roundw
          case rel => exact ⟨k + 1, by omega, by go_num, F.out.trans f9 (by simp)⟩
          case measure => simp [intOf]; omega
        · obtain rfl : k = s.length := by omega
          have F := Lib.hid f
          clear f
          go_wp2_with fail
          go_loopw [15] (AllRel bn W6) (fun cv _ => bn - (intOf cv).toNat)
          case atStart => exact ⟨0, by omega, rfl, F.out⟩
          case round =>
            obtain ⟨k2, hk2, rfl, f2⟩ := hrel
            by_cases hlt2 : k2 < bn
            · have hlt3 : k2 < back.length := by rw [HBN.out]; exact hlt2
              have HB9 := Lib.hid ((B_6.out).keep0 f2)
              obtain ⟨b0, off, rfl⟩ := HB9.out.sl.at (by omega)
              have c0 := cellI HB9.out.sl k2 hlt3
              have HA := Lib.hid (among_true _ s back[k2] _ wr (HI.out.keep0 (FR6.out.trans f2 (by simp))) HL.out.2.2.2 ((HMEM.out _).1 (List.getElem_mem hlt3)))
              generalize back[k2] = y at *
              have F2 := Lib.hid f2
              clear f2 hlt3
              go_wp2_with (go_at_call 38; refine Calls.mono (HA.out) ?_; rintro ee W9 ⟨rfl, f9⟩)
              go_roundw
              case rel => exact ⟨k2 + 1, by omega, by go_num, F2.out.trans f9 (by simp)⟩
              case measure => simp [intOf]; omega
            · obtain rfl : k2 = bn := by omega
              have F2 := Lib.hid (FR6.out.trans f2 (by simp))
              clear f2
              go_wp2_with fail
              refine Calls.mono (chk_bad l HG.out (HS.out.keep0 F2.out) HL.out.1 HW.out) ?_
              rintro ee W9 ⟨rfl, f9⟩
              go_wp2_with fail
              go_ret
              exact ⟨rfl, F2.out.trans f9 (by simp)⟩
    · have HR := Lib.hid hr
      clear hr
      go_enter Try.func7, Try.ntmps7
      go_wp2_with fail
      refine Calls.mono (known_any _) ?_
      rintro e1 W1 ⟨rfl, f1⟩
      have FR1 := Lib.hid ((Frm.refl [] w).trans f1 (by simp))
      clear f1
      go_wp2_with fail
      refine Calls.mono (List_any _ l _ _ (HS.out.keep0 FR1.out) HL.out.1 HW.out) ?_
      rintro e2 W2 ⟨t1, d1, h1, v1, p1, rfl, o1, f2, n1⟩
      clear n1
      obtain ⟨rfl, rfl⟩ := h1.eq (show ListP l [] 2 from .inr ⟨HG.out, rfl, rfl⟩)
      clear h1
      have FR2 := Lib.hid (FR1.out.trans f2 (by simp))
      have S_2 := Lib.hid o1
      clear f2 o1 FR1
      clear S_2
      go_wp2_with fail
      refine Calls.mono (Of_any _ s _ _ (HI.out.keep0 FR2.out) HL.out.2.2.1) ?_
      rintro e3 W3 ⟨r, d2, h2, vr, pr, rfl, or, f3, nr⟩
      clear nr
      have h3 : d2 = 2 ∧ r = [] := by
        rcases h2 with ⟨p, d, h⟩ | ⟨p, d, h⟩
        · exact absurd p HR.out
        · exact ⟨d, h⟩
      obtain ⟨rfl, rfl⟩ := h3
      clear h2
      obtain ⟨ra, rc, rfl, _, _⟩ := or.sl.form
      have FR3 := Lib.hid (FR2.out.trans f3 (by simp))
      have R_3 := Lib.hid or
      clear f3 or FR2
      clear R_3
      go_wp2_with fail
      refine Calls.mono (chk_bad l HG.out (HS.out.keep0 FR3.out) HL.out.1 HW.out) ?_
      rintro e4 W4 ⟨rfl, f4⟩
      have FR4 := Lib.hid (FR3.out.trans f4 (by simp))
      clear f4 FR3
      go_wp2_with fail
      go_ret
      exact ⟨rfl, FR4.out⟩
end Go.Proofs.Ytgbgpmdhlocjhaa
