/-
  The walk of ExtentFirst. No conditions but those that each theorem names.
-/
import Derived.Test.YtgbgpmdhlocjhaaY1
namespace Go.Proofs.Ytgbgpmdhlocjhaa
open Go.RowKit
set_option linter.unusedVariables false
set_option linter.unusedSimpArgs false
set_option maxRecDepth 100000

set_option maxHeartbeats 16000000 in
theorem first_any (v : Value) (l : List Ex) (sp : List Value) (n : Int) (w : World) (hS : SlX w v l sp) (hw : ∀ x ∈ l, -9223372036854775808 ≤ x.1 ∧ x.1 ≤ 9223372036854775807) (hwf : (Lit.int .i64 n).wf = true) : Calls Try.prog 9 #[v, .int .i64 n] w (Yes w) := by
  obtain ⟨a, cap, rfl, _, _⟩ := hS.form
  have HP := Lib.hid (fun W => Pick_any n hwf W)
  obtain ⟨hp0, hp1⟩ := pick_range n 4201 (by decide)
  obtain ⟨N, hN⟩ : ∃ N : Nat, pick n 4201 = (N : Int) := ⟨(pick n 4201).toNat, by omega⟩
  rw [hN] at HP hp1
  have HS := Lib.hid hS
  have HW := Lib.hid hw
  clear hS hw hwf hp0 hN
  have hp9 : (N : Int) < 4201 := hp1
  clear hp1
  by_cases hb1 : 300 < l.length
  · have hb9 : (300 : Int) < (l.length : Int) := by omega
    go_enter Try.func9, Try.ntmps9
    go_wp2_with (first
      | (go_at_call 10; refine Calls.mono (awake_any _) ?_; rintro e1 W1 ⟨rfl, f1⟩)
      | (go_at_call 39; refine Calls.mono (HP.out _) ?_; rintro e2 W2 ⟨rfl, hW2⟩; rw [hW2]; clear hW2 W2))
    go_ret
    exact ⟨rfl, f1⟩
  have hb8 : ¬ (300 : Int) < (l.length : Int) := by omega
  have HL := Lib.hid (show l.length ≤ 1000000000 ∧ l.length ≤ 1000000 by omega)
  clear hb1
  by_cases hg : Good l
  · have HG := Lib.hid hg
    have hcb := cntE_le hg
    have hnum : numE l = cntE l := by unfold numE; rw [if_pos hg]
    have HNUM := Lib.hid hnum
    have HCN := Lib.hid (show ∀ W, SlX W (.slice a l.length cap) l sp → Calls Try.prog 21 #[.slice a l.length cap] W fun e w' => e = .returned (.int .i64 (cntE l)) ∧ Frm [] W w' from fun W q => by have := Count_any _ l sp W q HL.out.1 HW.out; rw [hnum] at this; exact this)
    clear hg hnum
    by_cases hle : (N : Int) ≤ cntE l
    · have HLE := Lib.hid hle
      go_enter Try.func9, Try.ntmps9
      go_wp2_with fail
      refine Calls.mono (awake_any _) ?_
      rintro e1 W1 ⟨rfl, f1⟩
      have FR1 := Lib.hid ((Frm.refl [] w).trans f1 (by simp))
      clear f1
      go_wp2_with fail
      refine Calls.mono (HP.out _) ?_
      rintro ep Wp ⟨rfl, hWp⟩
      rw [hWp]
      clear hWp Wp
      go_wp2_with fail
      refine Calls.mono (chk_good l HG.out (HS.out.keep0 FR1.out)) ?_
      rintro e2 W2 ⟨rfl, f2⟩
      have FR2 := Lib.hid (FR1.out.trans f2 (by simp))
      clear f2 FR1
      go_wp2_with fail
      refine Calls.mono (Lowest_any _ l (N : Int) _ _ (HS.out.keep0 FR2.out) HL.out.1 HW.out (by omega)) ?_
      rintro e3 W3 ⟨low, d1, k1, vx1, px1, rfl, o1, f3, n1⟩
      clear n1
      have hlow : d1 = 0 ∧ IsL low (fun s => s ∈ (secs l).take N) := by
        rcases k1 with ⟨_, _, _, d, h⟩ | ⟨_, _, h, _⟩ | ⟨h | h, _⟩
        · exact ⟨d, by simpa using h⟩
        · have := HLE.out; omega
        · exact absurd HG.out h
        · omega
      obtain ⟨rfl, hlow⟩ := hlow
      have HLOW := Lib.hid hlow
      clear hlow k1
      have FR3 := Lib.hid (FR2.out.trans f3 (by simp))
      have X1_3 := Lib.hid o1
      clear f3 o1 FR2
      have hleB : decide ((N : Int) ≤ cntE l) = true := decide_eq_true HLE.out
      go_wp2_with fail
      refine Calls.mono (HCN.out _ (HS.out.keep0 FR3.out)) ?_
      rintro e4 W4 ⟨rfl, f4⟩
      have FR4 := Lib.hid (FR3.out.trans f4 (by simp))
      have X1_4 := Lib.hid (X1_3.out.keep0 f4)
      clear f4 X1_3 FR3
      obtain ⟨lb, lc, lform, _, _⟩ := X1_4.out.sl.form
      subst lform
      go_wp2_with fail
      refine Calls.mono (Cut_any _ _ l low _ _ _ (HS.out.keep0 FR4.out) HG.out.big HG.out.sm X1_4.out.sl (HLOW.out.1).big (HLOW.out.1).sm) ?_
      rintro e5 W5 ⟨rest, d2, k2, vx2, px2, rfl, o2, f5, n2⟩
      clear n2
      obtain ⟨rfl, q2, t2⟩ := mkp_good rfl k2 HG.out HLOW.out.1
      have GQ := Lib.hid q2
      have GT := Lib.hid (show ∀ s, hasB rest s = (hasB l s && !hasB low s) from t2)
      clear q2 t2 k2
      have HC1 := Lib.hid (low_num HG.out HLE.out HLOW.out)
      have HC2 := Lib.hid (show numE rest = cntE l - (N : Int) by rw [cut_counts HG.out HLOW.out.1 GQ.out (low_sub HLOW.out) GT.out, HC1.out, HNUM.out])
      have hwsub : IntKind.i64.wrap (cntE l - (N : Int)) = cntE l - (N : Int) := IntWalk.i64_in _ (by omega)
      have FR5 := Lib.hid (FR4.out.trans f5 (by simp))
      have X1_5 := Lib.hid (X1_4.out.keep0 f5)
      have X2_5 := Lib.hid o2
      clear f5 X1_4 o2 FR4
      obtain ⟨rb, rc, rform, _, _⟩ := X2_5.out.sl.form
      subst rform
      go_wp2_with fail
      refine Calls.mono ((by have q := Count_any _ low _ _ X1_5.out.sl (HLOW.out.1).big (HLOW.out.1).sm; rw [HC1.out] at q; exact q)) ?_
      rintro e6 W6 ⟨rfl, f6⟩
      have FR6 := Lib.hid (FR5.out.trans f6 (by simp))
      have X1_6 := Lib.hid (X1_5.out.keep0 f6)
      have X2_6 := Lib.hid (X2_5.out.keep0 f6)
      clear f6 X1_5 X2_5 FR5
      go_wp2_with fail
      refine Calls.mono (wi_ex (b := true) (Within_any _ _ low l _ _ _ X1_6.out.sl (HLOW.out.1).big (HLOW.out.1).sm (HS.out.keep0 FR6.out) HG.out.big HG.out.sm) (mkp_of (r := []) HLOW.out.1 HG.out Good.nil (fun s => by have := low_sub HLOW.out s; cases h1 : hasB low s <;> cases h2 : hasB l s <;> first | rfl | (rw [h1, h2] at this; cases (this rfl)))) (by decide)) ?_
      rintro e7 W7 ⟨rfl, f7⟩
      have FR7 := Lib.hid (FR6.out.trans f7 (by simp))
      have X1_7 := Lib.hid (X1_6.out.keep0 f7)
      have X2_7 := Lib.hid (X2_6.out.keep0 f7)
      clear f7 X1_6 X2_6 FR6
      go_wp2_with fail
      refine Calls.mono ((by have q := Count_any _ rest _ _ X2_7.out.sl GQ.out.big GQ.out.sm; rw [HC2.out] at q; exact q)) ?_
      rintro e8 W8 ⟨rfl, f8⟩
      have FR8 := Lib.hid (FR7.out.trans f8 (by simp))
      have X1_8 := Lib.hid (X1_7.out.keep0 f8)
      have X2_8 := Lib.hid (X2_7.out.keep0 f8)
      clear f8 X1_7 X2_7 FR7
      go_wp2_with fail
      refine Calls.mono (HCN.out _ (HS.out.keep0 FR8.out)) ?_
      rintro e9 W9 ⟨rfl, f9⟩
      have FR9 := Lib.hid (FR8.out.trans f9 (by simp))
      have X1_9 := Lib.hid (X1_8.out.keep0 f9)
      have X2_9 := Lib.hid (X2_8.out.keep0 f9)
      clear f9 X1_8 X2_8 FR8
      clear hleB
      cases low with
      | nil =>
        go_wp2_with fail
        go_ret
        exact ⟨rfl, FR9.out⟩
      | cons y0 low0 =>
        have hl1 : ((((y0 :: low0).length : Nat) : Int) == 0) = false := by simp only [List.length_cons, beq_eq_false_iff_ne]; omega
        have HLLEN := Lib.hid (show (y0 :: low0).length = low0.length + 1 from rfl)
        obtain ⟨low, hlow9⟩ : ∃ low, low = y0 :: low0 := ⟨_, rfl⟩
        rw [← hlow9] at X1_9 HLOW GT HLLEN hl1 ⊢
        have hxx : low0.length < low.length := by have := HLLEN.out; omega
        clear hlow9
        have HXX := Lib.hid hxx
        obtain ⟨lbb, rfl⟩ : ∃ lbb, lb = some lbb := by obtain ⟨b1, o1, h⟩ := X1_9.out.sl.at (by omega); exact ⟨_, h⟩
        obtain ⟨b1, off1, hb1⟩ := X1_9.out.sl.at (by omega)
        cases hb1
        obtain ⟨c0, c1⟩ := cellsX X1_9.out.sl low0.length hxx
        have HBEL := Lib.hid (fun y (hy : y ∈ rest) => low_below HG.out HLOW.out GQ.out GT.out (List.getElem_mem hxx) hy)
        have hxg := HLOW.out.1.1 low[low0.length] (List.getElem_mem _)
        have hlen5 := HLOW.out.1.len
        generalize low[low0.length] = x at *
        have hwl : IntKind.i64.wrap (((low.length : Nat) : Int) - 1) = ((low0.length : Nat) : Int) := by rw [IntWalk.i64_in _ (by omega)]; have := HLLEN.out; omega
        have hlt9 : ((low0.length : Nat) : Int) < ((low.length : Nat) : Int) := by omega
        have hws : IntKind.i64.wrap (x.1 + x.2) = x.1 + x.2 := IntWalk.i64_in _ (by omega)
        clear hxx hlen5
        have HLLEN2 := HLLEN
        generalize low0.length = ln0 at *
        generalize hln : low.length = ln at *
        clear hln
        cases rest with
        | nil =>
          go_wp2_with fail
          go_ret
          exact ⟨rfl, FR9.out⟩
        | cons z0 rest0 =>
          have hl2 : ((((z0 :: rest0).length : Nat) : Int) == 0) = false := by simp only [List.length_cons, beq_eq_false_iff_ne]; omega
          have hlt8 : (0 : Int) < (((z0 :: rest0).length : Nat) : Int) := by simp only [List.length_cons]; omega
          have hzb := HBEL.out z0 (by simp)
          obtain ⟨b2, off2, hb2⟩ := X2_9.out.sl.at (by simp)
          subst hb2
          obtain ⟨e0, e1⟩ := cellsX X2_9.out.sl 0 (by simp)
          simp only [List.getElem_cons_zero, Nat.zero_mul, Nat.add_zero] at e0 e1
          generalize (z0 :: rest0).length = rl at *
          have hfin : decide (x.1 + x.2 ≤ z0.1) = true := decide_eq_true hzb
          go_upto_region 16 with (fail)
          have f10 : Frm [] W9 (W9.alloc (.cells #[.int .i64 x.1, .int .i64 x.2] 47)) := (Frm.refl _ _).alloc _
          have hb10 := heap_alloc_new W9 (.cells #[.int .i64 x.1, .int .i64 x.2] 47)
          generalize W9.alloc (.cells #[.int .i64 x.1, .int .i64 x.2] 47) = W10 at *
          generalize W9.heap.size = g10 at *
          have d0 : W10.cell? ⟨g10, 0, none⟩ = some (.int .i64 x.1) := by rw [cell_of_heap hb10]; rfl
          have d1 : W10.cell? ⟨g10, 1, none⟩ = some (.int .i64 x.2) := by rw [cell_of_heap hb10]; rfl
          have q0 := f10.cell e0 (by simp)
          have FRL := Lib.hid (FR9.out.trans f10 (by simp))
          clear hb10 f10 e0 e1 c0 c1
          go_quiet (fail)
          go_wp2_with fail
          go_ret
          exact ⟨rfl, FRL.out.drewN _⟩
    · have HLE := Lib.hid (show cntE l < (N : Int) by omega)
      clear hle
      go_enter Try.func9, Try.ntmps9
      go_wp2_with fail
      refine Calls.mono (awake_any _) ?_
      rintro e1 W1 ⟨rfl, f1⟩
      have FR1 := Lib.hid ((Frm.refl [] w).trans f1 (by simp))
      clear f1
      go_wp2_with fail
      refine Calls.mono (HP.out _) ?_
      rintro ep Wp ⟨rfl, hWp⟩
      rw [hWp]
      clear hWp Wp
      go_wp2_with fail
      refine Calls.mono (chk_good l HG.out (HS.out.keep0 FR1.out)) ?_
      rintro e2 W2 ⟨rfl, f2⟩
      have FR2 := Lib.hid (FR1.out.trans f2 (by simp))
      clear f2 FR1
      go_wp2_with fail
      refine Calls.mono (Lowest_any _ l (N : Int) _ _ (HS.out.keep0 FR2.out) HL.out.1 HW.out (by omega)) ?_
      rintro e3 W3 ⟨low, d1, k1, vx1, px1, rfl, o1, f3, n1⟩
      clear n1
      have hlow : d1 = 8 ∧ low = [] := by
        rcases k1 with ⟨_, _, h, _⟩ | ⟨_, _, _, d, h⟩ | ⟨h | h, _⟩
        · have := HLE.out; omega
        · exact ⟨d, h⟩
        · exact absurd HG.out h
        · omega
      obtain ⟨rfl, rfl⟩ := hlow
      obtain ⟨lb, lc, rfl, _, _⟩ := o1.sl.form
      clear k1
      have FR3 := Lib.hid (FR2.out.trans f3 (by simp))
      have X1_3 := Lib.hid o1
      clear f3 o1 FR2
      have hleB : decide ((N : Int) ≤ cntE l) = false := decide_eq_false (by have := HLE.out; omega)
      have hlt9 : ¬ (N : Int) ≤ cntE l := by have := HLE.out; omega
      go_wp2_with fail
      refine Calls.mono (HCN.out _ (HS.out.keep0 FR3.out)) ?_
      rintro e4 W4 ⟨rfl, f4⟩
      have FR4 := Lib.hid (FR3.out.trans f4 (by simp))
      have X1_4 := Lib.hid (X1_3.out.keep0 f4)
      clear f4 X1_3 FR3
      go_wp2_with fail
      go_ret
      exact ⟨rfl, FR4.out⟩
  · have HB := Lib.hid hg
    clear hg
    go_enter Try.func9, Try.ntmps9
    go_wp2_with fail
    refine Calls.mono (awake_any _) ?_
    rintro e1 W1 ⟨rfl, f1⟩
    have FR1 := Lib.hid ((Frm.refl [] w).trans f1 (by simp))
    clear f1
    go_wp2_with fail
    refine Calls.mono (HP.out _) ?_
    rintro ep Wp ⟨rfl, hWp⟩
    rw [hWp]
    clear hWp Wp
    go_wp2_with fail
    refine Calls.mono (chk_bad l HB.out (HS.out.keep0 FR1.out) HL.out.1 HW.out) ?_
    rintro e2 W2 ⟨rfl, f2⟩
    have FR2 := Lib.hid (FR1.out.trans f2 (by simp))
    clear f2 FR1
    go_wp2_with fail
    go_ret
    exact ⟨rfl, FR2.out⟩
end Go.Proofs.Ytgbgpmdhlocjhaa
