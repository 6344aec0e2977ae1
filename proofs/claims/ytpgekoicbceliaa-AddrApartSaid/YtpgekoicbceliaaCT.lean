/-
  The walk of AddrApart. No conditions but those that the theorem names.
-/
import Derived.Test.YtpgekoicbceliaaCS
namespace Go.Proofs.Ytpgekoicbceliaa
open Go.RowKit Go.Sort Go.Maps
set_option linter.unusedVariables false
set_option linter.unusedSimpArgs false
set_option maxRecDepth 100000

/-- Each of the first k has its device for itself. -/
def EachK (l : List Ad) (k : Nat) : Prop := ∀ j (h : j < l.length), j < k → onD l[j].1 l = 1
theorem EachK.zero (l : List Ad) : EachK l 0 := fun j _ h => absurd h (Nat.not_lt_zero _)
theorem EachK.succ {l : List Ad} {k : Nat} (hk : k < l.length) : EachK l (k + 1) ↔ (EachK l k ∧ onD l[k].1 l = 1) := by
  constructor
  · exact fun h => ⟨fun j hj hjk => h j hj (by omega), h k hk (by omega)⟩
  · rintro ⟨h1, h2⟩ j hj hjk
    by_cases e : j = k
    · subst e; exact h2
    · exact h1 j hj (by omega)
theorem EachK.all (l : List Ad) : EachK l l.length ↔ (devs l).Nodup := by
  rw [← onD_one]
  constructor
  · intro h x hx
    obtain ⟨j, hj, rfl⟩ := List.getElem_of_mem hx
    exact h j hj hj
  · exact fun h j hj _ => h _ (List.getElem_mem _)
def OutRel (l : List Ad) (w0 : World) (ev cv : Value) (wr : World) : Prop := ∃ (k : Nat) (e : Bool), k ≤ l.length ∧ cv = .int .i64 k ∧ ev = .bool e ∧ (e = true ↔ EachK l k) ∧ Frm [] w0 wr
def InRel (l : List Ad) (d : Int) (w0 : World) (nv cv : Value) (wr : World) : Prop := ∃ j : Nat, j ≤ l.length ∧ cv = .int .i64 j ∧ nv = .int .i64 (onD d (l.take j) : Nat) ∧ Frm [] w0 wr
set_option maxHeartbeats 8000000 in
theorem apart_row (va : Value) (l sp : List Ad) (vb : Value) (m msp : List Ad) (w : World) (hA : SlA w va l sp) (hwa : ∀ x ∈ l, WfA x) (hB : SlA w vb m msp) (hwb : ∀ x ∈ m, WfA x) : Calls Try.prog 8 #[va, vb] w (Yes w) := by
  obtain ⟨Aa, Ac, rfl, ha1, ha2⟩ := hA.form
  obtain ⟨Ba, Bc, rfl, hb1, hb2⟩ := hB.form
  have hla : l.length ≤ maxLen := by omega
  have hlb : m.length ≤ maxLen := by omega
  by_cases hlong : 200 < l.length ∨ 200 < m.length
  · have HL := Lib.hid hlong
    have H1 := Lib.hid hla
    have H2 := Lib.hid hlb
    clear hA hB hwa hwb hlong ha1 ha2 hb1 hb2 hla hlb
    go_enter Try.func8, Try.ntmps8
    go_wp2_with fail
    refine (awake_any _).mono ?_
    rintro r w1 ⟨rfl, f1⟩
    have F1 := Lib.hid f1
    clear f1
    go_wp2_with fail
    refine (long_yes _ _ _ _ _ _ _ H1.out H2.out HL.out).mono ?_
    rintro r w2 ⟨rfl, hw2⟩
    subst hw2
    go_wp2_with fail
    go_ret
    exact ⟨rfl, F1.out⟩
  · have ha : l.length ≤ 200 := by omega
    have hb : m.length ≤ 200 := by omega
    have LA := Lib.hid (show l.length ≤ 1000 by omega)
    have LB := Lib.hid (show m.length ≤ 1000 by omega)
    have WA := Lib.hid hwa
    have WB := Lib.hid hwb
    have i1 : (l.length : Int) ≤ 200 := by omega
    have H1 := Lib.hid hla
    have H2 := Lib.hid hlb
    have H3 := Lib.hid ha
    have H4 := Lib.hid hb
    have TA := Lib.hid hA
    have TB := Lib.hid hB
    clear hA hB hwa hwb hlong ha1 ha2 hb1 hb2 hla hlb ha hb
    go_enter Try.func8, Try.ntmps8
    go_wp2_with fail
    refine (awake_any _).mono ?_
    rintro r w1 ⟨rfl, f1⟩
    have F1 := Lib.hid f1
    have SA := Lib.hid (TA.out.keep f1 (by simp))
    have SB := Lib.hid (TB.out.keep f1 (by simp))
    clear f1 TA TB
    go_wp2_with fail
    refine (long_no _ _ _ _ _ _ _ H1.out H2.out H3.out H4.out).mono ?_
    rintro r w2' ⟨rfl, hw2⟩
    subst hw2
    go_wp2_with fail
    go_loopw [6, 7] (OutRel l w2') (fun _ cv _ => l.length - (intOf cv).toNat)
    case atStart => exact ⟨0, true, by omega, rfl, rfl, by simp [EachK.zero], Frm.refl _ _⟩
    case round =>
      obtain ⟨k, e, hk, rfl, rfl, he, f⟩ := hrel
      by_cases hlt : k < l.length
      · have HE := Lib.hid he
        have F := Lib.hid f
        have KL := Lib.hid hlt
        clear he f
        go_wp2_with fail
        go_loopw [8, 9] (InRel l l[k].1 wr) (fun _ cv _ => l.length - (intOf cv).toNat)
        case atStart => exact ⟨0, by omega, rfl, by simp [onD], Frm.refl _ _⟩
        case round =>
          obtain ⟨j, hj, rfl, rfl, g⟩ := hrel
          by_cases hlt2 : j < l.length
          · obtain ⟨b0, off, rfl⟩ := SA.out.at (by omega)
            have hs := (SA.out.keep F.out (by simp)).keep g (by simp)
            obtain ⟨c0, _⟩ := hs.cells j hlt2
            obtain ⟨d0, _⟩ := hs.cells k hlt
            have hsn := onD_snoc l[k].1 (l.take j) l[j]
            rw [← setOf_step l j hlt2] at hsn
            have hle := onD_le l[k].1 (l.take j)
            simp only [List.length_take] at hle
            generalize hd : l[k].1 = d at *
            generalize onD d (l.take j) = p at *
            generalize l[j].1 = y at *
            have hp9 : (p : Int) ≤ 200 := by omega
            have SN := Lib.hid hsn
            have G := Lib.hid g
            have HD := Lib.hid hd
            by_cases hyd : y = d
            · have hb : (y == d) = true := by simp [hyd]
              have YD := Lib.hid hyd
              clear hsn g hd hs hyd hle
              go_wp2_with fail
              go_quiet (fail)
              go_wp2_with fail
              go_roundw
              case rel => exact ⟨j + 1, by omega, by go_num, by rw [SN.out, if_pos YD.out]; go_num, G.out.drewN _⟩
              case measure => simp [intOf]; omega
            · have hb : (y == d) = false := by simp [hyd]
              have YD := Lib.hid hyd
              clear hsn g hd hs hyd hle
              go_wp2_with fail
              go_quiet (fail)
              go_wp2_with fail
              go_roundw
              case rel => exact ⟨j + 1, by omega, by go_num, by rw [SN.out, if_neg YD.out]; go_num, G.out.drewN _⟩
              case measure => simp [intOf]; omega
          · obtain rfl : j = l.length := by omega
            have G := Lib.hid g
            have hsu := EachK.succ (l := l) hlt
            rw [← HE.out] at hsu
            have hle := onD_le l[k].1 l
            have h3 := H3.out
            rw [List.take_length]
            generalize onD l[k].1 l = q at *
            have hq9 : (q : Int) ≤ 200 := by omega
            have SU := Lib.hid hsu
            clear g hsu hle h3
            cases e with
            | true =>
              by_cases hq : q = 1
              · subst hq
                go_wp2_with fail
                go_roundw
                case rel => exact ⟨k + 1, true, by omega, by go_num, rfl, by rw [SU.out]; simp, F.out.trans G.out (by simp)⟩
                case measure => simp [intOf]; omega
              · have hb : ((q : Int) == 1) = false := by simp; omega
                have NQ := Lib.hid hq
                clear hq
                go_wp2_with fail
                go_roundw
                case rel => exact ⟨k + 1, false, by omega, by go_num, rfl, by rw [SU.out]; simp [NQ.out], F.out.trans G.out (by simp)⟩
                case measure => simp [intOf]; omega
            | false =>
              go_wp2_with fail
              go_roundw
              case rel => exact ⟨k + 1, false, by omega, by go_num, rfl, by rw [SU.out]; simp, F.out.trans G.out (by simp)⟩
              case measure => simp [intOf]; omega
      · obtain rfl : k = l.length := by omega
        rw [EachK.all] at he
        have HE := Lib.hid he
        have F := Lib.hid (F1.out.trans f (by simp))
        have SA2 := Lib.hid (SA.out.keep f (by simp))
        have SB2 := Lib.hid (SB.out.keep f (by simp))
        clear he f SA SB F1
        cases e with
        | true =>
          have hn : (devs l).Nodup := HE.out.1 rfl
          have APA := Lib.hid (show apB l = true from decide_eq_true hn)
          have APS := Lib.hid (show apB (srt l) = true from decide_eq_true (apart_sort hn).1)
          have APM := Lib.hid (show apB (srt (minA l m)) = true from decide_eq_true (apart_minus hn))
          have SLN := Lib.hid (apart_sort hn).2
          have WS := Lib.hid (show ∀ x ∈ srt l, WfA x from fun x hx => WA.out x (mem_srt.1 hx))
          have WM := Lib.hid (show ∀ x ∈ srt (minA l m), WfA x from fun x hx => WA.out x (mem_minA.1 (mem_srt.1 hx)).1)
          have LS := Lib.hid (show (srt l).length ≤ 1000 from Nat.le_trans (srt_length _) LA.out)
          have LM := Lib.hid (show (srt (minA l m)).length ≤ 1000 from Nat.le_trans (srt_length _) (Nat.le_trans (minA_len _ _) LA.out))
          clear hn
          go_wp2_with fail
          refine (Apart_yes _ l sp _ SA2.out LA.out WA.out APA.out).mono ?_
          rintro r w3 ⟨rfl, f3⟩
          have F3 := Lib.hid (F.out.trans f3 (by simp))
          have SA3 := Lib.hid (SA2.out.keep f3 (by simp))
          have SB3 := Lib.hid (SB2.out.keep f3 (by simp))
          clear f3 F SA2 SB2
          go_wp2_with fail
          refine (Sort_any _ l sp _ SA3.out LA.out WA.out).mono ?_
          rintro r w4 ⟨v4, sp4, rfl, o4, f4, n4⟩
          have F4 := Lib.hid (F3.out.trans f4 (by simp))
          have SA4 := Lib.hid (SA3.out.keep f4 (by simp))
          have SB4 := Lib.hid (SB3.out.keep f4 (by simp))
          have O4 := Lib.hid o4.sl
          clear f4 F3 SA3 SB3 o4 n4
          go_wp2_with fail
          refine (Apart_yes _ (srt l) sp4 _ O4.out LS.out WS.out APS.out).mono ?_
          rintro r w5 ⟨rfl, f5⟩
          have F5 := Lib.hid (F4.out.trans f5 (by simp))
          have SA5 := Lib.hid (SA4.out.keep f5 (by simp))
          have SB5 := Lib.hid (SB4.out.keep f5 (by simp))
          clear f5 F4 SA4 SB4 O4
          go_wp2_with fail
          refine (Sort_any _ l sp _ SA5.out LA.out WA.out).mono ?_
          rintro r w6 ⟨v6, sp6, rfl, o6, f6, n6⟩
          obtain ⟨a6, c6, rfl, _, _⟩ := o6.sl.form
          rw [SLN.out]
          have F6 := Lib.hid (F5.out.trans f6 (by simp))
          have SA6 := Lib.hid (SA5.out.keep f6 (by simp))
          have SB6 := Lib.hid (SB5.out.keep f6 (by simp))
          clear f6 F5 SA5 SB5 o6 n6
          go_wp2_with fail
          refine (Minus_any _ _ l sp m msp _ SA6.out LA.out WA.out SB6.out LB.out WB.out).mono ?_
          rintro r w7 ⟨v7, sp7, rfl, o7, f7, n7⟩
          have F7 := Lib.hid (F6.out.trans f7 (by simp))
          have O7 := Lib.hid o7.sl
          clear f7 F6 SA6 SB6 o7 n7
          go_wp2_with fail
          refine (Apart_yes _ (srt (minA l m)) sp7 _ O7.out LM.out WM.out APM.out).mono ?_
          rintro r w8 ⟨rfl, f8⟩
          have F8 := Lib.hid (F7.out.trans f8 (by simp))
          clear f8 F7
          go_wp2_with fail
          go_ret
          exact ⟨rfl, F8.out⟩
        | false =>
          have APA := Lib.hid (show apB l = false from decide_eq_false fun h => by have := HE.out.2 h; cases this)
          go_wp2_with fail
          refine (Apart_no _ l sp _ SA2.out LA.out WA.out APA.out).mono ?_
          rintro r w3 ⟨rfl, f3⟩
          have F3 := Lib.hid (F.out.trans f3 (by simp))
          clear f3
          go_wp2_with fail
          go_ret
          exact ⟨rfl, F3.out⟩
end Go.Proofs.Ytpgekoicbceliaa
