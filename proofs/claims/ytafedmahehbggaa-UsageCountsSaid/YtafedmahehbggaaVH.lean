/-
  The walk of UsageParts. No conditions but those that each theorem names.
-/
import Derived.Test.YtafedmahehbggaaVG
namespace Go.Proofs.Ytafedmahehbggaa
open Go.RowKit Go.Sort Go.Maps
set_option linter.unusedVariables false
set_option linter.unusedSimpArgs false
set_option maxRecDepth 100000

open Kr (OwnE SlE Enco RowTys)
open Kr (flt_cons flt_nil flt_length flt_oneCell flt_append flt_get)
theorem bound_all {L : List (List Ad)} (h : Hs L) (p : Ad → Bool) : (tell L p).length ≤ 64000 ∧ ∀ x ∈ tell L p, WfA x := ⟨fl_len h p, fun x hx => by
  obtain ⟨⟨i, hi⟩, _⟩ := mem_tell.1 hx
  exact h.wf hi⟩
set_option maxHeartbeats 16000000 in
theorem parts_law (v : Value) (L : List (List Ad)) (dv : Value) (d : List Int) (dsp : List Value) (mv : Value) (m : List Int) (msp : List Value) (w : World) (hS : LsA w v L) (hw : ∀ l ∈ L, ∀ x ∈ l, WfA x) (hD : SlI w dv d dsp) (hwD : ∀ z ∈ d, -9223372036854775808 ≤ z ∧ z ≤ 9223372036854775807) (hM : SlI w mv m msp) (hwM : ∀ z ∈ m, -9223372036854775808 ≤ z ∧ z ≤ 9223372036854775807) :
    Calls Try.prog 5 #[v, dv, mv] w (Yes w) := by
  have HS := Lib.hid hS
  have HD := Lib.hid hD
  have HM := Lib.hid hM
  have WF := Lib.hid hw
  have hmm := SlI.max hM
  simp only [maxLen] at hmm
  have hm9 : (m.length : Int) ≤ 9223372036854775807 := by omega
  obtain ⟨a, cap, rfl, _⟩ := hS.form
  obtain ⟨da, dcap, rfl, _, _⟩ := SlE.form hD
  obtain ⟨ma, mcap, rfl, _, _⟩ := SlE.form hM
  clear hS hD hM hw hwD hwM hmm
  go_enter Try.func5, Try.ntmps5
  go_wp2_with fail
  refine (knownU_any _).mono ?_
  rintro e w1 ⟨rfl, f1⟩
  have F1 := Lib.hid f1
  clear f1
  go_wp2_with fail
  refine (long_any L _ _ d dsp _ (HS.out.keep0 F1.out) (HD.out.keep0 F1.out)).mono ?_
  rintro e w2 ⟨b, rfl, f2, hb⟩
  have F2 := Lib.hid (F1.out.trans f2 (by simp))
  clear f2 F1
  cases b with
  | true =>
    clear hb
    go_wp2_with fail
    go_ret
    exact ⟨rfl, F2.out⟩
  | false =>
    have HL := Lib.hid (long2 (hb rfl) WF.out)
    have DN := Lib.hid (hb rfl).2.2
    clear hb
    by_cases hml : (40 : Int) < (m.length : Int)
    · go_wp2_with fail
      go_ret
      exact ⟨rfl, F2.out⟩
    · have MN := Lib.hid (show m.length ≤ 40 by omega)
      go_wp2_with fail
      refine (Freed_any L _ _ d dsp _ (HS.out.keep0 F2.out) HL.out (HD.out.keep0 F2.out) (by have := DN.out; omega)).mono ?_
      rintro e w3 ⟨v3, sp3, rfl, o3, f3, n3⟩
      obtain ⟨a3, c3, rfl, _, _⟩ := o3.sl.form
      have F3 := Lib.hid (F2.out.trans f3 (by simp))
      have FR := Lib.hid o3
      clear o3 f3 n3
      go_wp2_with fail
      refine (without_any L _ _ d dsp _ (HS.out.keep0 F3.out) HL.out (HD.out.keep0 F3.out) (by have := DN.out; omega)).mono ?_
      rintro e w4 ⟨v4, rfl, ol, f4⟩
      obtain ⟨ra, rcap, rfl, _⟩ := ol.form
      have F4 := Lib.hid (F3.out.trans f4 (by simp))
      have FR := Lib.hid (FR.out.keep f4 (by simp))
      have RS := Lib.hid ol
      clear ol f4
      go_wp2_with fail
      refine (All_any (restU L d) _ _ RS.out (hs_rest HL.out d)).mono ?_
      rintro e w5 ⟨v5, sp5, rfl, o5, f5, n5⟩
      obtain ⟨a5, c5, rfl, _, _⟩ := o5.sl.form
      have F5 := Lib.hid (F4.out.trans f5 (by simp))
      have FR := Lib.hid (FR.out.keep f5 (by simp))
      have RS := Lib.hid (RS.out.keep0 f5)
      have LE := Lib.hid o5
      clear o5 f5 n5
      go_wp2_with fail
      refine (All_any L _ _ (HS.out.keep0 F5.out) HL.out).mono ?_
      rintro e w6 ⟨v6, sp6, rfl, o6, f6, n6⟩
      obtain ⟨a6, c6, rfl, _, _⟩ := o6.sl.form
      have F6 := Lib.hid (F5.out.trans f6 (by simp))
      have FR := Lib.hid (FR.out.keep f6 (by simp))
      have RS := Lib.hid (RS.out.keep0 f6)
      have LE := Lib.hid (LE.out.keep f6 (by simp))
      have AL := Lib.hid o6
      clear o6 f6 n6
      have B1 := Lib.hid (bound_all HL.out (fun x => inU L d x && !outU L d x))
      have B2 := Lib.hid (bound_all (hs_rest HL.out d) (fun _ => true))
      have e1 : tell L (fun x => inU L d x && !outU L d x) = freedU L d := rfl
      have e2 : tell (restU L d) (fun _ => true) = allU (restU L d) := rfl
      rw [e1] at B1
      rw [e2] at B2
      clear e1 e2
      go_wp2_with fail
      refine (Both_any _ _ (freedU L d) _ (allU (restU L d)) _ _ FR.out.sl (by have := B1.out.1; omega) B1.out.2 LE.out.sl (by have := B2.out.1; omega) B2.out.2).mono ?_
      rintro e w7 ⟨v7, sp7, rfl, o7, f7, n7⟩
      rw [part1, show srt [] = [] from rfl] at o7
      obtain ⟨a7, c7, rfl, _, _⟩ := o7.sl.form
      have F7 := Lib.hid (F6.out.trans f7 (by simp))
      have FR := Lib.hid (FR.out.keep f7 (by simp))
      have RS := Lib.hid (RS.out.keep0 f7)
      have LE := Lib.hid (LE.out.keep f7 (by simp))
      have AL := Lib.hid (AL.out.keep f7 (by simp))
      have Q1 := Lib.hid o7
      clear o7 f7 n7
      go_wp2_with fail
      refine (Union_any _ _ (freedU L d) _ (allU (restU L d)) _ _ FR.out.sl (by have := B1.out.1; omega) B1.out.2 LE.out.sl (by have := B2.out.1; omega) B2.out.2).mono ?_
      rintro e w8 ⟨v8, sp8, rfl, o8, f8, n8⟩
      rw [part2] at o8
      obtain ⟨a8, c8, rfl, _, _⟩ := o8.sl.form
      have F8 := Lib.hid (F7.out.trans f8 (by simp))
      have FR := Lib.hid (FR.out.keep f8 (by simp))
      have RS := Lib.hid (RS.out.keep0 f8)
      have LE := Lib.hid (LE.out.keep f8 (by simp))
      have AL := Lib.hid (AL.out.keep f8 (by simp))
      have Q1 := Lib.hid (Q1.out.keep f8 (by simp))
      have Q2 := Lib.hid o8
      clear o8 f8 n8
      go_wp2_with fail
      refine (Same_true _ _ _ _ _ _ Q2.out.sl AL.out.sl (by have := (bound_all HL.out (fun _ => true)).1; show (tell L fun _ => true).length ≤ _; omega)).mono ?_
      rintro e w9 ⟨rfl, f9⟩
      have F9 := Lib.hid (F8.out.trans f9 (by simp))
      have FR := Lib.hid (FR.out.keep f9 (by simp))
      have RS := Lib.hid (RS.out.keep0 f9)
      have LE := Lib.hid (LE.out.keep f9 (by simp))
      have AL := Lib.hid (AL.out.keep f9 (by simp))
      have Q1 := Lib.hid (Q1.out.keep f9 (by simp))
      have Q2 := Lib.hid (Q2.out.keep f9 (by simp))
      clear f9
      go_wp2_with fail
      refine (Freed_any (restU L d) _ _ m msp _ RS.out (hs_rest HL.out d) (HM.out.keep0 F9.out) (by have := MN.out; omega)).mono ?_
      rintro e w10 ⟨v10, sp10, rfl, o10, f10, n10⟩
      obtain ⟨a10, c10, rfl, _, _⟩ := o10.sl.form
      have F10 := Lib.hid (F9.out.trans f10 (by simp))
      have FR := Lib.hid (FR.out.keep f10 (by simp))
      have RS := Lib.hid (RS.out.keep0 f10)
      have LE := Lib.hid (LE.out.keep f10 (by simp))
      have AL := Lib.hid (AL.out.keep f10 (by simp))
      have Q1 := Lib.hid (Q1.out.keep f10 (by simp))
      have Q2 := Lib.hid (Q2.out.keep f10 (by simp))
      have TH := Lib.hid o10
      clear o10 f10 n10
      have fa : Frm [] w10 (w10.alloc (.cells #[] 3)) := (Frm.refl [] w10).alloc _
      have oa : OwnI (w10.alloc (.cells #[] 3)) (.slice (some ⟨w10.heap.size, 0, none⟩) 0 0) [] [] := OwnI.of_heap (n := 0) (cap := 0) (heap_alloc_new _ _) rfl rfl (by decide)
      have HDa := Lib.hid (HD.out.keep0 (F10.out.trans fa (by simp)))
      have OA := Lib.hid oa
      have Fa := Lib.hid fa
      have NA := Lib.hid (show w.heap.size ≤ w10.heap.size from F10.out.size)
      clear fa oa
      go_upto_region 11 with (first
        | (at_builtin; refine Kr.wpList_append_e encI tysI OA.out HDa.out (by have := DN.out; simp; omega) (by decide) rfl (.tmp 51) (.tmp 52) rfl rfl rfl ?_; intro ab cb wb spb ob fb nb; have OB := Lib.hid (show OwnI wb (.slice ab d.length cb) d spb from by simpa using ob); have FB := Lib.hid fb; have HMb := Lib.hid (HM.out.keep0 ((F10.out.trans Fa.out (by simp)).trans fb (fun j hj => .inr (by have := NA.out; simp [blk] at hj; omega)))); have NB := Lib.hid nb; clear ob fb nb)
        | (at_builtin; refine Kr.wpList_append_e encI tysI OB.out HMb.out (by have := DN.out; have := MN.out; simp; omega) (by decide) rfl (.tmp 53) (.tmp 54) rfl rfl rfl ?_; intro ac cc wc spc oc fc nc)  | fail)
      have OC := Lib.hid oc
      have FC := Lib.hid (show Frm [] w10 wc from (Fa.out.trans FB.out (fun j hj => .inr (by simp [blk] at hj; omega))).trans fc (fun j hj => by
        rcases NB.out j (by simpa using hj) with h | h
        · simp [blk] at h; exact .inr (by omega)
        · exact .inr (by have := Fa.out.size; omega)))
      have FRc := Lib.hid (FR.out.keep FC.out (by simp))
      have THc := Lib.hid (TH.out.keep FC.out (by simp))
      have F11 := Lib.hid (F10.out.trans FC.out (by simp))
      clear oc fc nc
      refine (Freed_any L _ _ (d ++ m) spc _ (HS.out.keep0 F11.out) HL.out (OwnE.sl (show OwnI wc _ (d ++ m) spc from by simpa using OC.out)) (by have := DN.out; have := MN.out; simp; omega)).mono ?_
      rintro e w12 ⟨v12, sp12, rfl, o12, f12, n12⟩
      obtain ⟨a12, c12, rfl, _, _⟩ := o12.sl.form
      have F12 := Lib.hid (F11.out.trans f12 (by simp))
      have FRd := Lib.hid (FRc.out.keep f12 (by simp))
      have THd := Lib.hid (THc.out.keep f12 (by simp))
      have BO := Lib.hid o12
      clear o12 f12 n12
      have B3 := Lib.hid (bound_all (hs_rest HL.out d) (fun x => inU (restU L d) m x && !outU (restU L d) m x))
      have e3 : tell (restU L d) (fun x => inU (restU L d) m x && !outU (restU L d) m x) = freedU (restU L d) m := rfl
      rw [e3] at B3
      clear e3
      go_wp2_with fail
      refine (Union_any _ _ (freedU L d) _ (freedU (restU L d) m) _ _ FRd.out.sl (by have := B1.out.1; omega) B1.out.2 THd.out.sl (by have := B3.out.1; omega) B3.out.2).mono ?_
      rintro e w13 ⟨v13, sp13, rfl, o13, f13, n13⟩
      rw [part3] at o13
      obtain ⟨a13, c13, rfl, _, _⟩ := o13.sl.form
      have F13 := Lib.hid (F12.out.trans f13 (by simp))
      have FRe := Lib.hid (FRd.out.keep f13 (by simp))
      have THe := Lib.hid (THd.out.keep f13 (by simp))
      have BOe := Lib.hid (BO.out.keep f13 (by simp))
      have UN := Lib.hid o13
      clear o13 f13 n13
      go_wp2_with fail
      refine (Same_true _ _ _ _ _ _ UN.out.sl BOe.out.sl (by have := (bound_all HL.out (fun x => inU L (d ++ m) x && !outU L (d ++ m) x)).1; show (tell L (fun x => inU L (d ++ m) x && !outU L (d ++ m) x)).length ≤ _; omega)).mono ?_
      rintro e w14 ⟨rfl, f14⟩
      have F14 := Lib.hid (F13.out.trans f14 (by simp))
      have FRf := Lib.hid (FRe.out.keep f14 (by simp))
      have THf := Lib.hid (THe.out.keep f14 (by simp))
      clear f14
      go_wp2_with fail
      refine (Both_any _ _ (freedU L d) _ (freedU (restU L d) m) _ _ FRf.out.sl (by have := B1.out.1; omega) B1.out.2 THf.out.sl (by have := B3.out.1; omega) B3.out.2).mono ?_
      rintro e w15 ⟨v15, sp15, rfl, o15, f15, n15⟩
      rw [part4, show srt [] = [] from rfl] at o15
      obtain ⟨a15, c15, rfl, _, _⟩ := o15.sl.form
      have F15 := Lib.hid (F14.out.trans f15 (by simp))
      clear o15 f15 n15
      go_wp2_with fail
      go_ret
      exact ⟨rfl, F15.out⟩
end Go.Proofs.Ytafedmahehbggaa
