/-
  The walk of PlaceChooses. No conditions but those that each theorem names.
-/
import Derived.Test.YtojchfpfemofkaaX1
namespace Go.Proofs.Ytojchfpfemofkaa
open Go.RowKit
set_option linter.unusedVariables false
set_option linter.unusedSimpArgs false
set_option maxRecDepth 100000

theorem chA_len (f : List Int) (t : List Bool) (c : Int) : (cz (chA f t c).1).length ≤ 1000000 := by
  rw [cz_length]
  unfold chA
  split
  · cases h : cho (rm f t) (wt c t) with
    | none => simp
    | some l =>
      rename_i hf
      have h1 := (cho_spec h).2.len
      have h2 := (fine_iff.1 hf).c3
      simp only
      unfold wt at h1
      omega
  · simp
/-- All is written over. -/
def OvRel (p : Option Addr) (n cap : Nat) (sp : List Value) (w0 : World) (cv : Value) (wr : World) : Prop := ∃ (k : Nat) (m : List Int), k ≤ n ∧ m.length = n ∧ cv = .int .i64 k ∧ OwnI wr (.slice p n cap) m sp ∧ Frm (blk (.slice p n cap)) w0 wr
set_option maxHeartbeats 8000000 in
theorem chooses_law (v d : Value) (f : List Int) (t : List Bool) (c : Int) (sp dsp : List Value) (w : World) (hS : SlI w v f sp) (hT : SlO w d t dsp) : Calls Try.prog 3 #[v, d, .int .i64 c] w (Yes w) := by
  obtain ⟨a, cap, rfl, _, _⟩ := hS.form
  obtain ⟨a2, cap2, rfl, _, _⟩ := hT.form
  by_cases hb1 : 12 < f.length
  · have hb9 : (12 : Int) < (f.length : Int) := by omega
    clear hS hT
    go_enter Try.func3, Try.ntmps3
    go_wp2_with (go_at_call 8; refine Calls.mono (awake_any _) ?_; rintro e1 W1 ⟨rfl, f1⟩)
    go_ret
    exact ⟨rfl, f1⟩
  have hb8 : ¬ (12 : Int) < (f.length : Int) := by omega
  by_cases hb2 : 12 < t.length
  · have hb9 : (12 : Int) < (t.length : Int) := by omega
    clear hS hT
    go_enter Try.func3, Try.ntmps3
    go_wp2_with (go_at_call 8; refine Calls.mono (awake_any _) ?_; rintro e1 W1 ⟨rfl, f1⟩)
    go_ret
    exact ⟨rfl, f1⟩
  have hb7 : ¬ (12 : Int) < (t.length : Int) := by omega
  have HS := Lib.hid hS
  have HT := Lib.hid hT
  have HCL := Lib.hid (show (cz (chA f t c).1).length ≤ 1000000 from chA_len f t c)
  have HL := Lib.hid (show f.length ≤ 1000000 ∧ f.length ≤ 100000 ∧ t.length ≤ 1000000 ∧ t.length ≤ 100000 ∧ f.length ≤ 12 ∧ t.length ≤ 12 by omega)
  clear hS hT hb1 hb2
  go_enter Try.func3, Try.ntmps3
  go_wp2_with fail
  refine Calls.mono (Lent_any _ f _ _ (HS.out.keep0 (Frm.refl [] w)) HL.out.1) ?_
  rintro e1 W1 ⟨gl, rfl, ol, f1, nl⟩
  clear nl
  have FR1 := Lib.hid ((Frm.refl [] w).trans f1 (by simp))
  have LN_1 := Lib.hid ol
  clear f1 ol
  go_wp2_with fail
  refine Calls.mono (LentB_any _ t _ _ (HT.out.keep0 FR1.out) HL.out.2.2.1) ?_
  rintro e2 W2 ⟨gb, rfl, ob, f2, nb⟩
  clear nb
  have FR2 := Lib.hid (FR1.out.trans f2 (by simp))
  have LN_2 := Lib.hid (LN_1.out.keep0 f2)
  have LB_2 := Lib.hid ob
  clear f2 LN_1 ob FR1
  go_wp2_with fail
  refine Calls.mono (Choose_any _ _ f t c _ _ _ LN_2.out.sl LB_2.out.sl HL.out.2.2.2.2.1 HL.out.2.2.2.2.2) ?_
  rintro e3 W3 ⟨vx, px, rfl, ox, f3, nx⟩
  have NX := Lib.hid (fun i (hi : i ∈ blk vx) => Nat.le_trans FR2.out.size (nx i hi))
  have AL := Lib.hid (fun i (hi : i ∈ blk (Value.slice (some ⟨gl, 0, none⟩) f.length (f.length + 3))) (hm : i ∈ blk vx) => (by have h1 := LN_2.out.lt i hi; have h2 := nx i hm; omega : False))
  have AB := Lib.hid (fun i (hi : i ∈ blk (Value.slice (some ⟨gb, 0, none⟩) t.length (t.length + 3))) (hm : i ∈ blk vx) => (by have h1 := LB_2.out.lt i hi; have h2 := nx i hm; omega : False))
  clear nx
  have FR3 := Lib.hid (FR2.out.trans f3 (by simp))
  have LN_3 := Lib.hid (LN_2.out.keep0 f3)
  have LB_3 := Lib.hid (LB_2.out.keep0 f3)
  have X_3 := Lib.hid ox
  clear f3 LN_2 LB_2 ox FR2
  go_wp2_with fail
  refine Calls.mono (RefChoose_any _ _ f t c _ _ _ (HS.out.keep0 FR3.out) (HT.out.keep0 FR3.out) HL.out.2.2.2.2.1 HL.out.2.2.2.2.2) ?_
  rintro e4 W4 ⟨vy, py, rfl, oy, f4, ny⟩
  clear ny
  have FR4 := Lib.hid (FR3.out.trans f4 (by simp))
  have LN_4 := Lib.hid (LN_3.out.keep0 f4)
  have LB_4 := Lib.hid (LB_3.out.keep0 f4)
  have X_4 := Lib.hid (X_3.out.keep0 f4)
  have Y_4 := Lib.hid oy
  clear f4 LN_3 LB_3 X_3 oy FR3
  go_wp2_with fail
  refine Calls.mono (SameI_true _ _ _ _ _ _ X_4.out.sl Y_4.out.sl HCL.out) ?_
  rintro e5 W5 ⟨rfl, f5⟩
  have FR5 := Lib.hid (FR4.out.trans f5 (by simp))
  have LN_5 := Lib.hid (LN_4.out.keep0 f5)
  have LB_5 := Lib.hid (LB_4.out.keep0 f5)
  have X_5 := Lib.hid (X_4.out.keep0 f5)
  have Y_5 := Lib.hid (Y_4.out.keep0 f5)
  clear f5 LN_4 LB_4 X_4 Y_4 FR4
  clear Y_5
  go_wp2_with fail
  refine Calls.mono (Check_any _ _ f t c _ _ _ LN_5.out.sl LB_5.out.sl HL.out.2.2.2.2.1 HL.out.2.2.2.2.2) ?_
  rintro eeCheck WWCheck ⟨rfl, rfl⟩
  go_wp2_with fail
  refine Calls.mono (RefCheck_any _ _ f t c _ _ _ (HS.out.keep0 FR5.out) (HT.out.keep0 FR5.out) HL.out.2.2.2.2.1 HL.out.2.2.2.2.2) ?_
  rintro eeRefCheck WWRefCheck ⟨rfl, rfl⟩
  have hfo := X_5.out.sl.form
  obtain ⟨p, cx, rfl, _, _⟩ := hfo
  have hcl := HCL.out
  have XO := Lib.hid X_5.out
  clear X_5
  generalize hch : cz (chA f t c).1 = ls at *
  have hl9 : ((ls.length : Nat) : Int) ≤ 1000000 := by omega
  clear HCL hch
  generalize chkC f t c = q1 at *
  generalize (chA f t c).2 = q2 at *
  go_wp2_with fail
  go_loopw [14] (OvRel p ls.length cx px WWRefCheck) (fun cv _ => ls.length - (intOf cv).toNat)
  case atStart => exact ⟨0, ls, by omega, rfl, rfl, XO.out, Frm.refl _ _⟩
  case round =>
    obtain ⟨k, m, hk, hm, rfl, o, f5⟩ := hrel
    by_cases hlt : k < ls.length
    · obtain ⟨g, rfl⟩ := o.at (by omega)
      have c0 := cellI o.sl k (by omega)
      have z0 := frozen_of_heap o.heap (0 + k)
      have st1 := OwnE.store encI o k 0 (by omega) (by omega) (-9) (.int .i64 (-9)) rfl
      simp only [Nat.add_zero, Nat.mul_one] at st1
      rw [Nat.zero_add] at c0 z0
      generalize m[k]'(by omega) = y at *
      have ST := Lib.hid st1
      have F := Lib.hid f5
      have HM := Lib.hid hm
      clear st1 o f5 hm
      go_wp2_with fail
      go_roundw
      case rel => exact ⟨k + 1, _, by omega, by simpa using HM.out, by go_num, ST.out, F.out.setCell _ _ (.inl (by simp [blk]))⟩
      case measure => simp [intOf]; omega
    · obtain rfl : k = ls.length := by omega
      have LN := Lib.hid (LN_5.out.keep f5 (fun i hi hm => AL.out i hi hm))
      have LB := Lib.hid (LB_5.out.keep f5 (fun i hi hm => AB.out i hi hm))
      have FR := Lib.hid (FR5.out.trans f5 (fun i hi => .inr (NX.out i hi)))
      clear f5 o XO LN_5 LB_5 FR5
      go_wp2_with fail
      refine Calls.mono (Kept_true _ _ _ _ f _ _ LN.out (HS.out.keep0 FR.out) HL.out.2.1) ?_
      rintro e6 W6 ⟨rfl, f6⟩
      have FR6 := Lib.hid (FR.out.trans f6 (by simp))
      have LN_6 := Lib.hid (LN.out.keep0 f6)
      have LB_6 := Lib.hid (LB.out.keep0 f6)
      clear f6 LN LB FR
      go_wp2_with fail
      refine Calls.mono (KeptB_true _ _ _ _ t _ _ LB_6.out (HT.out.keep0 FR6.out) HL.out.2.2.2.1) ?_
      rintro e7 W7 ⟨rfl, f7⟩
      have FR7 := Lib.hid (FR6.out.trans f7 (by simp))
      have LN_7 := Lib.hid (LN_6.out.keep0 f7)
      have LB_7 := Lib.hid (LB_6.out.keep0 f7)
      clear f7 LN_6 LB_6 FR6
      go_wp2_with fail
      refine Calls.mono (awake_any _) ?_
      rintro e8 W8 ⟨rfl, f8⟩
      have FR8 := Lib.hid (FR7.out.trans f8 (by simp))
      have LN_8 := Lib.hid (LN_7.out.keep0 f8)
      have LB_8 := Lib.hid (LB_7.out.keep0 f8)
      clear f8 LN_7 LB_7 FR7
      go_wp2_with fail
      go_ret
      exact ⟨rfl, FR8.out⟩
end Go.Proofs.Ytojchfpfemofkaa
