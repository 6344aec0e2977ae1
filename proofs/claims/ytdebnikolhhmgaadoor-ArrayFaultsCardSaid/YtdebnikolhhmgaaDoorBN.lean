/-
  Crash. No conditions but those that each theorem names.
-/
import Derived.Test.YtdebnikolhhmgaaDoorBM
namespace Go.Proofs.YtdebnikolhhmgaaDoor
open Go.RowKit
set_option linter.unusedVariables false
set_option linter.unusedSimpArgs false
set_option maxRecDepth 100000

open Kr (OwnE SlE Enco RowTys)
def eB (b : Bool) : List Value := [.bool b]
theorem encB : Enco eB 1 := ⟨fun _ => rfl, fun x u hu => by simp [eB] at hu; subst hu; rfl, by omega, fun x y h => by simpa [eB] using h⟩
/-- What k of the loose writes leave, and how much of the next one that does not stay. -/
def crK (l : List Wt) (keep : List Bool) (torn : Nat) (s : St) : Nat → St × Nat
  | 0 => (s, torn)
  | k + 1 => match l[k]? with
    | none => crK l keep torn s k
    | some x => if keep[k]? = some true then (settleS (crK l keep torn s k).1 x 256, (crK l keep torn s k).2) else (settleS (crK l keep torn s k).1 x (crK l keep torn s k).2, 0)
theorem crK_le (l : List Wt) (keep : List Bool) (torn : Nat) (s : St) : ∀ k, (crK l keep torn s k).2 ≤ torn
  | 0 => Nat.le_refl _
  | k + 1 => by
    have ih := crK_le l keep torn s k
    unfold crK
    split
    · exact ih
    · split
      · exact ih
      · exact Nat.zero_le _
theorem crK_szs (l : List Wt) (keep : List Bool) (torn : Nat) (s : St) : ∀ k, szs (crK l keep torn s k).1 = szs s
  | 0 => rfl
  | k + 1 => by
    have ih := crK_szs l keep torn s k
    unfold crK
    split
    · exact ih
    · split
      · rw [settle_szs]; exact ih
      · rw [settle_szs]; exact ih
theorem setD_row (s : St) (d : Int) (u : Dv → Dv) : (setD s d u).row = s.row ∧ (setD s d u).n = s.n ∧ (setD s d u).steps = s.steps := by unfold setD; split <;> exact ⟨rfl, rfl, rfl⟩
def endQ (q : Dv) : Dv := { q with f := q.f &&& 241 }
def crashS (s : St) (keep : List Bool) (torn : Nat) : St := { (crK s.row keep torn s s.row.length).1 with devs := (crK s.row keep torn s s.row.length).1.devs.map endQ, row := [], set := false, left := 0, out := false }
theorem end_step (devs : List Dv) (k : Nat) (hk : k < devs.length) : ((devs.take k).map endQ ++ devs.drop k).set k (endQ devs[k]) = (devs.take (k + 1)).map endQ ++ devs.drop (k + 1) := by
  have hm : ((devs.take k).map endQ).length = k := by rw [List.length_map, List.length_take]; omega
  rw [List.drop_eq_getElem_cons hk, List.set_append_right _ _ (by omega), hm, Nat.sub_self, List.set_cons_zero, List.take_succ_eq_append_getElem hk, List.map_append, List.append_assoc]
  rfl
def CrRel (lo g : Nat) (l : List Wt) (keep : List Bool) (rv : Value) (torn : Nat) (s : St) (w0 : World) (tv cv : Value) (wr : World) : Prop :=
  ∃ k, k ≤ l.length ∧ cv = .int .i64 k ∧ tv = .int .i64 (crK l keep torn s k).2 ∧ RowL wr rv l ∧ Arr lo wr g (crK l keep torn s k).1 ∧ Fa lo w0 wr
def EnRel (lo g : Nat) (s : St) (dv : Value) (dsp : List Value) (w0 : World) (cv : Value) (wr : World) : Prop :=
  ∃ k drs, k ≤ s.devs.length ∧ cv = .int .i64 k ∧ ArrL lo wr g { s with devs := (s.devs.take k).map endQ ++ s.devs.drop k } dv (.slice none 0 0) drs dsp [] [] ∧ Fa lo w0 wr
section
variable {lo : Nat} {w : World} {sn : Nat → Addr} {g : Nat} {s : St}
set_option maxHeartbeats 16000000 in
theorem Crash_any (v : Value) (keep : List Bool) (ksp : List Value) (torn : Int) (hs : Sn w lo sn) (h : Arr lo w g s) (WR : WfR s) (hrow : s.row.length ≤ 100000000) (hK : ∀ w', Fa lo w w' → SlE eB 1 w' v keep ksp) :
    Calls Tryd.prog 16 #[ptr g, v, .int .i64 torn] w (MP lo g (mRes (nA (decide (0 ≤ torn) && decide (torn ≤ 255)), s) fun s => crashS s keep torn.toNat) w) := by
  obtain ⟨ka, kcap, rfl, -, -⟩ := (hK w (Fa.refl lo w)).form
  have HK := Lib.hid hK
  clear hK
  have HS := Lib.hid hs
  have AR := Lib.hid h
  have F := Lib.hid (Frm.refl [] w)
  unfold ptr
  clear h hs
  go_enter Tryd.func16, Tryd.ntmps16
  go_wp2_with (first
    | (go_at_call 46; refine (argument_any _ _).mono ?_; rintro e w4 ⟨ba, rfl, ha1, f1⟩; have F := Lib.hid (F.out.trans f1 (by simp)); have LA := Lib.hid ha1;  clear ha1 f1)
    | (go_at_call 53; refine (within_any _ _ _ _).mono ?_; rintro e w7 ⟨rfl, hw7⟩; obtain rfl := hw7.symm))
  refine (demand_any (r := (nA (decide (0 ≤ torn) && decide (torn ≤ 255)), s)) _ [_] _ 1 (HS.out.keep0 (F.out.alloc _)) (AR.out.keep0 (F.out.alloc _)) (Fa.refl lo _) (heap_alloc_new _ _) rfl (by simp) (Dem.last (needA (HS.out.keep0 (F.out.alloc _)) ((Frm.refl [] _).alloc _ |>.heap LA.out (by simp))))).mono ?_
  rintro e w9 ⟨h1, h2, h3⟩
  have HS9 := Lib.hid ((HS.out.keep0 (F.out.alloc _)).fa h3)
  have F9 := Lib.hid ((Fa.of0 (F.out.alloc _) lo).trans h3)
  have A9 := Lib.hid h2
  clear h2 h3
  rcases h1 with ⟨hq, rfl⟩ | ⟨k2, tx, hq, hk6, rfl⟩
  rotate_left
  · unfold rfu
    have HQ := Lib.hid hq
    have NU := Lib.hid (number_any HS9.out tx k2 hk6)
    clear hq
    go_wp2_with (go_at_call 42; refine NU.out.mono ?_; rintro e w10 ⟨rfl, f10⟩; have F10 := Lib.hid f10; clear f10)
    go_ret
    have hq := HQ.out
    rw [mRes_some hq]
    exact ⟨rfl, A9.out.keep0 F10.out, F9.out.trans (Fa.of0 F10.out lo)⟩
  · have hd : 0 ≤ torn ∧ torn ≤ 255 := by
      simp only [nA] at hq
      by_cases e : 0 ≤ torn ∧ torn ≤ 255
      · exact e
      · rw [if_neg (by simp; omega)] at hq; cases hq
    have e2 : (nA (decide (0 ≤ torn) && decide (torn ≤ 255)), s) = ((none, s) : Option Nat × St) := Prod.ext hq rfl
    rw [e2] at A9
    have E2 := Lib.hid e2
    have A9 := Lib.hid (show Arr lo w9 g s from A9.out)
    obtain ⟨n, rfl⟩ : ∃ n : Nat, torn = n := ⟨torn.toNat, by omega⟩
    have hn : n ≤ 255 := by omega
    obtain ⟨dv, rv, drs, dsp, rcs, rsp, h⟩ := A9.out
    have hR : RowL w9 rv s.row := ⟨rcs, rsp, h.row, h.rlen, h.rat⟩
    obtain ⟨-, -, -, c3, -⟩ := h.cells
    obtain ⟨ad, cap, hv⟩ := hR.form
    rw [hv] at c3
    have HIN := Lib.hid (fun (y : St) (e : szs y = szs s) (i : Nat) (hi : i < s.row.length) => show inR (szs y) s.row[i] from by rw [e]; exact WR _ (List.getElem_mem hi))
    have HRW := Lib.hid hrow
    have hr9 : (s.row.length : Int) ≤ 100000000 := by omega
    have T1 := Lib.hid (show RowL w9 (.slice ad s.row.length cap) s.row from hv ▸ hR)
    have HKR := Lib.hid (fun w' (f : Fa lo w9 w') => HK.out w' (F9.out.trans f))
    clear h hR hv hq e2 hrow WR hd
    go_upto_region 5 with (fail)
    go_loopw [2, 26] (CrRel lo g s.row keep (.slice ad s.row.length cap) n s w9) (fun _ c _ => s.row.length - (intOf c).toNat)
    case atStart => exact ⟨0, Nat.zero_le _, rfl, rfl, T1.out, A9.out, Fa.refl lo _⟩
    case round =>
      obtain ⟨k, hk, rfl, rfl, h1, h2, hF⟩ := hrel
      have H1 := Lib.hid h1
      have HF := Lib.hid hF
      by_cases hlt : k < s.row.length
      · obtain ⟨b0, cap0, gw, e1, e2, e3⟩ := h1.at k hlt
        have hlt9 : (k : Int) < (s.row.length : Int) := by omega
        simp only [Value.slice.injEq] at e1
        obtain ⟨rfl, -, rfl⟩ := e1
        obtain ⟨hi, hd, ha⟩ := (HIN.out _ (crK_szs s.row keep n s k) k hlt).use
        have hle := crK_le s.row keep n s k
        have ST : Calls Tryd.prog 52 #[ptr g, .pointer (some ⟨gw, 0, none⟩), .int .i64 256] wr _ := settle_any s.row[k] gw 256 (by omega) h2 e3 hd hi ha
        have SU := settle_any s.row[k] gw (crK s.row keep n s k).2 (by omega) h2 e3 hd hi ha
        have HST := Lib.hid ST
        have HSU := Lib.hid SU
        have TK := Lib.hid (show crK s.row keep n s (k + 1) = if keep[k]? = some true then (settleS (crK s.row keep n s k).1 s.row[k] 256, (crK s.row keep n s k).2) else (settleS (crK s.row keep n s k).1 s.row[k] (crK s.row keep n s k).2, 0) from by
          conv => lhs; unfold crK
          rw [List.getElem?_eq_getElem hlt])
        by_cases hkk : keep[k]? = some true
        · have hkl : k < keep.length := (List.getElem?_eq_some_iff.1 hkk).1
          obtain ⟨kb, koff, hka⟩ := (HKR.out wr hF).at (by omega)
          have ck := SlE.cell encB (hka ▸ HKR.out wr hF) k hkl 0 (u := .bool true) (by rw [(List.getElem?_eq_some_iff.1 hkk).2]; rfl)
          rw [Nat.mul_one, Nat.add_zero] at ck
          subst hka
          have hkl9 : (k : Int) < (keep.length : Int) := by omega
          rw [if_pos hkk] at TK
          clear h1 h2 hF e3 ST SU hi hd ha hle HSU hkk hkl
          go_wp2_with (go_at_call 52; refine HST.out.mono ?_; rintro e w11 ⟨rfl, a2, f2, L, g2, hL⟩; have A2 := Lib.hid a2; have F2 := Lib.hid f2; have R2 := Lib.hid (H1.out.keep96 g2 hL); clear a2 f2 g2 hL HST)
          go_roundw
          case rel => exact ⟨k + 1, by omega, rfl, by rw [TK.out], R2.out, by rw [TK.out]; exact A2.out, HF.out.trans F2.out⟩
          case measure => simp [intOf]; omega
        · rw [if_neg hkk] at TK
          by_cases hkl : k < keep.length
          · have hkf : keep[k] = false := by
              cases e : keep[k]
              · rfl
              · exact absurd (by rw [List.getElem?_eq_getElem hkl, e]) hkk
            obtain ⟨kb, koff, hka⟩ := (HKR.out wr hF).at (by omega)
            have ck := SlE.cell encB (hka ▸ HKR.out wr hF) k hkl 0 (u := .bool false) (by rw [hkf]; rfl)
            rw [Nat.mul_one, Nat.add_zero] at ck
            subst hka
            have hkl9 : (k : Int) < (keep.length : Int) := by omega
            clear h1 h2 hF e3 ST SU hi hd ha hle HST hkk hkl hkf
            go_wp2_with (go_at_call 52; refine HSU.out.mono ?_; rintro e w11 ⟨rfl, a2, f2, L, g2, hL⟩; have A2 := Lib.hid a2; have F2 := Lib.hid f2; have R2 := Lib.hid (H1.out.keep96 g2 hL); clear a2 f2 g2 hL HSU)
            go_roundw
            case rel => exact ⟨k + 1, by omega, rfl, by rw [TK.out]; rfl, R2.out, by rw [TK.out]; exact A2.out, HF.out.trans F2.out⟩
            case measure => simp [intOf]; omega
          · have hkl9 : ¬ (k : Int) < (keep.length : Int) := by omega
            clear h1 h2 hF e3 ST SU hi hd ha hle HST hkk hkl
            go_wp2_with (go_at_call 52; refine HSU.out.mono ?_; rintro e w11 ⟨rfl, a2, f2, L, g2, hL⟩; have A2 := Lib.hid a2; have F2 := Lib.hid f2; have R2 := Lib.hid (H1.out.keep96 g2 hL); clear a2 f2 g2 hL HSU)
            go_roundw
            case rel => exact ⟨k + 1, by omega, rfl, by rw [TK.out]; rfl, R2.out, by rw [TK.out]; exact A2.out, HF.out.trans F2.out⟩
            case measure => simp [intOf]; omega
      · obtain rfl : k = s.row.length := by omega
        obtain ⟨s9, hs9⟩ : ∃ x, (crK s.row keep n s s.row.length).1 = x := ⟨_, rfl⟩
        have CE := Lib.hid (show crashS s keep n = { s9 with devs := s9.devs.map endQ, row := [], set := false, left := 0, out := false } from by unfold crashS; rw [hs9])
        rw [hs9] at h2
        clear hs9
        obtain ⟨dv, rv, drs, dsp, rcs, rsp, h⟩ := h2
        obtain ⟨c0, c1, c2, c3, c4, c5, c6, c7, cz⟩ := h.cells
        have z3 := cz 3
        have z4 := cz 4
        have z5 := cz 5
        have z6 := cz 6
        obtain ⟨gd, dcap, hdv, -, -⟩ := h.own.sl.form
        have hdl := h.dlen
        have H := Lib.hid h
        clear h1 hF h c0 c1 c7 cz
        go_upto_region 13 with (fail)
        have f12 : Frm (g :: blk rv) wr ((((wr.setCell ⟨g, 3, none⟩ (.slice none 0 0)).setCell ⟨g, 4, none⟩ (.bool false)).setCell ⟨g, 5, none⟩ (.int .i64 0)).setCell ⟨g, 6, none⟩ (.bool false)) :=
          ((((Frm.refl _ wr).setCell _ _ (.inl (by simp))).setCell _ _ (.inl (by simp))).setCell _ _ (.inl (by simp))).setCell _ _ (.inl (by simp))
        obtain ⟨h12, fa12⟩ := H.out.setRow { s9 with row := [], set := false, left := 0, out := false } (.slice none 0 0) [] [] rfl f12 (by rw [heap_setCell_same _ (heap_setCell_same _ (heap_setCell_same _ (heap_setCell_same _ H.out.rcd)))]; rfl) (OwnE.nil _ _ _ _) (by simp [blk]) rfl (fun i c x hc => by simp at hc)
        clear c2 c3 c4 c5 c6 z3 z4 z5 z6
        generalize (((wr.setCell ⟨g, 3, none⟩ (.slice none 0 0)).setCell ⟨g, 4, none⟩ (.bool false)).setCell ⟨g, 5, none⟩ (.int .i64 0)).setCell ⟨g, 6, none⟩ (.bool false) = W12 at *
        obtain ⟨-, -, c2, -⟩ := h12.cells
        rw [hdv, hdl] at c2
        have H12 := Lib.hid h12
        have FA := Lib.hid (F9.out.trans (HF.out.trans fa12))
        have HDV := Lib.hid (show dv = .slice gd s9.devs.length dcap from by rw [hdv, hdl])
        have hs9l : (s9.devs.length : Int) ≤ 9223372036854775807 := by have := Arr.len (lo := lo) (w := W12) (g := g) ⟨_, _, _, _, _, _, h12⟩; simp only at this; omega
        clear h12 fa12 f12 hdv hdl
        go_upto_region 14 with (fail)
        go_loopw [64] (EnRel lo g { s9 with row := [], set := false, left := 0, out := false } dv dsp W12) (fun c _ => s9.devs.length - (intOf c).toNat)
        case atStart => exact ⟨0, drs, Nat.zero_le _, rfl, H12.out, Fa.refl lo _⟩
        case round =>
          obtain ⟨k, drs', hk, rfl, hA, hF2⟩ := hrel
          have hk : k ≤ s9.devs.length := hk
          have HF2 := Lib.hid hF2
          have HA := Lib.hid hA
          by_cases hlt : k < s9.devs.length
          · have hE : ((s9.devs.take k).map endQ ++ s9.devs.drop k).length = s9.devs.length := by rw [List.length_append, List.length_map, List.length_take, List.length_drop]; omega
            have hEk : ((s9.devs.take k).map endQ ++ s9.devs.drop k)[k]'(by rw [hE]; exact hlt) = s9.devs[k] := by
              have hm : ((s9.devs.take k).map endQ).length = k := by rw [List.length_map, List.length_take]; omega
              rw [List.getElem_append_right (by omega)]
              simp only [List.getElem_drop, hm, Nat.sub_self, Nat.add_zero]
            obtain ⟨gd', dcap', -, hdv', d0, -, -, -, -, dz⟩ := hA.dev k (by simpa only [hE] using hlt)
            have hgd := HDV.out.symm.trans hdv'
            simp only [Value.slice.injEq] at hgd
            obtain ⟨rfl, -, rfl⟩ := hgd
            simp only [hEk] at d0
            have hfb := hA.fb _ (List.getElem_mem (by simpa only [hE] using hlt))
            simp only [hEk] at hfb
            obtain ⟨-, -, c2, -⟩ := hA.cells
            rw [HDV.out] at c2
            have EF := endF_any gd' (k * 4) s9.devs[k].f 14 hfb.1 (by omega) wr d0 (dz _)
            rw [show (255 - 14 : Nat) = 241 from rfl] at EF
            have HEF := Lib.hid EF
            obtain ⟨⟨drs3, k1⟩, k2⟩ := hA.flag' k (by simpa only [hE] using hlt) (s9.devs[k].f &&& 241) gd' dcap (by rw [HDV.out]; simp only [hE]) (and_lt _ _ hfb.1) (fun e => by simp only [hEk]; exact hfb.2.2.2 (and8 _ _ e))
            have K1 := Lib.hid k1
            have K2 := Lib.hid k2
            have ES := Lib.hid (show ((s9.devs.take k).map endQ ++ s9.devs.drop k).set k { ((s9.devs.take k).map endQ ++ s9.devs.drop k)[k]'(by rw [hE]; exact hlt) with f := s9.devs[k].f &&& 241 } = (s9.devs.take (k + 1)).map endQ ++ s9.devs.drop (k + 1) from by
              rw [hEk]
              exact end_step s9.devs k hlt)
            have hlt9 : (k : Int) < (s9.devs.length : Int) := by omega
            clear hA hF2 d0 dz hfb EF k1 k2 hdv'
            go_wp2_with (go_at_call 54; refine HEF.out.mono ?_; rintro e w11 ⟨rfl, rfl⟩)
            go_roundw
            case rel =>
              refine ⟨k + 1, drs3, by show k + 1 ≤ s9.devs.length; omega, rfl, ?_, HF2.out.trans K2.out⟩
              have h := K1.out
              rw [ES.out] at h
              exact h
            case measure => simp [intOf]; omega
          · obtain rfl : k = s9.devs.length := by omega
            clear hA hF2
            go_wp2_with fail
            go_ret
            have hA := HA.out
            simp only [List.take_length, List.drop_length, List.append_nil] at hA
            have e5 : (nA (decide ((n : Int) ≤ 255)), s) = ((none, s) : Option Nat × St) := Prod.ext (by unfold nA; rw [decide_eq_true (by omega)]; rfl) rfl
            rw [e5]
            refine ⟨rfl, show Arr lo _ g (crashS s keep n) from ?_, FA.out.trans HF2.out⟩
            rw [CE.out]
            exact ⟨_, _, _, _, _, _, hA⟩
end
end Go.Proofs.YtdebnikolhhmgaaDoor

