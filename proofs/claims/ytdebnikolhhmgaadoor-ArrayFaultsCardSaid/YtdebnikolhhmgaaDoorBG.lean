/-
  Write. No conditions but those that each theorem names.
-/
import Derived.Test.YtdebnikolhhmgaaDoorBF
namespace Go.Proofs.YtdebnikolhhmgaaDoor
open Go.RowKit
set_option linter.unusedVariables false
set_option linter.unusedSimpArgs false
set_option maxRecDepth 100000

open Kr (OwnE SlE Enco RowTys)
/-- A device's flags changed where it stands. -/
theorem ArrL.flag' {lo : Nat} {w : World} {g : Nat} {s : St} {dv rv : Value} {drs : List Dr} {dsp : List Value} {rcs : List CelT} {rsp : List Value} (h : ArrL lo w g s dv rv drs dsp rcs rsp) (i : Nat) (hi : i < s.devs.length) (f : Nat) (gd cap : Nat) (hdv : dv = .slice (some ⟨gd, 0, none⟩) s.devs.length cap)
    (hf : f < 256) (h8 : (f &&& 8) ≠ 0 → 0 < s.devs[i].fl) :
    (∃ drs', ArrL lo (w.setCell ⟨gd, i * 4, none⟩ (.int .u8 (f : Nat))) g { s with devs := s.devs.set i { s.devs[i] with f := f } } dv rv drs' dsp rcs rsp) ∧ Fa lo w (w.setCell ⟨gd, i * 4, none⟩ (.int .u8 (f : Nat))) := by
  have hi2 : i < drs.length := by rw [h.dlen]; exact hi
  obtain ⟨e1, e2, e3, e4⟩ := h.dat i drs[i] s.devs[i] (List.getElem?_eq_getElem hi2) (List.getElem?_eq_getElem hi)
  have ho := h.own
  rw [hdv] at ho
  have o1 := OwnE.store encD ho i 0 hi2 (by omega) (f, drs[i].2.1, drs[i].2.2.1, drs[i].2.2.2) (.int .u8 (f : Nat)) rfl
  obtain ⟨k1, k2⟩ := h.put i hi hi2 (f, drs[i].2.1, drs[i].2.2.1, drs[i].2.2.2) { s.devs[i] with f := f } (by rw [hdv]; exact o1) (by rw [hdv]; exact (Frm.refl _ w).setCell _ _ (by simp [blk])) rfl e2 e3 rfl rfl
    ⟨hf, (h.fb _ (List.getElem_mem hi)).2.1, (h.fb _ (List.getElem_mem hi)).2.2.1, h8⟩
  exact ⟨⟨_, k1⟩, k2⟩
/-- Writes that stray lie within. -/
def WfX (s : St) : Prop := ∀ q ∈ s.devs, (q.f &&& 4) ≠ 0 → 0 ≤ q.str ∧ q.str < s.n
def strayAt (s : St) (d a : Int) : Int := match s.devs[d.toNat]? with
  | some q => if ((q.f &&& 253) &&& 4) != 0 then q.str else a
  | none => a
def usedS (s : St) (d : Int) : St := setD s d fun q => { q with f := (q.f &&& 253) &&& 251 }
def wrS (s : St) (d a : Int) (b : FB) : St := if hasF s d 2 = true then setD s d fun q => { q with f := q.f &&& 253 } else layS (usedS s d) d (strayAt s d a) b
def wrK (s : St) (d a : Int) (l : List UInt8) : St := if h : l.length = 256 then wrS s d a ⟨l, h⟩ else s
theorem nStep_none {s : St} (h : (nStep s).1 = none) : (nStep s).2.devs = s.devs ∧ (nStep s).2.row = s.row ∧ (nStep s).2.n = s.n := by
  unfold nStep at h ⊢
  split at h
  · cases h
  · rename_i h2; rw [if_neg h2]; exact ⟨rfl, rfl, rfl⟩
theorem and8 (f x : Nat) (h : ((f &&& x) &&& 8) ≠ 0) : (f &&& 8) ≠ 0 := fun e => h (by rw [Nat.and_assoc, Nat.and_comm x, ← Nat.and_assoc, e, Nat.zero_and])
theorem and_lt (f x : Nat) (h : f < 256) : f &&& x < 256 := Nat.lt_of_le_of_lt Nat.and_le_left h
section
variable {lo : Nat} {w : World} {sn : Nat → Addr} {g : Nat} {s : St}
set_option maxHeartbeats 8000000 in
theorem Write_any (d a : Int) (v : Value) (l sp : List UInt8) (hs : Sn w lo sn) (h : Arr lo w g s) (WF : WfS s) (WD : WfD s) (WX : WfX s) (hrow : s.row.length ≤ 100000000) (hS : ∀ w', Fa lo w w' → SlB w' v l sp) :
    Calls Tryd.prog 13 #[ptr g, .int .i64 d, .int .i64 a, v] w (MP lo g (mRes (dCons (nR s, s) (dCons (nS s d a, s) (dCons (nA ((l.length : Int) == 256), s) (dCons (nT s d, s) (nStep s))))) fun s => wrK s d a l) w) := by
  obtain ⟨ad, vcap, rfl, _, _⟩ := (hS w (Fa.refl lo w)).form
  have HSL := Lib.hid hS
  clear hS
  obtain ⟨n, hn⟩ : ∃ n, l.length = n := ⟨_, rfl⟩
  rw [hn] at HSL ⊢
  have HS := Lib.hid hs
  have AR := Lib.hid h
  have F := Lib.hid (Frm.refl [] w)
  unfold ptr
  clear h hs
  go_enter Tryd.func13, Tryd.ntmps13
  go_wp2_with (first
    | (go_at_call 39; refine (sectorOf_any _ _ _).mono ?_; rintro e w1 ⟨bs1, bs2, rfl, hs1, hs2, f1⟩; have F := Lib.hid (F.out.trans f1 (by simp)); have LS1 := Lib.hid hs1; have LS2 := Lib.hid hs2;  clear hs1 hs2 f1)
    | (go_at_call 46; refine (argument_any _ _).mono ?_; rintro e w4 ⟨ba, rfl, ha1, f1⟩; have F := Lib.hid (F.out.trans f1 (by simp)); have LA := Lib.hid ha1; have LS1 := Lib.hid (f1.heap LS1.out (by simp)); have LS2 := Lib.hid (f1.heap LS2.out (by simp)); clear ha1 f1)
    | (go_at_call 40; refine (there_any _ _).mono ?_; rintro e w2 ⟨bt, rfl, ht1, f1⟩; have F := Lib.hid (F.out.trans f1 (by simp)); have LT := Lib.hid ht1; have LS1 := Lib.hid (f1.heap LS1.out (by simp)); have LS2 := Lib.hid (f1.heap LS2.out (by simp)); have LA := Lib.hid (f1.heap LA.out (by simp)); clear ht1 f1))
  refine (demand_any (r := (dCons (nR s, s) (dCons (nS s d a, s) (dCons (nA ((n : Int) == 256), s) (dCons (nT s d, s) (nStep s)))))) _ [_, _, _, _, _] _ 5 (HS.out.keep0 (F.out.alloc _)) (AR.out.keep0 (F.out.alloc _)) (Fa.refl lo _) (heap_alloc_new _ _) rfl (by simp) (Dem.cons (needR (HS.out.keep0 (F.out.alloc _))) fun hq0 => Dem.cons (needS (HS.out.keep0 (F.out.alloc _)) WF ((Frm.refl [] _).alloc _ |>.heap LS1.out (by simp)) ((Frm.refl [] _).alloc _ |>.heap LS2.out (by simp))) fun hq1 => Dem.cons (needA (HS.out.keep0 (F.out.alloc _)) ((Frm.refl [] _).alloc _ |>.heap LA.out (by simp))) fun hq2 => Dem.cons (needT (HS.out.keep0 (F.out.alloc _)) ((Frm.refl [] _).alloc _ |>.heap LT.out (by simp)) (nS_ok hq1).1) fun hq3 => Dem.last (needStep (HS.out.keep0 (F.out.alloc _)) WF))).mono ?_
  rintro e w9 ⟨h1, h2, h3⟩
  have HS9 := Lib.hid ((HS.out.keep0 (F.out.alloc _)).fa h3)
  have F9 := Lib.hid ((Fa.of0 (F.out.alloc _) lo).trans h3)
  have A9 := Lib.hid h2
  clear h2 h3
  rcases h1 with ⟨hq, rfl⟩ | ⟨k2, tx, hq, hk6, rfl⟩
  rotate_left
  · unfold rfu
    have HQ := Lib.hid hq
    have NU := Lib.hid (number_any HS9.out tx k2 hk6)
    clear hq
    go_wp2_with (go_at_call 42; refine NU.out.mono ?_; rintro e w10 ⟨rfl, f10⟩; have F10 := Lib.hid f10; clear f10)
    go_ret
    have hq := HQ.out
    rw [mRes_some hq]
    exact ⟨rfl, A9.out.keep0 F10.out, F9.out.trans (Fa.of0 F10.out lo)⟩
  · obtain ⟨q0, q1⟩ := dCons_of hq
    obtain ⟨q1, q2⟩ := dCons_of q1
    obtain ⟨q2, q3⟩ := dCons_of q2
    obtain ⟨q3, q4⟩ := dCons_of q3
    have e2 : dCons (nR s, s) (dCons (nS s d a, s) (dCons (nA ((n : Int) == 256), s) (dCons (nT s d, s) (nStep s)))) = (none, (nStep s).2) := by
      rw [dCons_none q0, dCons_none q1, dCons_none q2, dCons_none q3]
      exact Prod.ext q4 rfl
    rw [e2] at A9
    obtain ⟨t1, t2, t3⟩ := nStep_none q4
    have E2 := Lib.hid e2
    have A9 := Lib.hid (show Arr lo w9 g (nStep s).2 from A9.out)
    generalize (nStep s).2 = s1 at *
    have hl : n = 256 := by
      unfold nA at q2
      by_cases e : n = 256
      · exact e
      · rw [if_neg (by simp; omega)] at q2; cases q2
    obtain ⟨hi, hd0, hd9⟩ := okD_at (nS_ok q1).1
    obtain ⟨hj, ha0, ha9⟩ := okA_at (nS_ok q1).2
    have hlen := nT_len WD hi q3
    subst hl
    have hlen1 : s1.devs[d.toNat]'(by rw [t1]; exact hi) = s.devs[d.toNat] := by simp only [t1]
    have hi1 : d.toNat < s1.devs.length := by rw [t1]; exact hi
    have hd1 : 0 ≤ d ∧ d < s1.devs.length := ⟨hd0, by rw [t1]; exact hd9⟩
    have hr1 : s1.row.length ≤ 100000000 := by rw [t2]; exact hrow
    have hln1 : s1.devs[d.toNat].secs.length = s.n := by rw [hlen1]; exact hlen
    have hx1 : (s1.devs[d.toNat].f &&& 4) ≠ 0 → 0 ≤ s1.devs[d.toNat].str ∧ s1.devs[d.toNat].str < s.n := by rw [hlen1]; exact WX _ (List.getElem_mem hi)
    obtain ⟨b, off, had⟩ : ∃ b off, ad = some ⟨b, off, none⟩ := by
      obtain ⟨h1, ⟨e, _⟩ | ⟨_, e, e2, _⟩ | ⟨b, off, cap, e, _⟩⟩ := HSL.out w9 F9.out
      · cases e
      · rw [hn] at e2; cases e2
      · simp only [Value.slice.injEq] at e; exact ⟨b, off, e.1⟩
    subst had
    have SL := Lib.hid (fun w' f => HSL.out w' (F9.out.trans f))
    have HF2 := Lib.hid (show wrK s1 d a l = wrS s1 d a ⟨l, hn⟩ from by unfold wrK; rw [dif_pos hn])
    obtain ⟨dv, rv, drs, dsp, rcs, rsp, h⟩ := A9.out
    obtain ⟨-, -, c2, -⟩ := h.cells
    obtain ⟨gd, cap, sv, hdv, d0, -, -, -, -, dz⟩ := h.dev _ hi1
    have hfb := h.fb _ (List.getElem_mem hi1)
    have hln9 : s1.devs.length ≤ 9223372036854775807 := A9.out.len
    rw [hdv] at c2
    obtain ⟨k1, k2⟩ := h.flag' d.toNat hi1 (s1.devs[d.toNat].f &&& 253) gd cap hdv (and_lt _ _ hfb.1) (fun e => hfb.2.2.2 (and8 _ _ e))
    have UB := use_any gd (d.toNat * 4) s1.devs[d.toNat].f 2 hfb.1 (by omega) w9 d0 (dz _)
    rw [show (255 - 2 : Nat) = 253 from rfl] at UB
    obtain ⟨b2, hb2⟩ : ∃ b, ((s1.devs[d.toNat].f &&& 2) != 0) = b := ⟨_, rfl⟩
    have hF : hasF s1 d 2 = b2 := by unfold hasF; rw [List.getElem?_eq_getElem hi1]; exact hb2
    rw [hb2] at UB
    have SD := Lib.hid (setD_nat hi1)
    cases b2
    · obtain ⟨drs', h10⟩ := k1
      obtain ⟨gd', cap', -, hdv', e0, e1, -, -, -, ez⟩ := h10.dev d.toNat (by simpa using hi1)
      obtain rfl : gd = gd' := by
        have e := hdv.symm.trans hdv'
        simp only [Value.slice.injEq, Option.some.injEq, Addr.mk.injEq] at e
        exact e.1.1
      simp only [List.getElem_set_self] at e0 e1
      have hw := Lib.hid k2
      generalize w9.setCell ⟨gd, d.toNat * 4, none⟩ (.int .u8 ((s1.devs[d.toNat].f &&& 253 : Nat) : Int)) = W10 at *
      have hi10 : d.toNat < (s1.devs.set d.toNat { s1.devs[d.toNat] with f := s1.devs[d.toNat].f &&& 253 }).length := by simpa using hi1
      obtain ⟨⟨drs3, h11⟩, k3⟩ := h10.flag' d.toNat hi10 ((s1.devs[d.toNat].f &&& 253) &&& 251) gd cap (by simpa using hdv) (and_lt _ _ (and_lt _ _ hfb.1)) (fun e => by simp only [List.getElem_set_self]; exact hfb.2.2.2 (and8 _ _ (and8 _ _ e)))
      have UB2 := use_any gd (d.toNat * 4) (s1.devs[d.toNat].f &&& 253) 4 (and_lt _ _ hfb.1) (by omega) W10 e0 (ez _)
      rw [show (255 - 4 : Nat) = 251 from rfl] at UB2
      obtain ⟨gd', cap', -, hdv', -, e3, -, -, -, -⟩ := h11.dev d.toNat (by simpa using hi1)
      obtain rfl : gd = gd' := by
        have e := hdv.symm.trans hdv'
        simp only [Value.slice.injEq, Option.some.injEq, Addr.mk.injEq] at e
        exact e.1.1
      simp only [List.getElem_set_self] at e3
      have eU : ({ s1 with devs := (s1.devs.set d.toNat { s1.devs[d.toNat] with f := s1.devs[d.toNat].f &&& 253 }).set d.toNat { (s1.devs.set d.toNat { s1.devs[d.toNat] with f := s1.devs[d.toNat].f &&& 253 })[d.toNat] with f := (s1.devs[d.toNat].f &&& 253) &&& 251 } } : St) = usedS s1 d := by
        unfold usedS
        rw [SD.out, List.set_set]
        simp only [List.getElem_set_self]
      have A11 : Arr lo (W10.setCell ⟨gd, d.toNat * 4, none⟩ (.int .u8 (((s1.devs[d.toNat].f &&& 253) &&& 251 : Nat) : Int))) g (usedS s1 d) := by rw [← eU]; exact ⟨_, _, _, _, _, _, h11⟩
      generalize W10.setCell ⟨gd, d.toNat * 4, none⟩ (.int .u8 (((s1.devs[d.toNat].f &&& 253) &&& 251 : Nat) : Int)) = W11 at *
      have hiU : d.toNat < (usedS s1 d).devs.length := by unfold usedS; rw [SD.out]; simpa using hi1
      have hsU : (usedS s1 d).devs[d.toNat].secs.length = s.n := by
        have e : (usedS s1 d).devs = s1.devs.set d.toNat { s1.devs[d.toNat] with f := (s1.devs[d.toNat].f &&& 253) &&& 251 } := by unfold usedS; rw [SD.out]
        simp only [e, List.getElem_set_self]
        exact hln1
      have hdU : d < (usedS s1 d).devs.length := by omega
      have hrU : (usedS s1 d).row.length ≤ 100000000 := by unfold usedS; rw [SD.out]; exact hr1
      have e4 : (((s1.devs[d.toNat].f &&& 253) &&& 4) != 0) = ((s1.devs[d.toNat].f &&& 4) != 0) := by rw [Nat.and_assoc, show (253 &&& 4 : Nat) = 4 from by decide]
      obtain ⟨b4, hb4⟩ : ∃ b, ((s1.devs[d.toNat].f &&& 253) &&& 4 != 0) = b := ⟨_, rfl⟩
      have hst : strayAt s1 d a = if b4 = true then s1.devs[d.toNat].str else a := by unfold strayAt; rw [List.getElem?_eq_getElem hi1]; simp only [hb4]
      rw [hb4] at UB2 e4
      have eW : wrS s1 d a ⟨l, hn⟩ = layS (usedS s1 d) d (strayAt s1 d a) ⟨l, hn⟩ := by unfold wrS; rw [if_neg (by rw [hF]; exact Bool.false_ne_true)]
      have FF := Lib.hid (F9.out.trans (hw.out.trans k3))
      have LY := fun (x : Int) (hx : 0 ≤ x ∧ x < s.n) => lay_any d x ⟨l, hn⟩ b off vcap sp A11 ⟨hd0, hdU⟩ hiU (by rw [hsU]; exact hx) hrU (SL.out W11 (hw.out.trans k3))
      rw [hst] at eW
      have HU := Lib.hid UB
      have HU2 := Lib.hid UB2
      have EW := Lib.hid eW
      cases b4
      · have HLY := Lib.hid (LY a ⟨ha0, ha9⟩)
        clear hw hb2 hF hb4 hi10 hlen hr1 hrow hj h hlen1 t1 t2 t3 hln1 h10 h11 LY eW UB UB2 e3 k2 k3 A11 hiU hsU hrU e4 hst eU e0 e1 ez hdv hdv' q0 q1 q2 q3 q4 WD WX WF hq e2 d0 dz hx1
        go_wp2_with (first
          | (go_at_call 48; refine HU.out.mono ?_; rintro e w11 ⟨rfl, rfl⟩; clear HU)
          | (go_at_call 48; refine HU2.out.mono ?_; rintro e w11 ⟨rfl, rfl⟩)
          | (go_at_call 49; refine HLY.out.mono ?_; rintro e w12 ⟨rfl, h12, f12⟩; have H12 := Lib.hid h12; have F12 := Lib.hid f12; clear h12 f12))
        go_ret
        rw [E2.out]
        exact ⟨rfl, show Arr lo _ g (wrK s1 d a l) from by rw [HF2.out, EW.out]; exact H12.out, FF.out.trans F12.out⟩
      · have HLY := Lib.hid (LY s1.devs[d.toNat].str (hx1 (by simpa using e4.symm)))
        clear hw hb2 hF hb4 hi10 hlen hr1 hrow hj h hlen1 t1 t2 t3 hln1 h10 h11 LY eW UB UB2 k2 k3 A11 hiU hsU hrU e4 hst eU e0 e1 ez hdv hdv' q0 q1 q2 q3 q4 WD WX WF hq e2 d0 dz hx1
        go_wp2_with (first
          | (go_at_call 48; refine HU.out.mono ?_; rintro e w11 ⟨rfl, rfl⟩; clear HU)
          | (go_at_call 48; refine HU2.out.mono ?_; rintro e w11 ⟨rfl, rfl⟩)
          | (go_at_call 49; refine HLY.out.mono ?_; rintro e w12 ⟨rfl, h12, f12⟩; have H12 := Lib.hid h12; have F12 := Lib.hid f12; clear h12 f12))
        go_ret
        rw [E2.out]
        exact ⟨rfl, show Arr lo _ g (wrK s1 d a l) from by rw [HF2.out, EW.out]; exact H12.out, FF.out.trans F12.out⟩
    · have eW : wrS s1 d a ⟨l, hn⟩ = setD s1 d fun q => { q with f := q.f &&& 253 } := by unfold wrS; rw [if_pos hF]
      have EW := Lib.hid eW
      have HU := Lib.hid UB
      have K1 := Lib.hid k1
      have FF := Lib.hid (F9.out.trans k2)
      clear h hlen1 t1 t2 t3 hln1 k1 k2 UB eW hdv d0 dz q0 q1 q2 q3 q4 WD WX WF hq e2 hx1
      go_wp2_with (go_at_call 48; refine HU.out.mono ?_; rintro e w11 ⟨rfl, rfl⟩; clear HU)
      go_ret
      rw [E2.out]
      refine ⟨rfl, show Arr lo _ g (wrK s1 d a l) from ?_, FF.out⟩
      rw [HF2.out, EW.out, SD.out]
      obtain ⟨drs', h⟩ := K1.out
      exact ⟨_, _, _, _, _, _, h⟩
end
end Go.Proofs.YtdebnikolhhmgaaDoor

