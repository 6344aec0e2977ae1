/-
  What befalls a device; what an array tells of itself. No conditions but those that each theorem names.
-/
import Derived.Test.YtdebnikolhhmgaaDoorBA
namespace Go.Proofs.YtdebnikolhhmgaaDoor
open Go.RowKit
set_option linter.unusedVariables false
set_option linter.unusedSimpArgs false
set_option maxRecDepth 100000

open Kr (OwnE SlE Enco RowTys)

/-- A device's flags changed, and where its writes stray to. -/
theorem ArrL.strayed {lo : Nat} {w : World} {g : Nat} {s : St} {dv rv : Value} {drs : List Dr} {dsp : List Value} {rcs : List CelT} {rsp : List Value} (h : ArrL lo w g s dv rv drs dsp rcs rsp) (i : Nat) (hi : i < s.devs.length) (f : Nat) (at' : Int) (gd cap : Nat) (hdv : dv = .slice (some ⟨gd, 0, none⟩) s.devs.length cap)
    (hf : f < 256) (h8 : (f &&& 8) ≠ 0 → 0 < s.devs[i].fl) :
    Arr lo ((w.setCell ⟨gd, i * 4, none⟩ (.int .u8 (f : Nat))).setCell ⟨gd, i * 4 + 1, none⟩ (.int .i64 at')) g { s with devs := s.devs.set i { s.devs[i] with f := f, str := at' } } ∧ Fa lo w ((w.setCell ⟨gd, i * 4, none⟩ (.int .u8 (f : Nat))).setCell ⟨gd, i * 4 + 1, none⟩ (.int .i64 at')) := by
  have hi2 : i < drs.length := by rw [h.dlen]; exact hi
  obtain ⟨e1, e2, e3, e4⟩ := h.dat i drs[i] s.devs[i] (List.getElem?_eq_getElem hi2) (List.getElem?_eq_getElem hi)
  have ho := h.own
  rw [hdv] at ho
  have o1 := OwnE.store encD ho i 0 hi2 (by omega) (f, drs[i].2.1, drs[i].2.2.1, drs[i].2.2.2) (.int .u8 (f : Nat)) rfl
  have o2 := OwnE.store encD o1 i 1 (by simpa using hi2) (by omega) (f, at', drs[i].2.2.1, drs[i].2.2.2) (.int .i64 at') (by simp [eD])
  rw [List.set_set] at o2
  obtain ⟨k1, k2⟩ := h.put i hi hi2 (f, at', drs[i].2.2.1, drs[i].2.2.2) { s.devs[i] with f := f, str := at' } (by rw [hdv]; exact o2) (by rw [hdv]; exact ((Frm.refl _ w).setCell _ _ (by simp [blk])).setCell _ _ (by simp [blk])) rfl rfl e3 rfl rfl
    ⟨hf, (h.fb _ (List.getElem_mem hi)).2.1, (h.fb _ (List.getElem_mem hi)).2.2.1, h8⟩
  exact ⟨⟨_, _, _, _, _, _, k1⟩, k2⟩
def devS (s : St) (d at' : Int) : St := setD s d fun q => { q with f := q.f ||| 4, str := at' }
section
variable {lo : Nat} {w : World} {sn : Nat → Addr} {g : Nat} {s : St}
set_option maxHeartbeats 4000000 in
theorem Stray_any (d a : Int) (hs : Sn w lo sn) (h : Arr lo w g s) (WF : WfS s) :
    Calls Tryd.prog 19 #[ptr g, .int .i64 d, .int .i64 a] w (MP lo g (mRes (dCons (nS s d a, s) (nT s d, s)) fun s => devS s d a) w) := by
  have HS := Lib.hid hs
  have AR := Lib.hid h
  have F := Lib.hid (Frm.refl [] w)
  unfold ptr
  clear h hs
  go_enter Tryd.func19, Tryd.ntmps19
  go_wp2_with (first
    | (go_at_call 39; refine (sectorOf_any _ _ _).mono ?_; rintro e w1 ⟨bs1, bs2, rfl, hs1, hs2, f1⟩; have F := Lib.hid (F.out.trans f1 (by simp)); have LS1 := Lib.hid hs1; have LS2 := Lib.hid hs2;  clear hs1 hs2 f1)
    | (go_at_call 40; refine (there_any _ _).mono ?_; rintro e w2 ⟨bt, rfl, ht1, f1⟩; have F := Lib.hid (F.out.trans f1 (by simp)); have LT := Lib.hid ht1; have LS1 := Lib.hid (f1.heap LS1.out (by simp)); have LS2 := Lib.hid (f1.heap LS2.out (by simp)); clear ht1 f1))
  refine (demand_any (r := (dCons (nS s d a, s) (nT s d, s))) _ [_, _] _ 2 (HS.out.keep0 (F.out.alloc _)) (AR.out.keep0 (F.out.alloc _)) (Fa.refl lo _) (heap_alloc_new _ _) rfl (by simp) (Dem.cons (needS (HS.out.keep0 (F.out.alloc _)) WF ((Frm.refl [] _).alloc _ |>.heap LS1.out (by simp)) ((Frm.refl [] _).alloc _ |>.heap LS2.out (by simp))) fun hq0 => Dem.last (needT (HS.out.keep0 (F.out.alloc _)) ((Frm.refl [] _).alloc _ |>.heap LT.out (by simp)) (nS_ok hq0).1))).mono ?_
  rintro e w9 ⟨h1, h2, h3⟩
  have HS9 := Lib.hid ((HS.out.keep0 (F.out.alloc _)).fa h3)
  have F9 := Lib.hid ((Fa.of0 (F.out.alloc _) lo).trans h3)
  have A9 := Lib.hid h2
  clear h2 h3
  rcases h1 with ⟨hq, rfl⟩ | ⟨k2, tx, hq, hk6, rfl⟩
  rotate_left
  · unfold rfu
    have HQ := Lib.hid hq
    have NU := Lib.hid (number_any HS9.out tx k2 hk6)
    clear hq
    go_wp2_with (go_at_call 42; refine NU.out.mono ?_; rintro e w10 ⟨rfl, f10⟩; have F10 := Lib.hid f10; clear f10)
    go_ret
    have hq := HQ.out
    rw [mRes_some hq]
    exact ⟨rfl, A9.out.keep0 F10.out, F9.out.trans (Fa.of0 F10.out lo)⟩
  · obtain ⟨q0, q1⟩ := dCons_of hq
    obtain ⟨hi, hd0, hd9⟩ := okD_at (nS_ok q0).1
    have e2 : dCons (nS s d a, s) (nT s d, s) = (none, s) := by rw [dCons_none q0]; exact Prod.ext q1 rfl
    rw [e2] at A9
    obtain ⟨dv, rv, drs, dsp, rcs, rsp, h⟩ := A9.out
    obtain ⟨_, _, c2, _⟩ := h.cells
    obtain ⟨gd, cap, sv, hdv, d0, _, _, _, _, dz⟩ := h.dev _ hi
    have hfb := h.fb _ (List.getElem_mem hi)
    rw [hdv] at c2
    have BF := Lib.hid (befall_any gd (d.toNat * 4) s.devs[d.toNat].f 4 hfb.1 (by omega) w9 d0 (dz _))
    have FL := Lib.hid (h.strayed d.toNat hi (s.devs[d.toNat].f ||| 4) a gd cap hdv (or_lt _ _ hfb.1 (by omega)) (fun e => hfb.2.2.2 (or8 _ 4 (by decide) e)))
    have E2 := Lib.hid e2
    have SD := Lib.hid (setD_nat hi fun q => { q with f := q.f ||| 4, str := a })
    have z1 : (w9.setCell ⟨gd, d.toNat * 4, none⟩ (.int .u8 ((s.devs[d.toNat].f ||| 4 : Nat) : Int))).frozen? ⟨gd, d.toNat * 4 + 1, none⟩ = false := by rw [World.frozen?_setCell]; exact dz _
    clear h hq q0 q1 e2 hdv d0 dz hfb
    go_wp2_with (go_at_call 56; refine BF.out.mono ?_; rintro e w11 ⟨rfl, rfl⟩)
    go_ret
    rw [E2.out]
    exact ⟨rfl, show Arr lo _ g (devS s d a) from by unfold devS; rw [SD.out]; exact FL.out.1, F9.out.trans FL.out.2⟩
set_option maxHeartbeats 4000000 in
theorem Fail_any (d n : Int) (hn : -9223372036854775808 ≤ n ∧ n ≤ 9223372036854775807) (hs : Sn w lo sn) (h : Arr lo w g s) :
    Calls Tryd.prog 20 #[ptr g, .int .i64 d, .int .i64 n] w (MP lo g (mRes (dCons (nD s d, s) (dCons (nA (decide (0 ≤ n)), s) (nT s d, s))) fun s => setD s d fun q => failD q n) w) := by
  have HS := Lib.hid hs
  have AR := Lib.hid h
  have F := Lib.hid (Frm.refl [] w)
  unfold ptr
  clear h hs
  go_enter Tryd.func20, Tryd.ntmps20
  go_wp2_with (first
    | (go_at_call 50; refine (deviceOf_any _ _).mono ?_; rintro e w5 ⟨bd, rfl, hd1, f1⟩; have F := Lib.hid (F.out.trans f1 (by simp)); have LD := Lib.hid hd1;  clear hd1 f1)
    | (go_at_call 46; refine (argument_any _ _).mono ?_; rintro e w4 ⟨ba, rfl, ha1, f1⟩; have F := Lib.hid (F.out.trans f1 (by simp)); have LA := Lib.hid ha1; have LD := Lib.hid (f1.heap LD.out (by simp)); clear ha1 f1)
    | (go_at_call 40; refine (there_any _ _).mono ?_; rintro e w2 ⟨bt, rfl, ht1, f1⟩; have F := Lib.hid (F.out.trans f1 (by simp)); have LT := Lib.hid ht1; have LD := Lib.hid (f1.heap LD.out (by simp)); have LA := Lib.hid (f1.heap LA.out (by simp)); clear ht1 f1))
  refine (demand_any (r := (dCons (nD s d, s) (dCons (nA (decide (0 ≤ n)), s) (nT s d, s)))) _ [_, _, _] _ 3 (HS.out.keep0 (F.out.alloc _)) (AR.out.keep0 (F.out.alloc _)) (Fa.refl lo _) (heap_alloc_new _ _) rfl (by simp) (Dem.cons (needD (HS.out.keep0 (F.out.alloc _)) ((Frm.refl [] _).alloc _ |>.heap LD.out (by simp))) fun hq0 => Dem.cons (needA (HS.out.keep0 (F.out.alloc _)) ((Frm.refl [] _).alloc _ |>.heap LA.out (by simp))) fun hq1 => Dem.last (needT (HS.out.keep0 (F.out.alloc _)) ((Frm.refl [] _).alloc _ |>.heap LT.out (by simp)) (nD_ok hq0)))).mono ?_
  rintro e w9 ⟨h1, h2, h3⟩
  have HS9 := Lib.hid ((HS.out.keep0 (F.out.alloc _)).fa h3)
  have F9 := Lib.hid ((Fa.of0 (F.out.alloc _) lo).trans h3)
  have A9 := Lib.hid h2
  clear h2 h3
  rcases h1 with ⟨hq, rfl⟩ | ⟨k2, tx, hq, hk6, rfl⟩
  rotate_left
  · unfold rfu
    have HQ := Lib.hid hq
    have NU := Lib.hid (number_any HS9.out tx k2 hk6)
    clear hq
    go_wp2_with (go_at_call 42; refine NU.out.mono ?_; rintro e w10 ⟨rfl, f10⟩; have F10 := Lib.hid f10; clear f10)
    go_ret
    have hq := HQ.out
    rw [mRes_some hq]
    exact ⟨rfl, A9.out.keep0 F10.out, F9.out.trans (Fa.of0 F10.out lo)⟩
  · obtain ⟨q0, q1⟩ := dCons_of hq
    obtain ⟨q1, q2⟩ := dCons_of q1
    obtain ⟨hi, hd0, hd9⟩ := okD_at (nD_ok q0)
    have hn0 : 0 ≤ n := by
      cases e : decide (0 ≤ n)
      · rw [e] at q1; cases q1
      · exact of_decide_eq_true e
    have e2 : dCons (nD s d, s) (dCons (nA (decide (0 ≤ n)), s) (nT s d, s)) = (none, s) := by rw [dCons_none q0, dCons_none q1]; exact Prod.ext q2 rfl
    rw [e2] at A9
    obtain ⟨dv, rv, drs, dsp, rcs, rsp, h⟩ := A9.out
    obtain ⟨_, _, c2, _⟩ := h.cells
    obtain ⟨gd, cap, sv, hdv, d0, _, d2, _, _, dz⟩ := h.dev _ hi
    have hfb := h.fb _ (List.getElem_mem hi)
    rw [hdv] at c2
    have BF := Lib.hid (fail_any gd (d.toNat * 4) s.devs[d.toNat].f _ n hfb.1 w9 d0 d2 dz)
    have FL := Lib.hid (h.fail d.toNat hi n ⟨hn0, hn.2⟩ gd cap hdv)
    have E2 := Lib.hid e2
    have SD := Lib.hid (setD_nat hi fun q => failD q n)
    clear h hq q0 q1 q2 e2 hdv d0 d2 dz hfb
    go_wp2_with (go_at_call 57; refine BF.out.mono ?_; rintro e w11 ⟨rfl, rfl⟩)
    go_ret
    rw [E2.out]
    exact ⟨rfl, show Arr lo _ g (setD s d fun q => failD q n) from by rw [SD.out]; exact FL.out.1, F9.out.trans FL.out.2⟩
set_option maxHeartbeats 4000000 in
theorem Fuse_any (n : Int) (hs : Sn w lo sn) (h : Arr lo w g s) :
    Calls Tryd.prog 15 #[ptr g, .int .i64 n] w (MP lo g (mRes (dCons (nR s, s) (nA (decide (0 ≤ n)), s)) fun s => { s with set := true, left := n }) w) := by
  have HS := Lib.hid hs
  have AR := Lib.hid h
  have F := Lib.hid (Frm.refl [] w)
  unfold ptr
  clear h hs
  go_enter Tryd.func15, Tryd.ntmps15
  go_wp2_with (first
    | (go_at_call 46; refine (argument_any _ _).mono ?_; rintro e w4 ⟨ba, rfl, ha1, f1⟩; have F := Lib.hid (F.out.trans f1 (by simp)); have LA := Lib.hid ha1;  clear ha1 f1))
  refine (demand_any (r := (dCons (nR s, s) (nA (decide (0 ≤ n)), s))) _ [_, _] _ 2 (HS.out.keep0 (F.out.alloc _)) (AR.out.keep0 (F.out.alloc _)) (Fa.refl lo _) (heap_alloc_new _ _) rfl (by simp) (Dem.cons (needR (HS.out.keep0 (F.out.alloc _))) fun hq0 => Dem.last (needA (HS.out.keep0 (F.out.alloc _)) ((Frm.refl [] _).alloc _ |>.heap LA.out (by simp))))).mono ?_
  rintro e w9 ⟨h1, h2, h3⟩
  have HS9 := Lib.hid ((HS.out.keep0 (F.out.alloc _)).fa h3)
  have F9 := Lib.hid ((Fa.of0 (F.out.alloc _) lo).trans h3)
  have A9 := Lib.hid h2
  clear h2 h3
  rcases h1 with ⟨hq, rfl⟩ | ⟨k2, tx, hq, hk6, rfl⟩
  rotate_left
  · unfold rfu
    have HQ := Lib.hid hq
    have NU := Lib.hid (number_any HS9.out tx k2 hk6)
    clear hq
    go_wp2_with (go_at_call 42; refine NU.out.mono ?_; rintro e w10 ⟨rfl, f10⟩; have F10 := Lib.hid f10; clear f10)
    go_ret
    have hq := HQ.out
    rw [mRes_some hq]
    exact ⟨rfl, A9.out.keep0 F10.out, F9.out.trans (Fa.of0 F10.out lo)⟩
  · obtain ⟨q0, q1⟩ := dCons_of hq
    have e2 : dCons (nR s, s) (nA (decide (0 ≤ n)), s) = (none, s) := by rw [dCons_none q0]; exact Prod.ext q1 rfl
    rw [e2] at A9
    obtain ⟨dv, rv, drs, dsp, rcs, rsp, h⟩ := A9.out
    obtain ⟨c0, c1, c2, c3, c4, c5, c6, c7, cz⟩ := h.cells
    have cz4 := cz 4
    have cz5 := cz 5
    have H := Lib.hid h
    have E2 := Lib.hid e2
    clear h hq q0 q1 e2 c0 c1 c2 c3 c6 c7 cz
    go_wp2_with fail
    go_ret
    rw [E2.out]
    have f : Frm [g] w9 ((w9.setCell ⟨g, 4, none⟩ (.bool true)).setCell ⟨g, 5, none⟩ (.int .i64 n)) := ((Frm.refl [g] w9).setCell _ _ (by simp)).setCell _ _ (by simp)
    obtain ⟨k1, k2⟩ := H.out.setRec (s' := { s with set := true, left := n }) f (by rw [heap_setCell_same _ (heap_setCell_same _ H.out.rcd)]; rfl) rfl rfl
    exact ⟨rfl, ⟨_, _, _, _, _, _, k1⟩, F9.out.trans k2⟩
set_option maxHeartbeats 4000000 in
theorem Up_any (d : Int) (hs : Sn w lo sn) (h : Arr lo w g s) :
    Calls Tryd.prog 27 #[ptr g, .int .i64 d] w fun e w' => e = .returned (.bool (dCons (nR s, s) (dCons (nD s d, s) (nT s d, s))).1.isNone) ∧ Arr lo w' g s ∧ Fa lo w w' := by
  have HS := Lib.hid hs
  have AR := Lib.hid h
  have F := Lib.hid (Frm.refl [] w)
  unfold ptr
  have e2 : (dCons (nR s, s) (dCons (nD s d, s) (nT s d, s))).2 = s := by unfold dCons; split; (split; rfl; rfl); rfl
  clear h hs
  go_enter Tryd.func27, Tryd.ntmps27
  go_wp2_with (first
    | (go_at_call 50; refine (deviceOf_any _ _).mono ?_; rintro e w5 ⟨bd, rfl, hd1, f1⟩; have F := Lib.hid (F.out.trans f1 (by simp)); have LD := Lib.hid hd1;  clear hd1 f1)
    | (go_at_call 40; refine (there_any _ _).mono ?_; rintro e w2 ⟨bt, rfl, ht1, f1⟩; have F := Lib.hid (F.out.trans f1 (by simp)); have LT := Lib.hid ht1; have LD := Lib.hid (f1.heap LD.out (by simp)); clear ht1 f1))
  refine (demand_any (r := (dCons (nR s, s) (dCons (nD s d, s) (nT s d, s)))) _ [_, _, _] _ 3 (HS.out.keep0 (F.out.alloc _)) (AR.out.keep0 (F.out.alloc _)) (Fa.refl lo _) (heap_alloc_new _ _) rfl (by simp) (Dem.cons (needR (HS.out.keep0 (F.out.alloc _))) fun hq0 => Dem.cons (needD (HS.out.keep0 (F.out.alloc _)) ((Frm.refl [] _).alloc _ |>.heap LD.out (by simp))) fun hq1 => Dem.last (needT (HS.out.keep0 (F.out.alloc _)) ((Frm.refl [] _).alloc _ |>.heap LT.out (by simp)) (nD_ok hq1)))).mono ?_
  rintro e w9 ⟨h1, h2, h3⟩
  have HS9 := Lib.hid ((HS.out.keep0 (F.out.alloc _)).fa h3)
  have F9 := Lib.hid ((Fa.of0 (F.out.alloc _) lo).trans h3)
  have A9 := Lib.hid h2
  clear h2 h3
  rw [e2] at A9
  rcases h1 with ⟨hq, rfl⟩ | ⟨k2, tx, hq, hk6, rfl⟩
  · have HQ := Lib.hid hq
    clear hq e2
    go_wp2_with fail
    go_ret
    exact ⟨by rw [HQ.out]; rfl, A9.out, F9.out⟩
  · unfold rfu
    have HQ := Lib.hid hq
    clear hq e2
    go_wp2_with fail
    go_ret
    exact ⟨by rw [HQ.out]; rfl, A9.out, F9.out⟩
theorem Devs_any (h : Arr lo w g s) : Calls Tryd.prog 23 #[ptr g] w fun e w' => e = .returned (.int .i64 (s.devs.length : Int)) ∧ w' = w := by
  obtain ⟨dv, rv, drs, dsp, rcs, rsp, h⟩ := h
  obtain ⟨c0, c1, c2, c3, c4, c5, c6, c7, cz⟩ := h.cells
  have hm := made_yes g w c0
  unfold ptr
  obtain ⟨ga, cap, hv, hcap, hmx⟩ := h.own.sl.form
  rw [hv, h.dlen] at c2
  clear hv hcap hmx
  clear h c0 c1 c3 c4 c5 c6 c7 cz
  go_enter Tryd.func23, Tryd.ntmps23
  go_wp2_with (go_at_call 59; refine hm.mono ?_; rintro e w8 ⟨rfl, hw8⟩; obtain rfl := hw8.symm)
  go_ret
  exact ⟨rfl, rfl⟩
theorem Sectors_any (h : Arr lo w g s) : Calls Tryd.prog 24 #[ptr g] w fun e w' => e = .returned (.int .i64 (s.n : Int)) ∧ w' = w := by
  obtain ⟨dv, rv, drs, dsp, rcs, rsp, h⟩ := h
  obtain ⟨c0, c1, c2, c3, c4, c5, c6, c7, cz⟩ := h.cells
  have hm := made_yes g w c0
  unfold ptr
  clear h c0 c2 c3 c4 c5 c6 c7 cz
  go_enter Tryd.func24, Tryd.ntmps24
  go_wp2_with (go_at_call 59; refine hm.mono ?_; rintro e w8 ⟨rfl, hw8⟩; obtain rfl := hw8.symm)
  go_ret
  exact ⟨rfl, rfl⟩
theorem Loose_any (h : Arr lo w g s) : Calls Tryd.prog 25 #[ptr g] w fun e w' => e = .returned (.int .i64 (s.row.length : Int)) ∧ w' = w := by
  obtain ⟨dv, rv, drs, dsp, rcs, rsp, h⟩ := h
  obtain ⟨c0, c1, c2, c3, c4, c5, c6, c7, cz⟩ := h.cells
  have hm := made_yes g w c0
  unfold ptr
  obtain ⟨ga, cap, hv, hcap, hmx⟩ := h.row.sl.form
  rw [hv, h.rlen] at c3
  clear hv hcap hmx
  clear h c0 c1 c2 c4 c5 c6 c7 cz
  go_enter Tryd.func25, Tryd.ntmps25
  go_wp2_with (go_at_call 59; refine hm.mono ?_; rintro e w8 ⟨rfl, hw8⟩; obtain rfl := hw8.symm)
  go_ret
  exact ⟨rfl, rfl⟩
theorem Steps_any (h : Arr lo w g s) : Calls Tryd.prog 26 #[ptr g] w fun e w' => e = .returned (.int .i64 s.steps) ∧ w' = w := by
  obtain ⟨dv, rv, drs, dsp, rcs, rsp, h⟩ := h
  obtain ⟨c0, c1, c2, c3, c4, c5, c6, c7, cz⟩ := h.cells
  have hm := made_yes g w c0
  unfold ptr
  clear h c0 c1 c2 c3 c4 c5 c6 cz
  go_enter Tryd.func26, Tryd.ntmps26
  go_wp2_with (go_at_call 59; refine hm.mono ?_; rintro e w8 ⟨rfl, hw8⟩; obtain rfl := hw8.symm)
  go_ret
  exact ⟨rfl, rfl⟩
end
end Go.Proofs.YtdebnikolhhmgaaDoor
