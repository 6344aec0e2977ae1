/-
  What a sector tells; reads. No conditions but those that each theorem names.
-/
import Derived.Test.YtdebnikolhhmgaaDoorBB
import Derived.Deep.RegionHeld3
import Derived.OpenShut
namespace Go.Proofs.YtdebnikolhhmgaaDoor
open Go.RowKit
set_option linter.unusedVariables false
set_option linter.unusedSimpArgs false
set_option maxRecDepth 100000

open Kr (OwnE SlE Enco RowTys)
theorem BT : ByteTys Tryd.prog 22 5 := ⟨Tryd.underlying22, Tryd.underlying5, by kernel_rfl⟩
theorem eqSl (w : World) (a : Option Addr) (n c : Nat) : (binOp .eql 22 (.slice a n c) (.slice none 0 0)).run Tryd.prog w = .ok (.bool a.isNone) w := Lib.run_eql_slice_nil w 22 5 a n c 0 0 Tryd.underlying22
def Cloned (w : World) (l : List UInt8) (r : Ending) (w' : World) : Prop := ∃ a cap sp', r = .returned (.slice a l.length cap) ∧ OwnB 5 w' (.slice a l.length cap) l sp' ∧ Frm [] w w'
theorem Clone_any (v : Value) (l sp : List UInt8) (w : World) (hS : SlB w v l sp) (hl : l.length ≤ 140737488355328) :
    Calls Tryd.prog 43 #[v] w fun r w' => Cloned w l r w' := by
  have hS' := hS
  have he := eqSl
  have hS3 := hS
  obtain ⟨h1, ⟨rfl, h2, h3⟩ | ha⟩ := hS'
  · obtain rfl : l = [] := List.eq_nil_of_length_eq_zero h2
    go_enter Tryd.func43, Tryd.ntmps43
    go_wp2_with fail
    go_ret
    exact ⟨none, 0, [], rfl, OwnB.nil _ _, Frm.refl _ _⟩
  · have hS2 := Lib.hid hS
    obtain ⟨ad, cap, rfl⟩ : ∃ ad cap, v = .slice (some ad) l.length cap := by
      rcases ha with ⟨a, rfl, h2, h3⟩ | ⟨b, off, cap, rfl, _⟩
      · exact ⟨a, 0, by rw [h2]⟩
      · exact ⟨_, cap, rfl⟩
    clear hS h1 ha hS3
    have o0 : OwnB 5 (w.alloc (.cells #[] 5)) (.slice (some ⟨w.heap.size, 0, none⟩) 0 0) [] [] := OwnB.of_heap (heap_alloc_new _ _) rfl rfl (by simp)
    have f0 : Frm [] w (w.alloc (.cells #[] 5)) := (Frm.refl _ _).alloc _
    go_enter Tryd.func43, Tryd.ntmps43
    go_wp2_with (at_builtin; refine wpList_append_bytes BT o0 (hS2.out.keep f0 (by simp)) (by simp; omega) rfl (.tmp 5) (.tmp 6) rfl rfl rfl ?_; intro a' cap' w' sp' o1 f1 b1)
    go_ret
    exact ⟨a', cap', sp', by simp, by simpa using o1, f0.trans f1 (by simp [blk])⟩
theorem sector_any (g gd gs n cap m cap2 : Nat) (d a : Int) (hd : 0 ≤ d ∧ d < n) (ha : 0 ≤ a ∧ a < m) (hn : n ≤ 9223372036854775807) (hm : m ≤ 9223372036854775807) (w : World) (c2 : w.cell? ⟨g, 2, none⟩ = some (.slice (some ⟨gd, 0, none⟩) n cap)) (c3 : w.cell? ⟨gd, d.toNat * 4 + 3, none⟩ = some (.slice (some ⟨gs, 0, none⟩) m cap2)) :
    Calls Tryd.prog 44 #[ptr g, .int .i64 d, .int .i64 a] w fun e w' => e = .returned (.pointer (some ⟨gs, a.toNat * 257, none⟩)) ∧ w' = w := by
  unfold ptr
  obtain ⟨hd0, hd9⟩ := hd
  obtain ⟨ha0, ha9⟩ := ha
  go_enter Tryd.func44, Tryd.ntmps44
  go_wp2_with fail
  go_ret
  exact ⟨rfl, rfl⟩
theorem slB_at {w : World} {b o : Nat} {l : FB} (h : ∀ j u, (bvs l.1)[j]? = some u → w.cell? ⟨b, o + j, none⟩ = some u) : SlB w (.slice (some ⟨b, o, none⟩) 256 256) l.1 [] := by
  refine ⟨by rw [bvs_length]; omega, .inr (.inr ⟨b, o, 256, by rw [l.2], by rw [l.2]; omega, by simp only [maxLen]; omega, by rw [show bvs [] = [] from rfl, List.append_nil, bvs_length, l.2], fun j u hu => h j u (by rwa [show bvs [] = [] from rfl, List.append_nil] at hu)⟩)⟩
/-- What a sector tells. -/
def tell (c : Sc) : FB := match c.last with
  | some x => x
  | none => c.firm
theorem tells_any (gs o : Nat) (c : Sc) (lv : Value) (w : World) (T : TypeId) (cs : Array Value) (hh : w.heap[gs]? = some (.cells cs T (0, 0))) (hc : ∀ j u, (bvs c.firm.1)[j]? = some u → w.cell? ⟨gs, o + j, none⟩ = some u) (hl : w.cell? ⟨gs, o + 256, none⟩ = some lv) (hv : LaV w lv c.last) :
    Calls Tryd.prog 45 #[.pointer (some ⟨gs, o, none⟩)] w fun e w' => ∃ v, e = .returned v ∧ SlB w v (tell c).1 [] ∧ w' = w := by
  have H := Lib.hid hc
  have HH := Lib.hid hh
  have e0 : ∀ p : Addr, (binOp .neq 90 (.pointer (some p)) (.pointer none)).run Tryd.prog w = .ok (.bool true) w := fun p => rfl
  rcases hv with ⟨e1, rfl⟩ | ⟨gw, x, e1, rfl, hb⟩
  · have E1 := Lib.hid e1
    clear hc hh e1
    go_enter Tryd.func45, Tryd.ntmps45
    go_wp2_with fail
    go_ret
    refine ⟨_, rfl, ?_, rfl⟩
    rw [show tell c = c.firm by unfold tell; rw [E1.out]]
    exact slB_at H.out
  · have E1 := Lib.hid e1
    have HB := Lib.hid hb
    clear hc hh e1 hb
    go_enter Tryd.func45, Tryd.ntmps45
    go_wp2_with fail
    go_ret
    refine ⟨_, rfl, ?_, rfl⟩
    rw [show tell c = x.b by unfold tell; rw [E1.out]]
    exact slB_at fun j u hu => by
      rw [cell_of_heap HB.out, List.getElem?_toArray, show 2 + j = j + 1 + 1 by omega, List.getElem?_cons_succ, List.getElem?_cons_succ]
      exact hu
/-- Devices that are there have their sectors. -/
def WfD (s : St) : Prop := ∀ q ∈ s.devs, (q.f &&& 1) = 0 → q.secs.length = s.n
def secAt (s : St) (d a : Int) : Sc := match s.devs[d.toNat]? with
  | some q => q.secs.getD a.toNat ⟨⟨List.replicate 256 0, by simp⟩, none⟩
  | none => ⟨⟨List.replicate 256 0, by simp⟩, none⟩
def tellAt (s : St) (d a : Int) : List UInt8 := (tell (secAt s d a)).1
section
variable {lo : Nat} {w : World} {sn : Nat → Addr} {g : Nat} {s : St}
theorem okA_at {a : Int} (ha : okA s a = true) : a.toNat < s.n ∧ 0 ≤ a ∧ a < s.n := by
  simp only [okA, decide_eq_true_eq] at ha
  omega
theorem nT_len {d : Int} (hw : WfD s) (hi : d.toNat < s.devs.length) (h : nT s d = none) : s.devs[d.toNat].secs.length = s.n := by
  refine hw _ (List.getElem_mem hi) ?_
  unfold nT gone hasF at h
  rw [List.getElem?_eq_getElem hi] at h
  by_cases e : (s.devs[d.toNat].f &&& 1) = 0
  · exact e
  · have e' : ((s.devs[d.toNat].f &&& 1) != 0) = true := by simpa using e
    simp only [e'] at h
    cases h
theorem secAt_at {d a : Int} (hi : d.toNat < s.devs.length) (ha : a.toNat < s.devs[d.toNat].secs.length) : secAt s d a = s.devs[d.toNat].secs[a.toNat] := by
  unfold secAt
  rw [List.getElem?_eq_getElem hi]
  simp [ha]
/-- A sector where it stands. -/
theorem ArrL.sec {dv rv : Value} {drs : List Dr} {dsp : List Value} {rcs : List CelT} {rsp : List Value} (h : ArrL lo w g s dv rv drs dsp rcs rsp) {d a : Int} (hi : d.toNat < s.devs.length) (ha : a.toNat < s.devs[d.toNat].secs.length) :
    ∃ gd cap gs cap2 lv, w.cell? ⟨g, 2, none⟩ = some (.slice (some ⟨gd, 0, none⟩) s.devs.length cap) ∧ w.cell? ⟨gd, d.toNat * 4 + 3, none⟩ = some (.slice (some ⟨gs, 0, none⟩) s.devs[d.toNat].secs.length cap2) ∧
      (∀ j u, (bvs s.devs[d.toNat].secs[a.toNat].firm.1)[j]? = some u → w.cell? ⟨gs, a.toNat * 257 + j, none⟩ = some u) ∧ w.cell? ⟨gs, a.toNat * 257 + 256, none⟩ = some lv ∧ LaV w lv s.devs[d.toNat].secs[a.toNat].last ∧ s.devs[d.toNat].secs.length ≤ 9223372036854775807 ∧ (∃ cs T, w.heap[gs]? = some (.cells cs T (0, 0))) := by
  obtain ⟨_, _, c2, _⟩ := h.cells
  obtain ⟨gd, cap, sv, hdv, _, _, _, d3, hs, dz⟩ := h.dev _ hi
  rw [hdv] at c2
  obtain ⟨gs, cap2, lv, hsv, h1, h2, h3, _⟩ := hs.at _ ha
  obtain ⟨scs, csp, k1, k2, k3, _⟩ := hs
  rw [hsv] at d3
  refine ⟨gd, cap, gs, cap2, lv, c2, d3, h1, h2, h3, ?_, ?_⟩
  · obtain ⟨_, _, e, e1, e2⟩ := k1.sl.form
    rw [k3] at e1
    simp only [maxLen] at e2
    omega
  · rw [hsv] at k1
    exact ⟨_, _, k1.heap⟩
def RdP (lo g : Nat) (r : Option Nat × St) (l : List UInt8) (w : World) (e : Ending) (w' : World) : Prop :=
  ((r.1 = none ∧ ∃ a cap sp, e = .returned (.tuple #[.slice a 256 cap, .int .i64 0]) ∧ OwnB 5 w' (.slice a 256 cap) l sp) ∨ ∃ k, r.1 = some k ∧ e = .returned (.tuple #[.slice none 0 0, .int .i64 (code k)])) ∧ Arr lo w' g r.2 ∧ Fa lo w w'
def PkP (lo g : Nat) (r : Option Nat × St) (l : List UInt8) (w : World) (e : Ending) (w' : World) : Prop :=
  ((r.1 = none ∧ ∃ a cap sp, e = .returned (.tuple #[.slice a 256 cap, .bool true]) ∧ OwnB 5 w' (.slice a 256 cap) l sp) ∨ ∃ k, r.1 = some k ∧ e = .returned (.tuple #[.slice none 0 0, .bool false])) ∧ Arr lo w' g r.2 ∧ Fa lo w w'
set_option maxHeartbeats 4000000 in
theorem Read_any (d a : Int) (hs : Sn w lo sn) (h : Arr lo w g s) (WF : WfS s) (WD : WfD s) :
    Calls Tryd.prog 11 #[ptr g, .int .i64 d, .int .i64 a] w (RdP lo g (dCons (nR s, s) (dCons (nS s d a, s) (dCons (nT s d, s) (nFail s d)))) (tellAt s d a) w) := by
  have HS := Lib.hid hs
  have AR := Lib.hid h
  have F := Lib.hid (Frm.refl [] w)
  unfold ptr
  clear h hs
  go_enter Tryd.func11, Tryd.ntmps11
  go_wp2_with (first
    | (go_at_call 39; refine (sectorOf_any _ _ _).mono ?_; rintro e w1 ⟨bs1, bs2, rfl, hs1, hs2, f1⟩; have F := Lib.hid (F.out.trans f1 (by simp)); have LS1 := Lib.hid hs1; have LS2 := Lib.hid hs2;  clear hs1 hs2 f1)
    | (go_at_call 40; refine (there_any _ _).mono ?_; rintro e w2 ⟨bt, rfl, ht1, f1⟩; have F := Lib.hid (F.out.trans f1 (by simp)); have LT := Lib.hid ht1; have LS1 := Lib.hid (f1.heap LS1.out (by simp)); have LS2 := Lib.hid (f1.heap LS2.out (by simp)); clear ht1 f1)
    | (go_at_call 41; refine (noFailure_any _ _).mono ?_; rintro e w3 ⟨bf, rfl, hf1, f1⟩; have F := Lib.hid (F.out.trans f1 (by simp)); have LF := Lib.hid hf1; have LS1 := Lib.hid (f1.heap LS1.out (by simp)); have LS2 := Lib.hid (f1.heap LS2.out (by simp)); have LT := Lib.hid (f1.heap LT.out (by simp)); clear hf1 f1))
  refine (demand_any (r := (dCons (nR s, s) (dCons (nS s d a, s) (dCons (nT s d, s) (nFail s d))))) _ [_, _, _, _] _ 4 (HS.out.keep0 (F.out.alloc _)) (AR.out.keep0 (F.out.alloc _)) (Fa.refl lo _) (heap_alloc_new _ _) rfl (by simp) (Dem.cons (needR (HS.out.keep0 (F.out.alloc _))) fun hq0 => Dem.cons (needS (HS.out.keep0 (F.out.alloc _)) WF ((Frm.refl [] _).alloc _ |>.heap LS1.out (by simp)) ((Frm.refl [] _).alloc _ |>.heap LS2.out (by simp))) fun hq1 => Dem.cons (needT (HS.out.keep0 (F.out.alloc _)) ((Frm.refl [] _).alloc _ |>.heap LT.out (by simp)) (nS_ok hq1).1) fun hq2 => Dem.last (needF (HS.out.keep0 (F.out.alloc _)) ((Frm.refl [] _).alloc _ |>.heap LF.out (by simp)) (nS_ok hq1).1))).mono ?_
  rintro e w9 ⟨h1, h2, h3⟩
  have HS9 := Lib.hid ((HS.out.keep0 (F.out.alloc _)).fa h3)
  have F9 := Lib.hid ((Fa.of0 (F.out.alloc _) lo).trans h3)
  have A9 := Lib.hid h2
  clear h2 h3
  rcases h1 with ⟨hq, rfl⟩ | ⟨k2, tx, hq, hk6, rfl⟩
  rotate_left
  · unfold rfu
    have HQ := Lib.hid hq
    have NU := Lib.hid (number_any HS9.out tx k2 hk6)
    clear hq
    go_wp2_with (go_at_call 42; refine NU.out.mono ?_; rintro e w10 ⟨rfl, f10⟩; have F10 := Lib.hid f10; clear f10)
    go_ret2
    exact ⟨.inr ⟨k2, HQ.out, rfl⟩, A9.out.keep0 F10.out, F9.out.trans (Fa.of0 F10.out lo)⟩
  · obtain ⟨q0, q1⟩ := dCons_of hq
    obtain ⟨q1, q2⟩ := dCons_of q1
    obtain ⟨q2, q3⟩ := dCons_of q2
    obtain ⟨hi, hd0, hd9⟩ := okD_at (nS_ok q1).1
    obtain ⟨hj, ha0, ha9⟩ := okA_at (nS_ok q1).2
    have e2 : dCons (nR s, s) (dCons (nS s d a, s) (dCons (nT s d, s) (nFail s d))) = (none, s) := by
      rw [dCons_none q0, dCons_none q1, dCons_none q2]
      unfold nFail at q3 ⊢
      split at q3
      · cases q3
      · rename_i h; rw [if_neg h]
    rw [e2] at A9
    have A9 := Lib.hid (show Arr lo w9 g s from A9.out)
    have hlen := nT_len WD hi q2
    obtain ⟨dv, rv, drs, dsp, rcs, rsp, h⟩ := A9.out
    rw [← hlen] at hj
    obtain ⟨gd, cap, gs, cap2, lv, c2, c3, hby, hla, hlv, hmx, cs, T, hh⟩ := h.sec hi hj
    have hln : s.devs.length ≤ 9223372036854775807 := A9.out.len
    have SA := Lib.hid (sector_any g gd gs _ cap _ cap2 d a ⟨hd0, hd9⟩ ⟨ha0, by omega⟩ hln hmx w9 c2 c3)
    have TA := Lib.hid (tells_any gs (a.toNat * 257) _ lv w9 T cs hh hby hla hlv)
    have E2 := Lib.hid e2
    have SE := Lib.hid (secAt_at hi hj)
    clear h hq q0 q1 q2 q3 e2 c2 c3 hby hla hlv hmx hh WD WF
    go_wp2_with (first
      | (go_at_call 44; refine SA.out.mono ?_; rintro e w11 ⟨rfl, hw11⟩; obtain rfl := hw11.symm)
      | (go_at_call 45; refine TA.out.mono ?_; rintro e w12 ⟨v, rfl, hv, hw12⟩; obtain rfl := hw12.symm; have cl := Clone_any v _ _ w9 hv (by rw [(tell s.devs[d.toNat].secs[a.toNat]).2]; omega); unfold Cloned at cl; rw [(tell s.devs[d.toNat].secs[a.toNat]).2] at cl; have CL := Lib.hid cl; clear hv cl)
      | (go_at_call 43; refine CL.out.mono ?_; rintro e w13 ⟨ca, ccap, csp, rfl, ho, f13⟩; have OW := Lib.hid ho; have F13 := Lib.hid f13; clear ho f13))
    go_ret2
    rw [E2.out]
    have ho := OW.out
    refine ⟨.inl ⟨rfl, ca, ccap, csp, rfl, ?_⟩, A9.out.keep0 F13.out, F9.out.trans (Fa.of0 F13.out lo)⟩
    unfold tellAt
    rw [SE.out]
    exact ho
set_option maxHeartbeats 4000000 in
theorem Peek_any (d a : Int) (hs : Sn w lo sn) (h : Arr lo w g s) (WF : WfS s) (WD : WfD s) :
    Calls Tryd.prog 12 #[ptr g, .int .i64 d, .int .i64 a] w (PkP lo g (dCons (nR s, s) (dCons (nS s d a, s) (nT s d, s))) (tellAt s d a) w) := by
  have HS := Lib.hid hs
  have AR := Lib.hid h
  have F := Lib.hid (Frm.refl [] w)
  unfold ptr
  clear h hs
  go_enter Tryd.func12, Tryd.ntmps12
  go_wp2_with (first
    | (go_at_call 39; refine (sectorOf_any _ _ _).mono ?_; rintro e w1 ⟨bs1, bs2, rfl, hs1, hs2, f1⟩; have F := Lib.hid (F.out.trans f1 (by simp)); have LS1 := Lib.hid hs1; have LS2 := Lib.hid hs2;  clear hs1 hs2 f1)
    | (go_at_call 40; refine (there_any _ _).mono ?_; rintro e w2 ⟨bt, rfl, ht1, f1⟩; have F := Lib.hid (F.out.trans f1 (by simp)); have LT := Lib.hid ht1; have LS1 := Lib.hid (f1.heap LS1.out (by simp)); have LS2 := Lib.hid (f1.heap LS2.out (by simp)); clear ht1 f1))
  refine (demand_any (r := (dCons (nR s, s) (dCons (nS s d a, s) (nT s d, s)))) _ [_, _, _] _ 3 (HS.out.keep0 (F.out.alloc _)) (AR.out.keep0 (F.out.alloc _)) (Fa.refl lo _) (heap_alloc_new _ _) rfl (by simp) (Dem.cons (needR (HS.out.keep0 (F.out.alloc _))) fun hq0 => Dem.cons (needS (HS.out.keep0 (F.out.alloc _)) WF ((Frm.refl [] _).alloc _ |>.heap LS1.out (by simp)) ((Frm.refl [] _).alloc _ |>.heap LS2.out (by simp))) fun hq1 => Dem.last (needT (HS.out.keep0 (F.out.alloc _)) ((Frm.refl [] _).alloc _ |>.heap LT.out (by simp)) (nS_ok hq1).1))).mono ?_
  rintro e w9 ⟨h1, h2, h3⟩
  have HS9 := Lib.hid ((HS.out.keep0 (F.out.alloc _)).fa h3)
  have F9 := Lib.hid ((Fa.of0 (F.out.alloc _) lo).trans h3)
  have A9 := Lib.hid h2
  clear h2 h3
  rcases h1 with ⟨hq, rfl⟩ | ⟨k2, tx, hq, hk6, rfl⟩
  rotate_left
  · unfold rfu
    have HQ := Lib.hid hq
    clear hq
    go_wp2_with fail
    go_ret2
    exact ⟨.inr ⟨k2, HQ.out, rfl⟩, A9.out, F9.out⟩
  · obtain ⟨q0, q1⟩ := dCons_of hq
    obtain ⟨q1, q2⟩ := dCons_of q1
    obtain ⟨hi, hd0, hd9⟩ := okD_at (nS_ok q1).1
    obtain ⟨hj, ha0, ha9⟩ := okA_at (nS_ok q1).2
    have e2 : dCons (nR s, s) (dCons (nS s d a, s) (nT s d, s)) = (none, s) := by
      rw [dCons_none q0, dCons_none q1]
      exact Prod.ext q2 rfl
    rw [e2] at A9
    have A9 := Lib.hid (show Arr lo w9 g s from A9.out)
    have hlen := nT_len WD hi q2
    obtain ⟨dv, rv, drs, dsp, rcs, rsp, h⟩ := A9.out
    rw [← hlen] at hj
    obtain ⟨gd, cap, gs, cap2, lv, c2, c3, hby, hla, hlv, hmx, cs, T, hh⟩ := h.sec hi hj
    have hln : s.devs.length ≤ 9223372036854775807 := A9.out.len
    have SA := Lib.hid (sector_any g gd gs _ cap _ cap2 d a ⟨hd0, hd9⟩ ⟨ha0, by omega⟩ hln hmx w9 c2 c3)
    have TA := Lib.hid (tells_any gs (a.toNat * 257) _ lv w9 T cs hh hby hla hlv)
    have E2 := Lib.hid e2
    have SE := Lib.hid (secAt_at hi hj)
    clear h hq q0 q1 q2 e2 c2 c3 hby hla hlv hmx hh WD WF
    go_wp2_with (first
      | (go_at_call 44; refine SA.out.mono ?_; rintro e w11 ⟨rfl, hw11⟩; obtain rfl := hw11.symm)
      | (go_at_call 45; refine TA.out.mono ?_; rintro e w12 ⟨v, rfl, hv, hw12⟩; obtain rfl := hw12.symm; have cl := Clone_any v _ _ w9 hv (by rw [(tell s.devs[d.toNat].secs[a.toNat]).2]; omega); unfold Cloned at cl; rw [(tell s.devs[d.toNat].secs[a.toNat]).2] at cl; have CL := Lib.hid cl; clear hv cl)
      | (go_at_call 43; refine CL.out.mono ?_; rintro e w13 ⟨ca, ccap, csp, rfl, ho, f13⟩; have OW := Lib.hid ho; have F13 := Lib.hid f13; clear ho f13))
    go_ret2
    rw [E2.out]
    have ho := OW.out
    refine ⟨.inl ⟨rfl, ca, ccap, csp, rfl, ?_⟩, A9.out.keep0 F13.out, F9.out.trans (Fa.of0 F13.out lo)⟩
    unfold tellAt
    rw [SE.out]
    exact ho
end
end Go.Proofs.YtdebnikolhhmgaaDoor
