/-
  What befalls a device; what an array tells of itself. No conditions but those that each theorem names. What a sector tells; reads. No conditions but those that each theorem names. The law's reads. No conditions but those that each theorem names. What is kept by the other calls; as a law calls them. No conditions but those that each theorem names. Writes and flushes, done and refused. Plain. No conditions but those that each theorem names. ArrayFaults: the walk. No conditions but those that each theorem names.
-/
import Derived.Test.YtdebnikolhhmgaaDoorMAa1
import Derived.Test.YtdebnikolhhmgaaDoorMAa2
import Derived.Test.YtdebnikolhhmgaaDoorMAa3
import Derived.Test.YtdebnikolhhmgaaDoorMAa4
import Derived.Deep.RegionHeld3
import Derived.OpenShut
import Derived.WalkKit
import Derived.WalkSpells
import Derived.WalkLawsBesides
import Derived.Deep.AppendSrc
import Derived.Laws.CopyOwn
import Derived.Laws.BytesArg
import Derived.Carry
import Derived.Laws.BytesString
import Derived.Lib.Hide
import Derived.Test.YtdebnikolhhmgaaDoorChecked
import Derived.Stop.Asserts
import Derived.LaidEql
import Derived.RowKitTokens
import Derived.WalkHide
import Derived.StillTailTactics
import Derived.OrdersHeld
import Derived.BigQuiet
import Derived.Deep.QuietTactic
import Derived.Deep.MidRow
import Derived.Deep.RegionLaw
import Derived.Deep.RegionWith
import Derived.LaidEqlPtr
import Derived.Deep.CutBlock
import Derived.Deep.DeepCutAuto
import Derived.Deep.Slices
import Derived.Shelf.Abstract
import Derived.Laws.Tables
import Derived.Deep.RegionHeld
import Derived.OwnWalk
namespace Go.Proofs.YtdebnikolhhmgaaDoor
open Go.RowKit
set_option linter.unusedVariables false
set_option linter.unusedSimpArgs false
set_option maxRecDepth 100000

open Kr (OwnE SlE Enco RowTys)

section
variable {lo : Nat} {w : World} {sn : Nat → Addr} {g : Nat} {s : St}
set_option maxHeartbeats 4000000 in
theorem Fuse_any (n : Int) (hs : Sn w lo sn) (h : Arr lo w g s) :
    Calls Tryd.prog 15 #[ptr g, .int .i64 n] w (MP lo g (mRes (dCons (nR s, s) (nA (decide (0 ≤ n)), s)) fun s => { s with set := true, left := n }) w) := by
  have HS := Lib.hid hs
  have AR := Lib.hid h
  have F := Lib.hid (Frm.refl [] w)
  unfold ptr
  clear h hs
  go_enter Tryd.func15, Tryd.ntmps15
  go_wp2_with (first
    | (go_at_call 46; refine (argument_any _ _).mono ?_; rintro e w4 ⟨ba, rfl, ha1, f1⟩; have F := Lib.hid (F.out.trans f1 (by simp)); have LA := Lib.hid ha1;  clear ha1 f1))
  refine (demand_any (r := (dCons (nR s, s) (nA (decide (0 ≤ n)), s))) _ [_, _] _ 2 (HS.out.keep0 (F.out.alloc _)) (AR.out.keep0 (F.out.alloc _)) (Fa.refl lo _) (heap_alloc_new _ _) rfl (by simp) (Dem.cons (needR (HS.out.keep0 (F.out.alloc _))) fun hq0 => Dem.last (needA (HS.out.keep0 (F.out.alloc _)) ((Frm.refl [] _).alloc _ |>.heap LA.out (by simp))))).mono ?_
  rintro e w9 ⟨h1, h2, h3⟩
  have HS9 := Lib.hid ((HS.out.keep0 (F.out.alloc _)).fa h3)
  have F9 := Lib.hid ((Fa.of0 (F.out.alloc _) lo).trans h3)
  have A9 := Lib.hid h2
  clear h2 h3
  rcases h1 with ⟨hq, rfl⟩ | ⟨k2, tx, hq, hk6, rfl⟩
  rotate_left
  · unfold rfu
    have HQ := Lib.hid hq
    have NU := Lib.hid (number_any HS9.out tx k2 hk6)
    clear hq
    go_wp2_with (go_at_call 42; refine NU.out.mono ?_; rintro e w10 ⟨rfl, f10⟩; have F10 := Lib.hid f10; clear f10)
    go_ret
    have hq := HQ.out
    rw [mRes_some hq]
    exact ⟨rfl, A9.out.keep0 F10.out, F9.out.trans (Fa.of0 F10.out lo)⟩
  · obtain ⟨q0, q1⟩ := dCons_of hq
    have e2 : dCons (nR s, s) (nA (decide (0 ≤ n)), s) = (none, s) := by rw [dCons_none q0]; exact Prod.ext q1 rfl
    rw [e2] at A9
    obtain ⟨dv, rv, drs, dsp, rcs, rsp, h⟩ := A9.out
    obtain ⟨c0, c1, c2, c3, c4, c5, c6, c7, cz⟩ := h.cells
    have cz4 := cz 4
    have cz5 := cz 5
    have H := Lib.hid h
    have E2 := Lib.hid e2
    clear h hq q0 q1 e2 c0 c1 c2 c3 c6 c7 cz
    go_wp2_with fail
    go_ret
    rw [E2.out]
    have f : Frm [g] w9 ((w9.setCell ⟨g, 4, none⟩ (.bool true)).setCell ⟨g, 5, none⟩ (.int .i64 n)) := ((Frm.refl [g] w9).setCell _ _ (by simp)).setCell _ _ (by simp)
    obtain ⟨k1, k2⟩ := H.out.setRec (s' := { s with set := true, left := n }) f (by rw [heap_setCell_same _ (heap_setCell_same _ H.out.rcd)]; rfl) rfl rfl
    exact ⟨rfl, ⟨_, _, _, _, _, _, k1⟩, F9.out.trans k2⟩
end
end Go.Proofs.YtdebnikolhhmgaaDoor

namespace Go.Proofs.YtdebnikolhhmgaaDoor
open Go.RowKit
set_option linter.unusedVariables false
set_option linter.unusedSimpArgs false
set_option maxRecDepth 100000

open Kr (OwnE SlE Enco RowTys)
section
variable {lo : Nat} {w : World} {sn : Nat → Addr} {g : Nat} {s : St}
def PkP (lo g : Nat) (r : Option Nat × St) (l : List UInt8) (w : World) (e : Ending) (w' : World) : Prop :=
  ((r.1 = none ∧ ∃ a cap sp, e = .returned (.tuple #[.slice a 256 cap, .bool true]) ∧ OwnB 5 w' (.slice a 256 cap) l sp) ∨ ∃ k, r.1 = some k ∧ e = .returned (.tuple #[.slice none 0 0, .bool false])) ∧ Arr lo w' g r.2 ∧ Fa lo w w'
set_option maxHeartbeats 4000000 in
theorem Peek_any (d a : Int) (hs : Sn w lo sn) (h : Arr lo w g s) (WF : WfS s) (WD : WfD s) :
    Calls Tryd.prog 12 #[ptr g, .int .i64 d, .int .i64 a] w (PkP lo g (dCons (nR s, s) (dCons (nS s d a, s) (nT s d, s))) (tellAt s d a) w) := by
  have HS := Lib.hid hs
  have AR := Lib.hid h
  have F := Lib.hid (Frm.refl [] w)
  unfold ptr
  clear h hs
  go_enter Tryd.func12, Tryd.ntmps12
  go_wp2_with (first
    | (go_at_call 39; refine (sectorOf_any _ _ _).mono ?_; rintro e w1 ⟨bs1, bs2, rfl, hs1, hs2, f1⟩; have F := Lib.hid (F.out.trans f1 (by simp)); have LS1 := Lib.hid hs1; have LS2 := Lib.hid hs2;  clear hs1 hs2 f1)
    | (go_at_call 40; refine (there_any _ _).mono ?_; rintro e w2 ⟨bt, rfl, ht1, f1⟩; have F := Lib.hid (F.out.trans f1 (by simp)); have LT := Lib.hid ht1; have LS1 := Lib.hid (f1.heap LS1.out (by simp)); have LS2 := Lib.hid (f1.heap LS2.out (by simp)); clear ht1 f1))
  refine (demand_any (r := (dCons (nR s, s) (dCons (nS s d a, s) (nT s d, s)))) _ [_, _, _] _ 3 (HS.out.keep0 (F.out.alloc _)) (AR.out.keep0 (F.out.alloc _)) (Fa.refl lo _) (heap_alloc_new _ _) rfl (by simp) (Dem.cons (needR (HS.out.keep0 (F.out.alloc _))) fun hq0 => Dem.cons (needS (HS.out.keep0 (F.out.alloc _)) WF ((Frm.refl [] _).alloc _ |>.heap LS1.out (by simp)) ((Frm.refl [] _).alloc _ |>.heap LS2.out (by simp))) fun hq1 => Dem.last (needT (HS.out.keep0 (F.out.alloc _)) ((Frm.refl [] _).alloc _ |>.heap LT.out (by simp)) (nS_ok hq1).1))).mono ?_
  rintro e w9 ⟨h1, h2, h3⟩
  have HS9 := Lib.hid ((HS.out.keep0 (F.out.alloc _)).fa h3)
  have F9 := Lib.hid ((Fa.of0 (F.out.alloc _) lo).trans h3)
  have A9 := Lib.hid h2
  clear h2 h3
  rcases h1 with ⟨hq, rfl⟩ | ⟨k2, tx, hq, hk6, rfl⟩
  rotate_left
  · unfold rfu
    have HQ := Lib.hid hq
    clear hq
    go_wp2_with fail
    go_ret2
    exact ⟨.inr ⟨k2, HQ.out, rfl⟩, A9.out, F9.out⟩
  · obtain ⟨q0, q1⟩ := dCons_of hq
    obtain ⟨q1, q2⟩ := dCons_of q1
    obtain ⟨hi, hd0, hd9⟩ := okD_at (nS_ok q1).1
    obtain ⟨hj, ha0, ha9⟩ := okA_at (nS_ok q1).2
    have e2 : dCons (nR s, s) (dCons (nS s d a, s) (nT s d, s)) = (none, s) := by
      rw [dCons_none q0, dCons_none q1]
      exact Prod.ext q2 rfl
    rw [e2] at A9
    have A9 := Lib.hid (show Arr lo w9 g s from A9.out)
    have hlen := nT_len WD hi q2
    obtain ⟨dv, rv, drs, dsp, rcs, rsp, h⟩ := A9.out
    rw [← hlen] at hj
    obtain ⟨gd, cap, gs, cap2, lv, c2, c3, hby, hla, hlv, hmx, cs, T, hh⟩ := h.sec hi hj
    have hln : s.devs.length ≤ 9223372036854775807 := A9.out.len
    have SA := Lib.hid (sector_any g gd gs _ cap _ cap2 d a ⟨hd0, hd9⟩ ⟨ha0, by omega⟩ hln hmx w9 c2 c3)
    have TA := Lib.hid (tells_any gs (a.toNat * 257) _ lv w9 T cs hh hby hla hlv)
    have E2 := Lib.hid e2
    have SE := Lib.hid (secAt_at hi hj)
    clear h hq q0 q1 q2 e2 c2 c3 hby hla hlv hmx hh WD WF
    go_wp2_with (first
      | (go_at_call 44; refine SA.out.mono ?_; rintro e w11 ⟨rfl, hw11⟩; obtain rfl := hw11.symm)
      | (go_at_call 45; refine TA.out.mono ?_; rintro e w12 ⟨v, rfl, hv, hw12⟩; obtain rfl := hw12.symm; have cl := Clone_any v _ _ w9 hv (by rw [(tell s.devs[d.toNat].secs[a.toNat]).2]; omega); unfold Cloned at cl; rw [(tell s.devs[d.toNat].secs[a.toNat]).2] at cl; have CL := Lib.hid cl; clear hv cl)
      | (go_at_call 43; refine CL.out.mono ?_; rintro e w13 ⟨ca, ccap, csp, rfl, ho, f13⟩; have OW := Lib.hid ho; have F13 := Lib.hid f13; clear ho f13))
    go_ret2
    rw [E2.out]
    have ho := OW.out
    refine ⟨.inl ⟨rfl, ca, ccap, csp, rfl, ?_⟩, A9.out.keep0 F13.out, F9.out.trans (Fa.of0 F13.out lo)⟩
    unfold tellAt
    rw [SE.out]
    exact ho
end
end Go.Proofs.YtdebnikolhhmgaaDoor

namespace Go.Proofs.YtdebnikolhhmgaaDoor
open Go.RowKit
set_option linter.unusedVariables false
set_option linter.unusedSimpArgs false
set_option maxRecDepth 100000

open Kr (OwnE SlE Enco RowTys)
theorem pk2 (s : St) (d a : Int) : (dCons (nR s, s) (dCons (nS s d a, s) (nT s d, s))).2 = s := by unfold dCons; split; (split; rfl; rfl); rfl
section
variable {lo : Nat} {w : World} {sn : Nat → Addr} {g : Nat} {s : St}
set_option maxHeartbeats 4000000 in
theorem peeks_any (d a : Int) (v : Value) (l sp : List UInt8) (hs : Sn w lo sn) (h : Arr lo w g s) (WF : WfS s) (WD : WfD s) (hS : ∀ w', Fa lo w w' → SlB w' v l sp) :
    Calls Tryd.prog 33 #[ptr g, .int .i64 d, .int .i64 a, v] w fun e w' => e = .returned (.bool (decide (pkR s d a = none) && (tellAt s d a == l))) ∧ Arr lo w' g s ∧ Fa lo w w' := by
  have R := Peek_any d a hs h WF WD
  obtain ⟨va, vc, rfl, -, -⟩ := (hS w (Fa.refl lo w)).form
  have HS := Lib.hid hS
  have HR := Lib.hid R
  unfold ptr at HR ⊢
  clear R hS hs h WF WD
  go_enter Tryd.func33, Tryd.ntmps33
  go_upto_region 1 with (fail)
  go_wp2_with fail
  refine HR.out.mono ?_
  rintro e w1 ⟨⟨hn, ra, rc, rsp, rfl, ho⟩ | ⟨k, hk, rfl⟩, a1, f1⟩
  · rw [pk2] at a1
    have SM := Lib.hid (Same_any _ _ _ _ _ _ w1 ho.sl (HS.out w1 f1))
    have A1 := Lib.hid a1
    have F1 := Lib.hid f1
    have HN := Lib.hid (show pkR s d a = none from hn)
    clear hn ho a1 f1
    go_wp2_with (go_at_call 36; refine SM.out.mono ?_; rintro e w2 ⟨rfl, hw2⟩; obtain rfl := hw2.symm)
    go_ret
    exact ⟨by rw [HN.out]; simp, A1.out, F1.out⟩
  · rw [pk2] at a1
    have A1 := Lib.hid a1
    have F1 := Lib.hid f1
    have HK := Lib.hid (show pkR s d a = some k from hk)
    clear hk a1 f1
    go_wp2_with fail
    go_ret
    exact ⟨by rw [HK.out]; simp, A1.out, F1.out⟩
end
end Go.Proofs.YtdebnikolhhmgaaDoor

namespace Go.Proofs.YtdebnikolhhmgaaDoor
open Go.RowKit
set_option linter.unusedVariables false
set_option linter.unusedSimpArgs false
set_option maxRecDepth 100000

open Kr (OwnE SlE Enco RowTys)
section
variable {lo : Nat} {w : World} {sn : Nat → Addr} {g K : Nat} {s : St}
theorem fu_at (hs : Sn w lo sn) (h : Arr lo w g s) (n : Int) :
    Calls Tryd.prog 15 #[.pointer (some ⟨g, 0, none⟩), .int .i64 n] w fun e w' => e = .returned (.int .i64 (fuR s n).1) ∧ Arr lo w' g (fuR s n).2 ∧ Fa lo w w' := Fuse_any n hs h
end
end Go.Proofs.YtdebnikolhhmgaaDoor

namespace Go.Proofs.YtdebnikolhhmgaaDoor
open Go.RowKit
set_option linter.unusedVariables false
set_option linter.unusedSimpArgs false
set_option maxRecDepth 100000

open Kr (OwnE SlE Enco RowTys)
/-- Peeks, when all goes on. -/
theorem pk_done {s : St} {firm last : Nat → Nat → UInt8} (h : Jn s firm last) (ho : s.out = false) {d a : Nat} (hd : d < 2) (ha : a < 8) : pkR s d a = none ∧ tellAt s d a = ofL (last d a) := by
  have e0 : nR s = none := by unfold nR; rw [ho]; rfl
  constructor
  · unfold pkR
    rw [dCons_none e0, dCons_none (h.nS0 hd ha)]
    exact h.nT0 _
  · unfold tellAt
    rw [(h.sec d a hd ha).2.2]
    rfl
end Go.Proofs.YtdebnikolhhmgaaDoor

namespace Go.Proofs.YtdebnikolhhmgaaDoor
open Go.RowKit
set_option linter.unusedVariables false
set_option linter.unusedSimpArgs false
set_option maxRecDepth 100000

open Kr (OwnE SlE Enco RowTys)
section
variable {lo : Nat} {w : World} {sn : Nat → Addr} {g K : Nat} {s : St}
theorem pkY_at (hs : Sn w lo sn) (h : Arr lo w g s) (wf : Wf K s) (hK : K ≤ 100000000) (d a : Int) (v : Value) (l sp : List UInt8) (hS : ∀ w', Fa lo w w' → SlB w' v l sp) (hk : pkR s d a = none) (ht : tellAt s d a = l) :
    Calls Tryd.prog 33 #[.pointer (some ⟨g, 0, none⟩), .int .i64 d, .int .i64 a, v] w fun e w' => e = .returned (.bool true) ∧ Arr lo w' g s ∧ Fa lo w w' := by
  refine (show Calls Tryd.prog 33 #[.pointer (some ⟨g, 0, none⟩), .int .i64 d, .int .i64 a, v] w _ from peeks_any d a v l sp hs h (wf.wfs hK) wf.fd hS).mono ?_
  rintro e w' ⟨rfl, a1, f1⟩
  exact ⟨by rw [hk, ht]; simp, a1, f1⟩
end
end Go.Proofs.YtdebnikolhhmgaaDoor
