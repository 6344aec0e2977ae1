/-
  A table is written over. No conditions but those that each theorem names. Reads. No conditions but those that each theorem names.
-/
import Derived.Test.YtljhanhipmnioaaGreatMRa1
import Derived.Test.YtljhanhipmnioaaGreatMRa2
import Derived.Test.YtljhanhipmnioaaGreatMRa3
import Derived.Test.YtljhanhipmnioaaGreatMRa4
import Derived.Test.YtljhanhipmnioaaGreatMRa5
import Derived.Test.YtljhanhipmnioaaGreatMRa6
import Derived.Test.YtljhanhipmnioaaGreatMRa7
import Derived.Test.YtljhanhipmnioaaGreatMRa8
import Derived.Test.YtljhanhipmnioaaGreatMRa9
import Derived.Test.YtljhanhipmnioaaGreatMRa10
import Derived.Test.YtljhanhipmnioaaGreatMRb1
import Derived.Test.YtljhanhipmnioaaGreatMRc1
import Derived.Test.YtljhanhipmnioaaGreatMRf1
import Derived.Test.YtljhanhipmnioaaGreatMRf2
import Derived.Test.YtljhanhipmnioaaGreatMRi1
import Derived.Test.YtljhanhipmnioaaGreatMRi2
import Derived.WalkKit
import Derived.WalkSpells
import Derived.WalkLawsBesides
import Derived.Deep.AppendSrc
import Derived.Laws.CopyOwn
import Derived.Laws.BytesArg
import Derived.Carry
import Derived.Laws.BytesString
import Derived.Deep.SlicePairs
import Derived.Deep.Cut
import Derived.Lib.Hide
import Derived.Test.YtljhanhipmnioaaGreatChecked
import Derived.ChangeKeysEq
import Derived.Deep.MidRow
import Derived.Deep.RegionHeld3
import Derived.OpenShut
import Derived.WalkHide
import Derived.IntWalk
import Derived.StillTailTactics
import Derived.Deep.RegionLaw
import Derived.Deep.RegionWith
import Derived.Deep.QuietTactic
import Derived.BigQuiet
import Derived.OrdersHeld
import Derived.Deep.CutBlock
import Derived.Deep.DeepCutAuto
import Derived.Deep.Slices
import Derived.Defers
import Derived.Recover
import Derived.Deep.WholeRow
import Derived.Lib.Bytealg
import Derived.Lib.TrimUEq
import Derived.Lib.MinMaxS
import Derived.LaidEqlPtr
import Derived.Lib.OthersKept
import Derived.Deep.Draws
import Derived.WalkMore
import Derived.Deep.LoopGhost
import Derived.Lib.BufferWrite
import Derived.Lib.UnsafeStr
import Derived.Laws.MakeOwn
import Derived.Laws.Strings3
import Derived.BigRegion
import Derived.Lib.Walk
import Derived.Great.Walk
namespace Go.Proofs.YtljhanhipmnioaaGreat.Rd
open Go.RowKit
set_option linter.unusedVariables false
set_option linter.unusedSimpArgs false
set_option maxRecDepth 100000

open Pt (Pt may enc readPt readE zeroPt be4 be1 pc pv PtV SlA OwnA BT wpList_load_g heap_alloc_at lst_slB one_slB Ext Grew exec_slice_lh yieldsIf_ld)
open Kr (OwnE SlE Enco RowTys)

def ovR : Rec := ⟨-7, { data := #[111, 118, 101, 114] }, 0, 0, Pt.zeroPt, 0, 0, 0, 0, 0⟩
theorem ovR_s : ovR.root.s.length = 32 := by kernel_rfl
def rowOv : RowT := rowR nilS rfl ovR ovR_s
theorem bldOv (W : World) : (Instr.build 56 #[(0, .int .i64 (-7)), (1, .string { data := #[111, 118, 101, 114] })]).run Tryz.prog W = .ok (rv nilS ovR) W := by kernel_rfl
theorem exec_bldOv {o : Oper} {a : Act} (s1 s2 : Operand) (hop : o.op = Op.build 56 #[(0, s1), (1, s2)]) (h1 : a.eval s1 = .int .i64 (-7)) (h2 : a.eval s2 = .string { data := #[111, 118, 101, 114] }) (W : World) : (execOp a.eval o).run Tryz.prog W = .ok (.value (rv nilS ovR)) W := by
  have hb := bldOv W
  have hm : (#[(0, s1), (1, s2)].map fun ((i, x) : Nat × Operand) => (i, a.eval x)) = #[(0, .int .i64 (-7)), (1, .string { data := #[111, 118, 101, 114] })] := by simp [h1, h2]
  simp only [execOp, hop, hm, Sem.run_bind, Sem.run_pure, hb, Result.andThen_ok]
def OvRel (W : World) (gb : Nat) (v : Value) (l : List Rec) (rs : List RowT) (B : List Nat) (sp : List Value) (w : World) (cv : Value) (wr : World) : Prop :=
  ∃ (k : Nat) (rs' : List RowT), cv = .int .i64 k ∧ k ≤ l.length ∧ OwnE eR 44 56 wr v rs' sp ∧ rs'.length = rs.length ∧ (∀ i, k ≤ i → rs'[i]? = rs[i]?) ∧ (∀ (i : Nat) r u, k ≤ i → rs[i]? = some r → l[i]? = some u → RowO wr r u) ∧ Frm B w wr
def OvLiv (v : Value) (n : Nat) (sp : List Value) (w : World) (cv : Value) (wr : World) : Prop := ∃ (k : Nat) (ys : List Int), cv = .int .i64 k ∧ k ≤ n ∧ ys.length = n ∧ OwnE eI 1 3 wr v ys sp ∧ Frm (blk v) w wr
set_option maxHeartbeats 4000000 in
theorem OverT_any (w0 : World) (vr vl : Value) (t : Tab) (w : World) (h : OwnTb w0 w vr vl t) (hf : FitT t) : Calls Tryz.prog 31 #[tv vr vl t] w fun e w' => e = .returned (.tuple #[]) ∧ ∃ L, Frm L w w' ∧ ∀ i ∈ L, w0.heap.size ≤ i := by
  obtain ⟨rs, B, spl, hT, hL, hB⟩ := h
  obtain ⟨a, cap, rfl⟩ := hT.form
  obtain ⟨lv, lc, rfl, _, _⟩ := hL.sl.form
  obtain ⟨sp, ho⟩ := hT.own
  have hl9 : (t.recs.length : Int) ≤ 1000 := by have := hf.recs; omega
  have hl8 : (t.lives.length : Int) ≤ 1000 := by have := hf.lives; omega
  have f0 : Frm [] w (w.alloc (.cells (tc (.slice a t.recs.length cap) (.slice lv t.lives.length lc) t).toArray 27)) := (Frm.refl [] w).alloc _
  have HT := Lib.hid (hT.keep0 f0)
  have HO := Lib.hid (ho.keep0 f0)
  have HL := Lib.hid (hL.keep0 f0)
  have HB := Lib.hid hB
  have HF := Lib.hid hf
  have BX := Lib.hid (TB.new w (.slice a t.recs.length cap) (.slice lv t.lives.length lc) t)
  have F0 := Lib.hid f0
  have LOB := Lib.hid (show (∀ i ∈ B, i < w.heap.size) ∧ ∀ i ∈ blk (.slice lv t.lives.length lc), i < w.heap.size from ⟨fun i hi => (hT.lo i hi).2, hL.lt⟩)
  rw [tcA]
  clear hT hL hB hf ho f0
  generalize (tc (.slice a t.recs.length cap) (.slice lv t.lives.length lc) t).toArray = A at *
  go_enter Tryz.func31, Tryz.ntmps31
  go_upto_region 1 with (fail)
  generalize w.alloc (.cells A 27) = W at *
  go_upto_region 2 with (fail)
  go_loopw [2] (OvRel W w.heap.size (.slice a t.recs.length cap) t.recs rs B sp W) (fun cv _ => t.recs.length - (intOf cv).toNat)
  case atStart => exact ⟨0, rs, rfl, by omega, HO.out, rfl, fun i _ => rfl, fun i r u _ h1 h2 => HT.out.row i r u h1 h2, Frm.refl _ _⟩
  case round =>
    obtain ⟨k, rs', rfl, hk, o, hrl, hsame, hrows, f⟩ := hrel
    have bx := BX.out.keep f (fun hm => by have := LOB.out.1 _ hm; omega)
    have d1 := bx.gets.recs
    by_cases hlt : k < t.recs.length
    · have hlt' : (k : Int) < (t.recs.length : Int) := by omega
      have hk9 : (k : Int) ≤ 1000 := by omega
      have hlen := HT.out.len
      have hkr : k < rs'.length := by omega
      obtain ⟨b, off, e⟩ := o.sl.at (by omega)
      subst e
      have hoff : off = 0 := by
        obtain ⟨_, ⟨h2, _⟩ | ⟨g', c', h2, _⟩⟩ := o
        · cases h2
        · injection h2 with e1; injection e1 with e1; injection e1
      subst hoff
      have hr : rs[k]? = some rs'[k] := by rw [← hsame k (Nat.le_refl _)]; exact List.getElem?_eq_getElem hkr
      have hro := hrows k rs'[k] t.recs[k] (Nat.le_refl _) hr (List.getElem?_eq_getElem hlt)
      obtain ⟨xa, xc, xsp, hxe, hxo, hxw⟩ := hro
      have hrb := rb_rc hxe
      have hc := SlE.cell encRow o.sl k hkr 4 (u := .slice xa (t.recs[k]).root.ads.length xc) (by rw [show eR rs'[k] = (rs'[k]).1 from rfl, hxe]; rfl)
      rw [Nat.zero_add] at hc
      have HOV := Lib.hid (Pt.OverA_any _ _ _ wr hxo (HF.out.all _ (List.getElem_mem _)).ads)
      have HRB := Lib.hid hrb
      have HR := Lib.hid hr
      have O := Lib.hid o
      have HRW := Lib.hid hrows
      have HSM := Lib.hid hsame
      have HRL := Lib.hid (And.intro hrl (And.intro hkr hlt))
      have F := Lib.hid f
      have BK := Lib.hid bx
      generalize hri : rs'[k] = rk at *
      clear hri o hrl hsame hrows f hr hxe hxo hxw hrb bx
      generalize (t.recs[k]).root.ads.length = n at *
      clear hlt hkr
      go_upto_region 5 with (go_at_call 86; refine HOV.out.mono ?_; rintro r w1 ⟨rfl, f1⟩)
      have hvs := HT.out.vsep k rk HR.out
      have o1 := O.out.keep f1 (fun i hi hm => hvs i (by rw [HRB.out]; exact hm) hi)
      have hb1 : Blk w1 b 56 (Kr.flt eR rs' ++ sp) := OwnE.heap o1
      have O1 := Lib.hid o1
      have F1 := Lib.hid (F.out.trans f1 (fun i hi => .inl (HT.out.inr k rk HR.out i (by rw [HRB.out]; exact hi))))
      have RW1 := Lib.hid (show ∀ (i : Nat) r u, k + 1 ≤ i → rs[i]? = some r → t.recs[i]? = some u → RowO w1 r u from fun i r u hi h1 h2 => (HRW.out i r u (by omega) h1 h2).keep f1 (fun j hj hm => HT.out.sep i k r rk (by omega) h1 HR.out j hj (by rw [HRB.out]; exact hm)))
      have b1 := BK.out.keep f1 (fun hm => by have := LOB.out.1 _ (HT.out.inr k rk HR.out _ (by rw [HRB.out]; exact hm)); omega)
      have e1 := b1.gets.recs
      clear o1 f1 hvs b1 d1
      go_upto_region 3 with (first
        | ((with_reducible (show wpList _ _ _ (Oper.mk _ (Op.build 56 _) _ _ _ _ :: _) _ _)); refine wpList_val rfl (exec_bldOv _ _ rfl rfl rfl _) ?_)
        | ((with_reducible (show wpList _ _ _ (Oper.mk _ (Op.store 56 _ _) _ _ _ _ :: _) _ _)); refine wpList_store_mid rfl 56 (.tmp 23) (.tmp 22) rfl b (k * 44) (rc nilS ovR).toArray rfl rfl (by rw [List.size_toArray, rc_length ovR_s]; exact hb1.there 44 (by have := HRL.out; rw [List.length_append, Kr.flt_length encRow]; omega)) (by rw [i56, List.size_toArray, rc_length ovR_s]) (rc_all _ rfl _) ?_))
      have o2 := OwnR.put O1.out k HRL.out.2.1 rowOv
      have f2 : Frm [b] w1 (w1.setCells b (k * 44) rowOv.1) := Frm.setCells _ _ _ (Frm.refl _ _) (.inl (by simp))
      have hbB : b ∈ B := HT.out.inv b (by simp [blk])
      rw [show rc nilS ovR = rowOv.1 from rfl]
      have hnew : OvRel W w.heap.size (.slice (some ⟨b, 0, none⟩) t.recs.length cap) t.recs rs B sp W (.int .i64 ((k : Int) + 1)) (w1.setCells b (k * 44) rowOv.1) := by
        refine ⟨k + 1, rs'.set k rowOv, by go_num, HRL.out.2.2, o2, by simpa using HRL.out.1, fun i hi => ?_, fun i r u hi h1 h2 => (RW1.out i r u hi h1 h2).keep f2 (fun j hj hm => ?_), F1.out.trans f2 (fun i hi => .inl (by simp at hi; rw [hi]; exact hbB))⟩
        · rw [List.getElem?_set_ne (by omega)]; exact HSM.out i (by omega)
        · simp at hm; subst hm; exact HT.out.vsep i r h1 j hj (by simp [blk])
      have HN := Lib.hid hnew
      clear hnew o2 f2 hb1 e1
      generalize w1.setCells b (k * 44) rowOv.1 = w2 at *
      go_wp2_with fail
      go_roundw
      case rel => exact HN.out
      case measure => simp [intOf]; have := HRL.out.2.2; omega
    · obtain rfl : k = t.recs.length := by omega
      have F := Lib.hid f
      have BK := Lib.hid bx
      have L1 := Lib.hid (HL.out.keep f (fun i hi hm => (HB.out i hi).2 hm))
      clear o hrl hsame hrows f bx
      go_upto_region 7 with (fail)
      clear d1
      go_loopw [3] (OvLiv (.slice lv t.lives.length lc) t.lives.length spl wr) (fun cv _ => t.lives.length - (intOf cv).toNat)
      case atStart => exact ⟨0, t.lives, rfl, by omega, rfl, L1.out, Frm.refl _ _⟩
      case round =>
        obtain ⟨k, ys, rfl, hk, hy, o, f⟩ := hrel
        have bx := BK.out.keep f (fun hm => by have := LOB.out.2 _ hm; omega)
        have d6 := bx.gets.lives
        clear bx
        by_cases hlt : k < t.lives.length
        · have hlt' : (k : Int) < (t.lives.length : Int) := by omega
          have hk9 : (k : Int) ≤ 1000 := by omega
          have hky : k < ys.length := by omega
          obtain ⟨b, off, e⟩ := o.sl.at (by omega)
          subst e
          have hoff : off = 0 := by
            obtain ⟨_, ⟨h2, _⟩ | ⟨g', c', h2, _⟩⟩ := o
            · cases h2
            · injection h2 with e1; injection e1 with e1; injection e1
          subst hoff
          have hc := SlE.cell encI o.sl k hky 0 (u := .int .i64 ys[k]) rfl
          rw [Nat.zero_add, Nat.mul_one, Nat.add_zero] at hc
          have z0 := frozen_of_heap (OwnE.heap o) k
          have hst := OwnE.store encI o k 0 hky (by omega) (-7) (.int .i64 (-7)) rfl
          rw [Nat.mul_one, Nat.add_zero] at hst
          generalize ys[k] = yk at *
          have ST := Lib.hid hst
          have FF := Lib.hid f
          have HY := Lib.hid hy
          clear hst o f hy
          go_wp2_with fail
          go_roundw
          case rel => exact ⟨k + 1, ys.set k (-7), by go_num, by omega, by simpa using HY.out, ST.out, FF.out.setCell _ _ (.inl (by simp [blk]))⟩
          case measure => simp [intOf]; omega
        · obtain rfl : k = t.lives.length := by omega
          have FF := Lib.hid f
          clear o f hy
          go_wp2_with fail
          go_end0
          refine ⟨rfl, B ++ blk (.slice lv t.lives.length lc), (((F0.out.mono (by simp)).trans F.out (fun i hi => .inl (by simp [hi]))).trans FF.out (fun i hi => .inl (by simp [hi]))), fun i hi => ?_⟩
          rcases List.mem_append.1 hi with hi | hi
          · exact (HT.out.lo i hi).1
          · exact (HB.out i hi).1
end Go.Proofs.YtljhanhipmnioaaGreat.Rd

namespace Go.Proofs.YtljhanhipmnioaaGreat.Rd
open Go.RowKit
set_option linter.unusedVariables false
set_option linter.unusedSimpArgs false
set_option maxRecDepth 100000

open Pt (Pt may enc readPt readE zeroPt be4 be1 pc pv PtV SlA OwnA BT wpList_load_g heap_alloc_at lst_slB one_slB Ext Grew exec_slice_lh yieldsIf_ld)
open Kr (OwnE SlE Enco RowTys)

set_option maxHeartbeats 16000000 in
theorem reads_law (v : Value) (l sp : List UInt8) (w : World) (hS : SlB w v l sp) : Calls Tryz.prog 4 #[v] w (Yes w) := by
  obtain ⟨a, cap, rfl, _, hc⟩ := hS.form
  have hc9 : (l.length : Int) ≤ 9223372036854775807 := by simp only [maxLen] at hc; omega
  by_cases hbig : 5000 < l.length
  · have hb9 : (5000 : Int) < (l.length : Int) := by omega
    have HA := Lib.hid (awake_any w)
    unfold Yes at HA
    clear hS hbig
    go_enter Tryz.func4, Tryz.ntmps4
    go_wp2_with (go_at_call 15; refine HA.out.mono ?_; rintro r w1 ⟨rfl, f1⟩)
    go_ret
    exact ⟨rfl, f1⟩
  · have hb9 : ¬ (5000 : Int) < (l.length : Int) := by omega
    have HL := Lib.hid (show l.length ≤ 1000000 by omega)
    have HV := Lib.hid (RV.of hS)
    have HLN := Lib.hid (Pt.Lent_any _ l sp w hS (by omega))
    have HSW := Lib.hid hS
    clear hS hbig
    go_enter Tryz.func4, Tryz.ntmps4
    go_upto_region 4 with (go_at_call 28; refine HLN.out.mono ?_; rintro r w1 ⟨rfl, o1, f1⟩)
    have O1 := Lib.hid o1
    have F1 := Lib.hid f1
    have LT1 := Lib.hid (show w.heap.size < w1.heap.size from o1.lt _ (by simp [blk]))
    have HRO := Lib.hid (Read_any _ l _ w1 o1.sl HL.out)
    clear o1 f1
    go_upto_region 5 with (first
      | (go_at_call 29; refine HRO.out.mono ?_; rintro r w2 hro; obtain ⟨vr, vl, rfl, ow, ft, f2⟩ := hro.own)
      | (refine wpList_layTF rfl rfl rfl rfl rfl rfl (.tmp 4) (.tmp 5) (.tmp 18) (.tmp 19) rfl rfl (t := (readT l).1) (e := (readT l).2.1) (f := (readT l).2.2) ow.ones.1 ow.ones.2 rfl rfl rfl rfl ?_; intro V3 b3 d3 f3))
    have OW := Lib.hid (ow.keep0 f3)
    have FT := Lib.hid ft
    have F3 := Lib.hid (f2.trans f3 (by simp))
    have B3 := Lib.hid b3
    have D3 := Lib.hid d3
    have HRD := Lib.hid (fun z (f : Frm [] w z) => RefReadT_any (.slice a l.length cap) l sp z (HSW.out.keep f (by simp)) HL.out)
    clear ow ft f2 b3 d3 f3 hro
    go_upto_region 6 with (first
      | (go_at_call 30; refine (HRD.out _ (F1.out.trans F3.out (by simp))).mono ?_; rintro r w4 hrd; obtain ⟨xr, xl, rfl, xv, f4⟩ := hrd)
      | (refine wpList_layTF rfl rfl rfl rfl rfl rfl (.tmp 6) (.tmp 7) (.tmp 23) (.tmp 24) rfl rfl (t := (readT l).1) (e := (readT l).2.1) (f := (readT l).2.2) xv.ones.1 xv.ones.2 rfl rfl rfl rfl ?_; intro V5 b5 d5 f5))
    have k45 : Frm [] V3 V5 := f4.trans f5 (by simp)
    have LA := Lib.hid (fun z (f : Frm [] V5 z) => ((B3.out.keep0 k45).keep0 f).gets.all)
    have LB := Lib.hid b5.gets.all
    have dd := k45.heap D3.out (by simp)
    have c0 : V5.cell? ⟨w2.heap.size + 1, 0, none⟩ = some (.int .i64 (readT l).2.1) := by rw [cell_of_heap dd]; rfl
    have c1 : V5.cell? ⟨w2.heap.size + 1, 1, none⟩ = some (.int .i64 (readT l).2.2) := by rw [cell_of_heap dd]; rfl
    have e0 : V5.cell? ⟨w4.heap.size + 1, 0, none⟩ = some (.int .i64 (readT l).2.1) := by rw [cell_of_heap d5]; rfl
    have e1 : V5.cell? ⟨w4.heap.size + 1, 1, none⟩ = some (.int .i64 (readT l).2.2) := by rw [cell_of_heap d5]; rfl
    have OW5 := Lib.hid (OW.out.keep0 k45)
    have HST := Lib.hid (by have h := SameTable_any vr vl xr xl (readT l).1 (readT l).1 V5 OW5.out.v (xv.keep0 f5) FT.out; rw [sameT_refl] at h; exact h)
    have F5 := Lib.hid (show Frm [] w1 V5 from F3.out.trans k45 (by simp))
    have HOV := Lib.hid (fun z (f : Frm [] V5 z) => OverT_any w1 vr vl (readT l).1 z (OW5.out.keep0 f) FT.out)
    clear k45 dd b5 d5 f4 f5 xv B3 D3 F3
    generalize (readT l).2.1 = E at *
    generalize (readT l).2.2 = A at *
    generalize (readT l).1 = T at *
    go_upto_region 7 with (first
      | ((with_reducible (show wpList _ _ _ (Oper.mk _ (Op.load 27 (Operand.tmp 4)) _ _ _ _ :: _) _ _)); refine wpList_load_g (by rfl) 27 _ rfl _ rfl (LA.out _ (Frm.refl [] _)) ?_)
      | ((with_reducible (show wpList _ _ _ (Oper.mk _ (Op.load 27 (Operand.tmp 6)) _ _ _ _ :: _) _ _)); refine wpList_load_g (by rfl) 27 _ rfl _ rfl LB.out ?_)
      | (go_at_call 27; refine HST.out.mono ?_; rintro r w6 ⟨rfl, f6⟩; have C0 := f6.cell c0 (by simp); have C1 := f6.cell c1 (by simp); have E0 := f6.cell e0 (by simp); have E1 := f6.cell e1 (by simp)))
    clear C0 C1 E0 E1 c0 c1 e0 e1
    go_upto_region 8 with (first
      | ((with_reducible (show wpList _ _ _ (Oper.mk _ (Op.load 27 (Operand.tmp 4)) _ _ _ _ :: _) _ _)); refine wpList_load_g (by rfl) 27 _ rfl _ rfl (LA.out _ f6) ?_)
      | (go_at_call 31; refine (HOV.out _ f6).mono ?_; rintro r w7 ⟨rfl, L, f7, hL⟩))
    have F7 := Lib.hid ((F5.out.trans f6 (by simp)).trans f7 (fun i hi => .inr (hL i hi)))
    have k17 : Frm L w1 w7 := ((F5.out.trans f6 (by simp)).mono (by simp)).trans f7 (fun i hi => .inl hi)
    have HK := Lib.hid (by
      obtain ⟨sp7, s7, _⟩ := HV.out.keep ((F1.out.mono (L' := L) (by simp)).trans k17 (fun i hi => .inl hi)) (fun i hi => by have := hL i hi; have := LT1.out; omega)
      exact Pt.Kept_true w.heap.size l.length (l.length + 3) (.slice a l.length cap) l sp7 w7 (O1.out.keep k17 (fun i hi hm => by have := hL i hm; have := LT1.out; simp [blk] at hi; omega)) s7 HL.out)
    clear f6 f7 hL k17
    go_wp2_with (first
      | (go_at_call 32; refine HK.out.mono ?_; rintro r w8 ⟨rfl, f8⟩)
      | (go_at_call 15; refine (awake_any _).mono ?_; rintro r w9 ⟨rfl, f9⟩))
    go_ret
    exact ⟨rfl, ((F1.out.trans F7.out (by simp)).trans f8 (by simp)).trans f9 (by simp)⟩
end Go.Proofs.YtljhanhipmnioaaGreat.Rd
