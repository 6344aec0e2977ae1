/-
  ArrayFuses: the walk. No conditions but those that each theorem names.
-/
import Derived.Test.YtdebnikolhhmgaaDoorMAa1
import Derived.Test.YtdebnikolhhmgaaDoorMAa2
import Derived.Test.YtdebnikolhhmgaaDoorMAa3
import Derived.Test.YtdebnikolhhmgaaDoorMAa4
import Derived.Test.YtdebnikolhhmgaaDoorMAc1
import Derived.WalkKit
import Derived.WalkSpells
import Derived.WalkLawsBesides
import Derived.Deep.AppendSrc
import Derived.Laws.CopyOwn
import Derived.Laws.BytesArg
import Derived.Carry
import Derived.Laws.BytesString
import Derived.Lib.Hide
import Derived.Test.YtdebnikolhhmgaaDoorChecked
import Derived.Stop.Asserts
import Derived.LaidEql
import Derived.RowKitTokens
import Derived.WalkHide
import Derived.StillTailTactics
import Derived.OpenShut
import Derived.OrdersHeld
import Derived.BigQuiet
import Derived.Deep.QuietTactic
import Derived.Deep.MidRow
import Derived.Deep.RegionHeld3
import Derived.Deep.RegionLaw
import Derived.Deep.RegionWith
import Derived.LaidEqlPtr
import Derived.Deep.CutBlock
import Derived.Deep.DeepCutAuto
import Derived.Deep.Slices
import Derived.Shelf.Abstract
import Derived.Laws.Tables
import Derived.Deep.RegionHeld
import Derived.OwnWalk
import Derived.Test.YtdebnikolhhmgaaDoorTie
import Derived.Test.YtdebnikolhhmgaaDoorCards
import Derived.ProofKit
import Derived.ShutString
import Derived.ChangeOld
import Derived.LaidMore
import Derived.Stop.Joined
import Derived.SevenTiedAt
import Derived.Stop.LaidTwo
import Derived.ChangeSame
namespace Go.Proofs.YtdebnikolhhmgaaDoor
open Go.RowKit
set_option linter.unusedVariables false
set_option linter.unusedSimpArgs false
set_option maxRecDepth 100000

open Kr (OwnE SlE Enco RowTys)
def FuRel (lo g b : Nat) (l : List LayT) (n : Nat) (w0 : World) (dv cv : Value) (wr : World) : Prop :=
  ∃ (k : Nat) (s : St) (firm last : Nat → Nat → UInt8) (done : Nat), k ≤ l.length ∧ done ≤ 2 * k ∧ dv = .int .i64 done ∧ cv = .int .i64 k ∧ Fz s firm last n done ∧ Wf (2 * k) s ∧ Arr lo wr g s ∧ Bx wr b firm ∧ Bx wr (b + 1) last ∧ Fa lo w0 wr
def TrRel (lo g : Nat) (s : St) (b : Nat) (last : Nat → Nat → UInt8) (w0 : World) (av cv : Value) (wr : World) : Prop :=
  ∃ (k : Nat) (asp : List Value), k ≤ s.row.length ∧ cv = .int .i64 k ∧ OwnE eB 1 4 wr av (List.replicate k true) asp ∧ (∀ j ∈ blk av, w0.heap.size ≤ j ∧ lo ≤ j ∧ j ≠ b + 1) ∧ Arr lo wr g s ∧ Bx wr (b + 1) last ∧ Fa lo w0 wr
def PkRel (lo g : Nat) (s : St) (b : Nat) (last : Nat → Nat → UInt8) (w0 : World) (cv : Value) (wr : World) : Prop :=
  ∃ k : Nat, k ≤ 16 ∧ cv = .int .i64 k ∧ Arr lo wr g s ∧ Bx wr (b + 1) last ∧ Fa lo w0 wr
theorem tysBo : RowTys Tryd.prog 23 4 1 1 := ⟨Tryd.underlying23, .bool false, by kernel_rfl, by kernel_rfl⟩
section
variable {lo : Nat} {w : World} {sn : Nat → Addr}
set_option maxHeartbeats 32000000 in
theorem Fuses_any (v : Value) (l : List LayT) (sp : List Value) (x1 : Int) (hS : ∀ w', Fa lo w w' → SlE eL 4 w' v l sp) (hw : ∀ x ∈ l, WfLay x) (hs : Sn w lo sn) (hlo : lo ≤ w.heap.size) :
    Calls Tryd.prog 7 #[v, .int .i64 x1] w fun e w' => e = .returned (.bool true) ∧ Fa lo w w' := by
  obtain ⟨ad, vcap, rfl, _, _⟩ := (hS w (Fa.refl lo w)).form
  have HSL := Lib.hid hS
  have S := Lib.hid hs
  have S0 := Lib.hid hs
  have HW := Lib.hid hw
  have F := Lib.hid (Fa.refl lo w)
  have hn131 := pkN_lt x1 (show (0 : Int) < 131 by omega)
  obtain ⟨n, Hn⟩ : ∃ n, pkN x1 131 = n := ⟨_, rfl⟩
  rw [Hn] at hn131
  have HN := Lib.hid Hn
  clear hS hs hw Hn
  by_cases hl : 60 < l.length
  · have hl' : (60 : Int) < (l.length : Int) := by omega
    go_enter Tryd.func7, Tryd.ntmps7
    go_wp2_with (first
      | (go_at_call 10; refine (awake_any S.out (Nat.le_trans hlo F.out.size)).mono ?_; rintro e w1 ⟨rfl, f1⟩; have F := Lib.hid (F.out.trans f1); have S := Lib.hid (S.out.fa f1); clear f1)
      | (go_at_call 28; refine (made_any S.out (Nat.le_trans hlo F.out.size)).mono ?_; rintro e w1 ⟨g, rfl, a1, f1⟩; have A := Lib.hid a1; have F := Lib.hid (F.out.trans f1); have S := Lib.hid (S.out.fa f1); clear a1 f1)
      | (go_at_call 34; refine (Pick_pk x1 131 (by omega) (by omega) _).mono ?_; rintro e w1 ⟨rfl, hw1⟩; obtain rfl := hw1.symm; rw [HN.out]))
    go_ret
    exact ⟨rfl, F.out⟩
  · have hl' : (l.length : Int) ≤ 60 := by omega
    have HB := Lib.hid (Fz.begin n)
    go_enter Tryd.func7, Tryd.ntmps7
    go_upto_region 9 with (first
      | (go_at_call 10; refine (awake_any S.out (Nat.le_trans hlo F.out.size)).mono ?_; rintro e w1 ⟨rfl, f1⟩; have F := Lib.hid (F.out.trans f1); have S := Lib.hid (S.out.fa f1); clear f1)
      | (go_at_call 28; refine (made_any S.out (Nat.le_trans hlo F.out.size)).mono ?_; rintro e w1 ⟨g, rfl, a1, f1⟩; have A := Lib.hid a1; have F := Lib.hid (F.out.trans f1); have S := Lib.hid (S.out.fa f1); clear a1 f1)
      | (go_at_call 34; refine (Pick_pk x1 131 (by omega) (by omega) _).mono ?_; rintro e w1 ⟨rfl, hw1⟩; obtain rfl := hw1.symm; rw [HN.out])
      | (go_at_call 15; refine (fu_at S.out A.out n).mono ?_; rintro e w3 ⟨rfl, a1, f1⟩; rw [HB.out.1]; have A := Lib.hid a1; have F := Lib.hid (F.out.trans f1); have S := Lib.hid (S.out.fa f1); clear a1 f1))
    have z0 : (#[Value.int IntKind.u8 0, Value.int IntKind.u8 0, Value.int IntKind.u8 0, Value.int IntKind.u8 0, Value.int IntKind.u8 0, Value.int IntKind.u8 0, Value.int IntKind.u8 0, Value.int IntKind.u8 0, Value.int IntKind.u8 0, Value.int IntKind.u8 0, Value.int IntKind.u8 0, Value.int IntKind.u8 0, Value.int IntKind.u8 0, Value.int IntKind.u8 0, Value.int IntKind.u8 0, Value.int IntKind.u8 0] : Array Value) = (cel zf).toArray := by kernel_rfl
    rw [z0]
    obtain ⟨W, hW⟩ : ∃ W, (w3.alloc (.cells (cel zf).toArray 57)).alloc (.cells (cel zf).toArray 57) = W := ⟨_, rfl⟩
    obtain ⟨b, hb⟩ : ∃ b, w3.heap.size = b := ⟨_, rfl⟩
    rw [hW, hb]
    have k4 : Bx W b zf := by rw [← hW, ← hb]; exact heap_alloc_lt (heap_alloc_new _ _)
    have k5 : Bx W (b + 1) zf := by rw [← hW, ← hb]; exact heap_alloc_new (w3.alloc _) _ |> fun h => by rwa [show (w3.alloc (.cells (cel zf).toArray 57)).heap.size = w3.heap.size + 1 from Array.size_push _] at h
    have FW : Frm [] w3 W := by rw [← hW]; exact ((Frm.refl [] w3).alloc _).alloc _
    have K := Lib.hid (And.intro k4 k5)
    have AW := Lib.hid (A.out.keep0 FW)
    have FAW := Lib.hid (F.out.trans (Fa.of0 FW lo))
    have hbw : w.heap.size ≤ b := by rw [← hb]; exact F.out.size
    clear k4 k5 z0 hW FW A S
    go_loopw [7, 10] (FuRel lo g b l n w) (fun _ c _ => l.length - (intOf c).toNat)
    case atStart => exact ⟨0, _, zf, zf, 0, by omega, by omega, rfl, rfl, HB.out.2, (new_wf 8 2 (by omega)).fuR n (by omega), AW.out, K.out.1, K.out.2, FAW.out⟩
    case round =>
      obtain ⟨k, s, firm, last, done, hk, hd2k, rfl, rfl, hz, wf, ha, h8, h9, fa⟩ := hrel
      have S := Lib.hid (S0.out.fa fa)
      have sl := HSL.out wr fa
      have FA := Lib.hid fa
      have AR := Lib.hid ha
      have HZ := Lib.hid hz
      have WF := Lib.hid wf
      have H8 := Lib.hid h8
      have H9 := Lib.hid h9
      clear fa ha hz wf h8 h9
      by_cases hlt : k < l.length
      · obtain ⟨bb, off, rfl⟩ := sl.at (by omega)
        have c0 := sl.cell encL k hlt 0 (u := .int .i64 l[k].1) rfl
        have c1 := sl.cell encL k hlt 1 (u := .int .i64 l[k].2.1) rfl
        have c2 := sl.cell encL k hlt 2 (u := .int .u8 l[k].2.2.1) rfl
        have hb0 := HW.out _ (List.getElem_mem hlt)
        obtain ⟨x, Hx⟩ : ∃ x, l[k] = x := ⟨_, rfl⟩
        rw [Hx] at c0 c1 c2 hb0
        obtain ⟨xd, xa, xb, xf⟩ := x
        obtain ⟨bt, Hbt⟩ : ∃ bt : UInt8, xb = (bt.toNat : Int) := ⟨UInt8.ofNat xb.toNat, by rw [UInt8.toNat_ofNat']; have := hb0.1; have := hb0.2; simp only at *; omega⟩
        simp only at c0 c1 c2
        rw [Nat.add_zero] at c0
        rw [← Nat.add_assoc] at c1 c2
        have hp1 := Pick_pk xd 2 (by omega) (by omega) wr.drew
        have hp2 := Pick_pk xa 8 (by omega) (by omega) wr.drew
        have hd2 := pkN_lt xd (show (0 : Int) < 2 by omega)
        have ha8 := pkN_lt xa (show (0 : Int) < 8 by omega)
        have HX := Lib.hid (And.intro Hx Hbt)
        clear sl hb0 Hx Hbt
        go_upto_region 11 with (fail)
        refine wp_region_still_lit (by kernel_rfl) (by kernel_rfl) ?_
        change wpStill _ _ (World.drew _) _ _ _
        repeat still_step
        still_call hp1
        repeat still_step
        still_call hp2
        repeat still_step
        refine wpStill_nil ?_
        change Exit.then _ _ _ _ (World.drew wr)
        have SD := Lib.hid (S.out.fa ((Fa.refl lo wr).drew))
        have AD := Lib.hid AR.out.drew
        obtain ⟨d, Hd⟩ : ∃ d, pkN xd 2 = d := ⟨_, rfl⟩
        obtain ⟨a, Ha⟩ : ∃ a, pkN xa 8 = a := ⟨_, rfl⟩
        rw [Hd] at hd2 ⊢
        rw [Ha] at ha8 ⊢
        have hd2' : d < 2 := by omega
        have ha8' : a < 8 := by omega
        have HWR := Lib.hid (HZ.out.write hd2' ha8' bt)
        clear hp1 hp2 Hd Ha
        go_upto_region 13 with (first
          | (go_at_call 29; refine (of_at (lo := lo) bt _ HX.out.2).mono ?_; rintro e w1 ⟨v1, rfl, hv, f0⟩; have F1 := Lib.hid f0; have V := Lib.hid hv; clear f0 hv)
          | (go_at_call 13; refine (wr_at (SD.out.keep0 F1.out) (AD.out.keep0 F1.out) WF.out (by omega) d a _ (ofL bt) _ V.out).mono ?_; rintro e w2 ⟨rfl, a2, f2⟩; have A2 := Lib.hid a2; have F2 := Lib.hid f2; clear a2 f2))
        have FD := Lib.hid (((FA.out.drew).trans (Fa.of0 F1.out lo)).trans F2.out)
        have G2 := Lib.hid (((Fa.refl lo wr).drew.trans (Fa.of0 F1.out lo)).trans F2.out)
        have WF2 := Lib.hid (WF.out.wrR d a (ofL bt))
        have B9 := Lib.hid (H9.out.fa G2.out)
        have B8 := Lib.hid (H8.out.fa G2.out)
        clear c0 c1
        rcases HWR.out with ⟨hdn, e1, z1⟩ | ⟨hdn, e1, z1⟩
        · rw [e1]
          have Z1 := Lib.hid z1
          have hdn' : (done : Int) < (n : Int) := by omega
          have sl := HSL.out w2 FD.out
          have c2 := sl.cell encL k hlt 2 (u := .int .u8 l[k].2.2.1) rfl
          rw [HX.out.1] at c2
          rw [← Nat.add_assoc] at c2
          simp only at c2
          have z9 := B9.out.frozen (d * 8 + a)
          have e9 := B9.out.at hd2' ha8'
          have hdone : (done : Int) ≤ 1000 := by omega
          clear sl e1 z1
          go_upto_region 17 with (fail)
          refine wp_region_still_tail 9 (by kernel_rfl) (by kernel_rfl) ?_
          simp only [List.take_succ_cons, List.take_zero, List.drop_succ_cons, List.drop_zero]
          repeat still_step
          refine wpStill_nil ?_
          go_upto_region 18 with (fail)
          have FS2 : Frm [b + 1] w2 (w2.setCell ⟨b + 1, d * 8 + a, none⟩ (.int .u8 xb)).drew := ((Frm.refl _ w2).setCell _ _ (.inl (by simp))).drew
          have HB8 : Bx (w2.setCell ⟨b + 1, d * 8 + a, none⟩ (.int .u8 xb)).drew (b + 1) (upd last d a bt) := by
            rw [HX.out.2]
            exact Bx.set B9.out hd2' ha8' bt
          obtain ⟨w3, H3⟩ : ∃ w3, (w2.setCell ⟨b + 1, d * 8 + a, none⟩ (.int .u8 xb)).drew = w3 := ⟨_, rfl⟩
          rw [H3] at FS2 HB8 ⊢
          have o8 : Other w2 [b + 1] := fun j hj => by
            rw [List.mem_singleton.1 hj]
            exact ⟨_, 57, _, B9.out, by decide, by decide⟩
          have A3 := Lib.hid (A2.out.keep FS2 o8)
          have B93 := Lib.hid HB8
          have B83 := Lib.hid (B8.out.frm FS2 (by simp))
          have FA3 := Lib.hid (FD.out.frmN FS2 (fun i hi => by rw [List.mem_singleton.1 hi]; omega))
          have Z3 := Lib.hid Z1.out
          clear HB8 o8 FS2 H3 z9 e9 c2 hdn'
          have S3 := Lib.hid (S0.out.fa FA3.out)
          have sl := HSL.out w3 FA3.out
          have c3 := sl.cell encL k hlt 3 (u := .bool l[k].2.2.2) rfl
          rw [HX.out.1] at c3
          rw [← Nat.add_assoc] at c3
          simp only at c3
          clear sl
          cases xf
          · go_wp2_with fail
            go_roundw
            case rel => exact ⟨k + 1, _, firm, upd last d a bt, (done + 1), by omega, by omega, by first | rfl | go_num, by first | rfl | go_num, Z3.out, WF2.out.mono (by omega), A3.out, B83.out, B93.out, FA3.out⟩
            case measure => simp [intOf]; omega
          · go_upto_region 20 with (go_at_call 14; refine (fl_at S3.out A3.out WF2.out (by omega) d).mono ?_; rintro e w4 ⟨rfl, a4, f4⟩; have A4 := Lib.hid a4; have F4 := Lib.hid f4; clear a4 f4)
            rcases Z3.out.flush hd2' with ⟨hd3, e4, z4⟩ | ⟨hd3, e4, z4⟩
            · have hd4 : (done : Int) + 1 < (n : Int) := by omega
              rw [e4]
              have Z4 := Lib.hid z4
              have e8 := (B93.out.fa F4.out).range hd2'
              have t7 := (B83.out.fa F4.out).there hd2'
              have u56 := Tryd.underlying56
              clear z4 e4
              go_upto_region 10 with (first
                | ((with_reducible (show wpList _ _ _ (Oper.mk _ (Op.load 56 _) _ _ _ _ :: _) _ _)); refine wpList_load_mid rfl 56 _ rfl (b + 1) (d * 8) rfl _ _ e8 u56 rfl i56 ?_)
                | ((with_reducible (show wpList _ _ _ (Oper.mk _ (Op.store 56 _ _) _ _ _ _ :: _) _ _)); refine wpList_store_mid rfl 56 _ _ rfl b (d * 8) (rw8 (upd last d a bt d)).toArray rfl rfl t7 i56 (one_rw8 _) ?_))
              have FR : Frm [b] w4 (w4.setCells b (d * 8) (rw8 (upd last d a bt d))) := frm_setCells _ _ _ _ _ (Frm.refl _ _) (by simp)
              have HB7 := (B83.out.fa F4.out).setRow hd2' (upd last d a bt d)
              have o7 : Other w4 [b] := fun j hj => by
                rw [List.mem_singleton.1 hj]
                exact ⟨_, 57, _, (show Bx w4 _ _ from B83.out.fa F4.out), by decide, by decide⟩
              obtain ⟨w5, H5⟩ : ∃ w5, w4.setCells b (d * 8) (rw8 (upd last d a bt d)) = w5 := ⟨_, rfl⟩
              rw [H5] at FR HB7 ⊢
              have A5 := Lib.hid (A4.out.keep FR o7)
              have B75 := Lib.hid HB7
              have B85 := Lib.hid ((B93.out.fa F4.out).frm FR (by simp))
              have FA5 := Lib.hid ((FA3.out.trans F4.out).frmN FR (fun i hi => by rw [List.mem_singleton.1 hi]; omega))
              have efm : (fun d' a' => if d' = d then (upd last d a bt) d' a' else firm d' a') = (fun d' a' => if d' = d then (upd last d a bt) d a' else firm d' a') := by
                funext d' a'
                by_cases e : d' = d
                · rw [e]
                · rw [if_neg e, if_neg e]
              have Z5 := Lib.hid (efm ▸ Z4.out)
              clear FR HB7 o7 H5 e8 t7 u56 efm
              go_wp2_with fail
              go_roundw
              case rel => exact ⟨k + 1, _, _, upd last d a bt, (done + 1) + 1, by omega, by omega, by first | rfl | go_num, by first | rfl | go_num, Z5.out, (WF2.out.flR d).mono (by omega), A5.out, B75.out, B85.out, FA5.out⟩
              case measure => simp [intOf]; omega
            · have hd4 : ¬ (done : Int) + 1 < (n : Int) := by omega
              rw [e4]
              have Z4 := Lib.hid z4
              clear z4 e4
              go_wp2_with fail
              go_roundw
              case rel => exact ⟨k + 1, _, firm, upd last d a bt, (done + 1), by omega, by omega, by first | rfl | go_num, by first | rfl | go_num, Z4.out, (WF2.out.flR d).mono (by omega), A4.out, B83.out.fa F4.out, B93.out.fa F4.out, FA3.out.trans F4.out⟩
              case measure => simp [intOf]; omega
        · rw [e1]
          have Z3 := Lib.hid z1
          have hdn' : ¬ (done : Int) < (n : Int) := by omega
          have hdone : (done : Int) ≤ 1000 := by omega
          have A3 := Lib.hid A2.out
          have B93 := Lib.hid B9.out
          have B83 := Lib.hid B8.out
          have FA3 := Lib.hid FD.out
          obtain ⟨w3, H3⟩ : ∃ w3, w2 = w3 := ⟨_, rfl⟩
          subst H3
          clear e1 z1 c2
          go_upto_region 18 with (fail)
          have S3 := Lib.hid (S0.out.fa FA3.out)
          have sl := HSL.out w2 FA3.out
          have c3 := sl.cell encL k hlt 3 (u := .bool l[k].2.2.2) rfl
          rw [HX.out.1] at c3
          rw [← Nat.add_assoc] at c3
          simp only at c3
          clear sl
          cases xf
          · go_wp2_with fail
            go_roundw
            case rel => exact ⟨k + 1, _, firm, last, done, by omega, by omega, by first | rfl | go_num, by first | rfl | go_num, Z3.out, WF2.out.mono (by omega), A3.out, B83.out, B93.out, FA3.out⟩
            case measure => simp [intOf]; omega
          · go_upto_region 20 with (go_at_call 14; refine (fl_at S3.out A3.out WF2.out (by omega) d).mono ?_; rintro e w4 ⟨rfl, a4, f4⟩; have A4 := Lib.hid a4; have F4 := Lib.hid f4; clear a4 f4)
            rcases Z3.out.flush hd2' with ⟨hd3, e4, z4⟩ | ⟨hd3, e4, z4⟩
            · omega
            · have hd4 : ¬ (done : Int) < (n : Int) := by omega
              rw [e4]
              have Z4 := Lib.hid z4
              clear z4 e4
              go_wp2_with fail
              go_roundw
              case rel => exact ⟨k + 1, _, firm, last, done, by omega, by omega, by first | rfl | go_num, by first | rfl | go_num, Z4.out, (WF2.out.flR d).mono (by omega), A4.out, B83.out.fa F4.out, B93.out.fa F4.out, FA3.out.trans F4.out⟩
              case measure => simp [intOf]; omega
      · obtain rfl : k = l.length := by omega
        clear sl
        rename World => wA
        have hrl : (s.row.length : Int) ≤ 200 := by have := WF.out.rw; omega
        have hbA : b + 1 < wA.heap.size := lt_heap H9.out
        have hbw2 : w.heap.size ≤ wA.heap.size := FA.out.size
        go_upto_region 27 with (fail)
        go_loopw [14, 15] (TrRel lo g s b last wA) (fun _ c _ => s.row.length - (intOf c).toNat)
        case atStart => exact ⟨0, [], by omega, rfl, OwnE.nil _ _ _ _, by simp [blk], AR.out, H9.out, Fa.refl _ _⟩
        case round =>
          obtain ⟨m, asp, hm, rfl, ho, hno, ha2, h92, fa2⟩ := hrel
          have HO := Lib.hid ho
          have HNO := Lib.hid hno
          have AR2 := Lib.hid ha2
          have H92 := Lib.hid h92
          have FA2 := Lib.hid fa2
          clear ho hno ha2 h92 fa2
          by_cases hm2 : m < s.row.length
          · go_upto_region 28 with (first
              | (go_at_call 25; refine (Loose_any AR2.out).mono ?_; rintro e w1 ⟨rfl, hw1⟩; obtain rfl := hw1.symm)
              | (at_builtin; refine Kr.wpList_append_e encB tysBo (HO.out.keep0 ((Frm.refl [] _).alloc _)) (Kr.SlE.of_block (T := 4) (n := 1) (l := [true]) encB (heap_alloc_new _ _) rfl (by omega)) (by simp; omega) (by omega) rfl (.tmp 137) (.tmp 138) rfl rfl rfl ?_; intro a' cap' w2 sp' o3 f3 b3))
            have hen : (List.replicate m true).length + [true].length = m + 1 := by simp
            have q1 : Frm [] wr (wr.alloc (.cells (Kr.flt eB [true]).toArray 4)) := (Frm.refl [] wr).alloc _
            have q2 : Frm (blk u14) wr w2 := (q1.mono (L' := blk u14) (by simp)).trans f3 (fun i hi => .inl hi)
            have oo : Other wr (blk u14) := fun j hj => by
              obtain ⟨cs, hc⟩ := own_blk HO.out j hj
              exact ⟨cs, 4, _, hc, by decide, by decide⟩
            have O3 := Lib.hid (show OwnE eB 1 4 w2 (.slice a' (m + 1) cap') (List.replicate (m + 1) true) sp' by rw [List.replicate_succ', ← hen]; exact o3)
            have A3 := Lib.hid (AR2.out.keep q2 oo)
            have H93 := Lib.hid (H92.out.frm q2 (fun hm => (HNO.out _ hm).2.2 rfl))
            have FA3 := Lib.hid (FA2.out.frmN q2 (fun i hi => ⟨(HNO.out i hi).2.1, (HNO.out i hi).1⟩))
            have N3 := Lib.hid (show ∀ j ∈ blk (.slice a' (m + 1) cap'), wA.heap.size ≤ j ∧ lo ≤ j ∧ j ≠ b + 1 from fun j hj => by
              rw [hen] at b3
              rcases b3 j hj with h | h
              · exact HNO.out j h
              · have h' : (wr.alloc (.cells (Kr.flt eB [true]).toArray 4)).heap.size ≤ j := h
                have h1 := q1.size
                have h2 := FA2.out.size
                omega)
            clear o3 f3 b3 q1 q2 oo hen
            go_wp2_with fail
            go_roundw
            case rel => exact ⟨m + 1, sp', by omega, by go_num, O3.out, N3.out, A3.out, H93.out, FA3.out⟩
            case measure => simp [intOf]; omega
          · obtain rfl : m = s.row.length := by omega
            have HE := Lib.hid (HZ.out.end (List.replicate s.row.length true) rfl)
            have S2 := Lib.hid (S.out.fa FA2.out)
            have hst := HZ.out.steps
            obtain ⟨s3, Hs3⟩ : ∃ s3, (crR s (List.replicate s.row.length true) 0).2 = s3 := ⟨_, rfl⟩
            have HE1 := HE.out.1
            have j3 : Jn s3 last last ∧ s3.out = false := by rw [← Hs3]; exact HE.out.2
            have W3 := Lib.hid (show Wf (2 * l.length) s3 by rw [← Hs3]; exact WF.out.crR _ _)
            have up0 : (dCons (nR s3, s3) (dCons (nD s3 0, s3) (nT s3 0, s3))).1.isNone = true := j3.1.up j3.2 (d := 0) (by omega)
            have up1 : (dCons (nR s3, s3) (dCons (nD s3 1, s3) (nT s3 1, s3))).1.isNone = true := j3.1.up j3.2 (d := 1) (by omega)
            have J3 := Lib.hid j3
            have U := Lib.hid (And.intro HE1 (And.intro Hs3 (And.intro up0 up1)))
            clear j3 HE1 Hs3 up0 up1
            have P0 := Lib.hid True.intro
            go_upto_region 33 with (first
              | (go_at_call 25; refine (Loose_any AR2.out).mono ?_; rintro e w1 ⟨rfl, hw1⟩; obtain rfl := hw1.symm)
              | (go_at_call 26; refine (Steps_any AR2.out).mono ?_; rintro e w1 ⟨rfl, hw1⟩; obtain rfl := hw1.symm; rw [hst])
              | (go_at_call 16; refine (cr_at S2.out AR2.out WF.out (by omega) _ (List.replicate s.row.length true) asp 0 (fun w2 f2 => (own_fa HO.out f2 (by decide)).sl)).mono ?_; rintro e w3 ⟨rfl, a3, f3⟩; rw [U.out.1]; have A3 := Lib.hid (U.out.2.1 ▸ a3); have F3 := Lib.hid f3; have S3 := Lib.hid (S2.out.fa f3); clear a3 f3)
              | (go_at_call 27; have hp := P0; refine (up_at S3.out A3.out 0).mono ?_; rintro e w4 ⟨rfl, a4, f4⟩; rw [U.out.2.2.1]; have A4 := Lib.hid a4; have F4 := Lib.hid f4; have S4 := Lib.hid (S3.out.fa f4); have P1 := Lib.hid True.intro; clear P0 hp a4 f4)
              | (go_at_call 27; have hp := P1; refine (up_at S4.out A4.out 1).mono ?_; rintro e w5 ⟨rfl, a5, f5⟩; rw [U.out.2.2.2]; have A5 := Lib.hid a5; have F5 := Lib.hid (F3.out.trans (F4.out.trans f5)); have S5 := Lib.hid (S4.out.fa f5); clear P1 hp a5 f5))
            have K5 := Lib.hid ((H92.out.fa F5.out))
            have FA5 := Lib.hid (FA.out.trans (FA2.out.trans F5.out))
            clear A3 A4 S3 S4
            go_loopw [16] (PkRel lo g s3 b last w) (fun c _ => 16 - (intOf c).toNat)
            case atStart => exact ⟨0, by omega, rfl, A5.out, K5.out, FA5.out⟩
            case round =>
              obtain ⟨i, hi, rfl, ha6, hb6, fa6⟩ := hrel
              have A6 := Lib.hid ha6
              have B6 := Lib.hid hb6
              have F6 := Lib.hid fa6
              have S6 := Lib.hid (S0.out.fa fa6)
              clear ha6 hb6 fa6
              by_cases hi2 : i < 16
              · have hi3 : (i : Int) < 16 := by omega
                go_upto_region 35 with (fail)
                have hq : (i : Int).tdiv 8 = ((i / 8 : Nat) : Int) := by rw [Int.tdiv_eq_ediv_of_nonneg (by omega)]; omega
                have hr : (i : Int).tmod 8 = ((i % 8 : Nat) : Int) := by rw [Int.tmod_eq_emod_of_nonneg (by omega)]; omega
                have hi8 : i / 8 < 2 := by omega
                have hi9 : i % 8 < 8 := by omega
                have hi8' : ((i / 8 : Nat) : Int) < 2 := by omega
                have hi9' : ((i % 8 : Nat) : Int) < 8 := by omega
                have eb := B6.out.at hi8 hi9
                unfold bv at eb
                go_upto_region 34 with (first
                  | (go_at_call 29; refine (of_at (lo := lo) (last (i / 8) (i % 8)) _ rfl).mono ?_; rintro e w1 ⟨v1, rfl, hv, f0⟩; have F1 := Lib.hid f0; have V := Lib.hid hv; clear f0 hv)
                  | (go_at_call 33; refine (pkY_at (S6.out.keep0 F1.out) (A6.out.keep0 F1.out) W3.out (by omega) ((i / 8 : Nat) : Int) ((i % 8 : Nat) : Int) _ (ofL (last (i / 8) (i % 8))) _ V.out (pk_done J3.out.1 J3.out.2 hi8 hi9).1 (pk_done J3.out.1 J3.out.2 hi8 hi9).2).mono ?_; rintro e w7 ⟨rfl, a7, f7⟩; have A7 := Lib.hid a7; have F7 := Lib.hid ((Fa.of0 F1.out lo).trans f7); clear a7 f7))
                go_wp2_with fail
                go_roundw
                case rel => exact ⟨i + 1, by omega, by go_num, A7.out, B6.out.fa F7.out, F6.out.trans F7.out⟩
                case measure => simp [intOf]; omega
              · obtain rfl : i = 16 := by omega
                go_wp2_with fail
                go_ret
                exact ⟨rfl, F6.out⟩
end
end Go.Proofs.YtdebnikolhhmgaaDoor
