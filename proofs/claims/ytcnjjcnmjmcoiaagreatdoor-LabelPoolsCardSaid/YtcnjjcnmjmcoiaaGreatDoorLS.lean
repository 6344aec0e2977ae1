/-
  The walk of LabelKnown. No conditions but those that each theorem names.
-/
import Derived.Test.YtcnjjcnmjmcoiaaGreatDoorLK
import Derived.Test.YtcnjjcnmjmcoiaaGreatDoorLR

namespace Go.Proofs.YtcnjjcnmjmcoiaaGreatDoor
open Go.RowKit
set_option linter.unusedVariables false
set_option linter.unusedSimpArgs false
set_option maxRecDepth 100000

def laL : Lab := { oneL with dev := 3 }
def lbL : Lab := { oneL with cop := 4 }
def lcL : Lab := { oneL with sec := 7 }
theorem laE : mayE laL = 2 := by decide
theorem lbE : mayE lbL = 2 := by decide
theorem lcE : mayE lcL = 2 := by decide
theorem oneE : mayE oneL = 0 := by decide
theorem unp_zeros : unp (List.replicate 256 0) = (zeroLab, 6) := by
  unfold unp
  rw [if_neg (by simp [-List.reduceReplicate]), if_pos rfl]
theorem unp_nil : unp [] = (zeroLab, 4) := by
  unfold unp
  rw [if_pos (by simp)]
theorem unp_ones : unp (List.replicate 256 1) = (zeroLab, 11) := by
  unfold unp
  rw [if_neg (by simp [-List.reduceReplicate]), if_neg (by intro h; have := congrArg List.head? h; simp [List.replicate_succ] at this), if_neg]
  rintro ⟨_, h⟩
  have := packL_mark (parse (List.replicate 256 1))
  rw [h] at this
  exact absurd this (by decide)
def onesK (k : Nat) : List UInt8 := List.replicate k 1 ++ List.replicate (256 - k) 0
theorem onesK_len (k : Nat) (h : k ≤ 256) : (onesK k).length = 256 := by simp [onesK, -List.reduceReplicate]; omega
theorem onesK_set (k : Nat) (h : k < 256) : (onesK k).set k 1 = onesK (k + 1) := by
  unfold onesK
  rw [List.set_append_right _ _ (by simp), List.length_replicate, Nat.sub_self, show 256 - k = (256 - (k + 1)) + 1 by omega, List.replicate_succ, List.set_cons_zero, List.replicate_succ', List.append_assoc]
  rfl
def OnesRel (w0 : World) (g : Nat) (c : Value) (wr : World) : Prop := ∃ k : Nat, k ≤ 256 ∧ c = .int .i64 k ∧ OwnB 5 wr (.slice (some ⟨g, 0, none⟩) 256 256) (onesK k) [] ∧ Frm [g] w0 wr
theorem there_no : thereB oneL oneL.pool 1 6 = false := by decide
theorem field28 (l : Lab) (hl : l.pool.length = 32) (W : World) : (Instr.field 28 (lv l) 0).run Tryz.prog W = .ok (idv l.pool) W := by
  have h := part26 l hl W
  unfold Instr.field lv
  simp only [Sem.run_bind, run_underlying Tryz.underlying28, Result.andThen_ok]
  simp [asAgg, h]
theorem exec_field28 {o : Oper} {a : Act} {l : Lab} (hl : l.pool.length = 32) (x : Operand) (hop : o.op = Op.field 28 x 0) (hx : a.eval x = lv l) (W : World) : (execOp a.eval o).run Tryz.prog W = .ok (.value (idv l.pool)) W := by
  have h := field28 l hl W
  simp [execOp, hop, hx, h, Result.andThen]
set_option maxHeartbeats 8000000 in
theorem known_any (w : World) (hG : Hs.Glob w) : Calls Tryz.prog 5 #[] w (Yes w) := by
  have HG := Lib.hid hG
  have HA := Lib.hid (fun W (f : Frm [] w W) => awake_any W (HG.out.keep f (by simp)))
  have HU := Lib.hid (fun v b sp W (f : Frm [] w W) (hS : SlB W v b sp) (hb : b.length ≤ 1000000) => Unpack_any v b sp W hS hb (HG.out.keep f (by simp)))
  have HON := Lib.hid one_any
  have hol := oneL_len
  have hsl := onePool_set
  clear hG hsl
  go_enter Tryz.func5, Tryz.ntmps5
  go_wp2_with fail
  refine (HON.out _).mono ?_
  rintro r w1 ⟨rfl, f1⟩
  go_wp2_with fail
  refine (HON.out _).mono ?_
  rintro r w2 ⟨rfl, f2⟩
  go_wp2_with fail
  refine (HON.out _).mono ?_
  rintro r w3 ⟨rfl, f3⟩
  have F3 := Lib.hid ((f1.trans f2 (by simp)).trans f3 (by simp))
  clear f1 f2 f3
  go_upto_region 2 with (first
    | ((with_reducible (show wpList _ _ _ (Oper.mk (some 1) (Op.alloc 28) _ _ _ _ :: _) _ _)); refine wpList_val rfl (exec_alloc28 rfl _) ?_; have b1 := LB.new w3 zeroLab_len; have F4 := Lib.hid (F3.out.alloc (.cells (lc zeroLab).toArray 28)); generalize w3.alloc (.cells (lc zeroLab).toArray 28) = V1 at *; generalize hg1 : w3.heap.size = g1 at *; have hz1 := b1.lt)
    | ((with_reducible (show wpList _ _ _ (Oper.mk (some 2) (Op.alloc 28) _ _ _ _ :: _) _ _)); refine wpList_val rfl (exec_alloc28 rfl _) ?_; have b2 := LB.new V1 zeroLab_len; have b12 := b1.keep0 ((Frm.refl [] V1).alloc (.cells (lc zeroLab).toArray 28)); have F5 := Lib.hid (F4.out.alloc (.cells (lc zeroLab).toArray 28)); generalize V1.alloc (.cells (lc zeroLab).toArray 28) = V2 at *; generalize hg2 : V1.heap.size = g2 at *; have hz2 := b2.lt)
    | ((with_reducible (show wpList _ _ _ (Oper.mk (some 3) (Op.alloc 28) _ _ _ _ :: _) _ _)); refine wpList_val rfl (exec_alloc28 rfl _) ?_; have b3 := LB.new V2 zeroLab_len; have b13 := b12.keep0 ((Frm.refl [] V2).alloc (.cells (lc zeroLab).toArray 28)); have b23 := b2.keep0 ((Frm.refl [] V2).alloc (.cells (lc zeroLab).toArray 28)); have F6 := Lib.hid (F5.out.alloc (.cells (lc zeroLab).toArray 28)); generalize V2.alloc (.cells (lc zeroLab).toArray 28) = V3 at *; generalize hg3 : V2.heap.size = g3 at *)
    | ((with_reducible (show wpList _ _ _ (Oper.mk none (Op.store 28 (.tmp 1) _) _ _ _ _ :: _) _ _)); refine wpList_store28 rfl _ _ rfl b13 hol rfl rfl ?_; intro V4 q1 h4)
    | ((with_reducible (show wpList _ _ _ (Oper.mk none (Op.store 28 (.tmp 2) _) _ _ _ _ :: _) _ _)); refine wpList_store28 rfl _ _ rfl (b23.keep h4 (by simp; omega)) hol rfl rfl ?_; intro V5 q2 h5)
    | ((with_reducible (show wpList _ _ _ (Oper.mk none (Op.store 28 (.tmp 3) _) _ _ _ _ :: _) _ _)); refine wpList_store28 rfl _ _ rfl ((b3.keep h4 (by simp; omega)).keep h5 (by simp; omega)) hol rfl rfl ?_; intro V6 q3 h6))
  have n12 : ¬ g1 = g2 := by omega
  have n13 : ¬ g1 = g3 := by omega
  have n23 : ¬ g2 = g3 := by omega
  have n21 : ¬ g2 = g1 := by omega
  have n31 : ¬ g3 = g1 := by omega
  have n32 : ¬ g3 = g2 := by omega
  have Q1 := (q1.keep h5 (by simp; omega)).keep h6 (by simp; omega)
  have Q2 := q2.keep h6 (by simp; omega)
  have ZG := Lib.hid (show w.heap.size ≤ g1 ∧ w.heap.size ≤ g2 ∧ w.heap.size ≤ g3 by have := F3.out.size; omega)
  have FV := Lib.hid (((F6.out.trans h4 (fun i hi => .inr (by have := ZG.out; simp at hi; omega))).trans h5 (fun i hi => .inr (by have := ZG.out; simp at hi; omega))).trans h6 (fun i hi => .inr (by have := ZG.out; simp at hi; omega)))
  have k1 := Q1.gets.c1
  have k2 := Q2.gets.c3
  have k3 := q3.gets.c4
  have z1 := frozen_of_heap Q1.at' 32
  have z2 := frozen_of_heap Q2.at' 34
  have z3 := frozen_of_heap q3.at' 35
  have A1 := Lib.hid (show LB (V6.setCell ⟨g1, 32, none⟩ (.int .i64 3)) g1 laL from Q1.set 0 _ rfl rfl)
  have fA : Frm [g1] V6 (V6.setCell ⟨g1, 32, none⟩ (.int .i64 3)) := (Frm.refl _ _).setCell _ _ (.inl (by simp))
  have A2 := Lib.hid (show LB ((V6.setCell ⟨g1, 32, none⟩ (.int .i64 3)).setCell ⟨g2, 34, none⟩ (.int .i64 4)) g2 lbL from (Q2.keep fA (by simp; omega)).set 2 _ rfl rfl)
  have fB : Frm [g2] (V6.setCell ⟨g1, 32, none⟩ (.int .i64 3)) ((V6.setCell ⟨g1, 32, none⟩ (.int .i64 3)).setCell ⟨g2, 34, none⟩ (.int .i64 4)) := (Frm.refl _ _).setCell _ _ (.inl (by simp))
  have A3 := Lib.hid (show LB (((V6.setCell ⟨g1, 32, none⟩ (.int .i64 3)).setCell ⟨g2, 34, none⟩ (.int .i64 4)).setCell ⟨g3, 35, none⟩ (.int .i64 7)) g3 lcL from ((q3.keep fA (by simp; omega)).keep fB (by simp; omega)).set 3 _ rfl rfl)
  have fC : Frm [g3] ((V6.setCell ⟨g1, 32, none⟩ (.int .i64 3)).setCell ⟨g2, 34, none⟩ (.int .i64 4)) (((V6.setCell ⟨g1, 32, none⟩ (.int .i64 3)).setCell ⟨g2, 34, none⟩ (.int .i64 4)).setCell ⟨g3, 35, none⟩ (.int .i64 7)) := (Frm.refl _ _).setCell _ _ (.inl (by simp))
  have C1 := Lib.hid ((A1.out.keep fB (by simp; omega)).keep fC (by simp; omega))
  have C2 := Lib.hid (A2.out.keep fC (by simp; omega))
  have FC := Lib.hid (((FV.out.trans fA (fun i hi => .inr (by have := ZG.out; simp at hi; omega))).trans fB (fun i hi => .inr (by have := ZG.out; simp at hi; omega))).trans fC (fun i hi => .inr (by have := ZG.out; simp at hi; omega)))
  clear q1 q2 q3 b1 b2 b3 b12 b13 b23 h4 h5 h6 Q1 Q2 fA fB fC F3 F4 F5 F6 FV A1 A2 hz1 hz2 hg1 hg2 hg3
  go_upto_region 5 with (fail)
  clear k1 k2 k3 z1 z2 z3 n12 n13 n23 n21 n31 n32
  generalize ((V6.setCell ⟨g1, 32, none⟩ (.int .i64 3)).setCell ⟨g2, 34, none⟩ (.int .i64 4)).setCell ⟨g3, 35, none⟩ (.int .i64 7) = V at *
  have HK1 := Lib.hid (fun W => Check_any laL oneL_len W)
  have HK2 := Lib.hid (fun W => Check_any lbL oneL_len W)
  have HK3 := Lib.hid (fun W => Check_any lcL oneL_len W)
  have HK4 := Lib.hid (fun W => Check_any oneL oneL_len W)
  rw [laE] at HK1
  rw [lbE] at HK2
  rw [lcE] at HK3
  rw [oneE] at HK4
  have G1 := Lib.hid C1.out.gets.all
  go_upto_region 6 with (first
    | ((with_reducible (show wpList _ _ _ (Oper.mk (some 21) (Op.load 28 _) _ _ _ _ :: _) _ _)); refine wpList_load_g (by rfl) 28 _ rfl _ rfl G1.out ?_)
    | ((with_reducible (show wpList _ _ _ (Oper.mk (some 25) (Op.load 28 _) _ _ _ _ :: _) _ _)); refine wpList_load_g (by rfl) 28 _ rfl _ rfl (C2.out.keep0 p1).gets.all ?_)
    | ((with_reducible (show wpList _ _ _ (Oper.mk (some 30) (Op.load 28 _) _ _ _ _ :: _) _ _)); refine wpList_load_g (by rfl) 28 _ rfl _ rfl (A3.out.keep0 (p1.trans p2 (by simp))).gets.all ?_)
    | (go_at_call 17; refine (HON.out _).mono ?_; rintro r z4 ⟨rfl, p4⟩)
    | (go_at_call 18; first
      | (with_reducible refine Calls.mono (HK1.out _) ?_; rintro r z1 ⟨rfl, p1⟩)
      | (with_reducible refine Calls.mono (HK2.out _) ?_; rintro r z2 ⟨rfl, p2⟩)
      | (with_reducible refine Calls.mono (HK3.out _) ?_; rintro r z3 ⟨rfl, p3⟩)
      | (with_reducible refine Calls.mono (HK4.out _) ?_; rintro r z5 ⟨rfl, p5⟩)))
  have F5 := Lib.hid (((((FC.out.trans p1 (by simp)).trans p2 (by simp)).trans p3 (by simp)).trans p4 (by simp)).trans p5 (by simp))
  clear p1 p2 p3 p4 p5 C1 C2 A3 FC G1 HK1 HK2 HK3 HK4
  have zl := zeroLab_len
  go_upto_region 7 with (first
    | (at_make; refine wpList_make_bytes BT 256 (by omega) rfl (.const (.int .i64 256)) (.const (.int .i64 256)) rfl rfl rfl rfl rfl ?_; intro w6 o6 f6)
    | ((with_reducible (show wpList _ _ _ (Oper.mk _ (Op.alloc 28) _ _ _ _ :: _) _ _)); refine wpList_lay28 rfl rfl rfl _ _ rfl (l := zeroLab) zl rfl rfl ?_)
    | (go_at_call 10; refine (HU.out _ (List.replicate 256 0) [] _ (F5.out.trans f6 (by simp)) o6.sl (by rw [List.length_replicate]; decide)).mono ?_; unfold UnpP; rw [unp_zeros]; rintro r w7 ⟨rfl, f7⟩))
  have F7 := Lib.hid (((F5.out.trans f6 (by simp)).trans f7 (by simp)).alloc (.cells (lc zeroLab).toArray 28))
  clear f6 f7 o6 F5
  generalize w7.alloc (.cells (lc zeroLab).toArray 28) = W7 at *
  go_upto_region 8 with (first
    | ((with_reducible (show wpList _ _ _ (Oper.mk _ (Op.alloc 28) _ _ _ _ :: _) _ _)); refine wpList_lay28 rfl rfl rfl _ _ rfl (l := zeroLab) zl rfl rfl ?_)
    | (go_at_call 10; refine (HU.out _ [] [] _ F7.out (SlB.nil _) (by decide)).mono ?_; unfold UnpP; rw [unp_nil]; rintro r w8 ⟨rfl, f8⟩))
  have F8 := Lib.hid ((F7.out.trans f8 (by simp)).alloc (.cells (lc zeroLab).toArray 28))
  clear f8 F7
  generalize w8.alloc (.cells (lc zeroLab).toArray 28) = W8 at *
  go_upto_region 9 with (at_make; refine wpList_make_bytes BT 256 (by omega) rfl (.const (.int .i64 256)) (.const (.int .i64 256)) rfl rfl rfl rfl rfl ?_; intro w9 o9 f9)
  have O9 := Lib.hid o9
  have F9 := Lib.hid (F8.out.trans f9 (by simp))
  have ZG9 := Lib.hid (show w.heap.size ≤ W8.heap.size from F8.out.size)
  clear o9 f9 F8
  generalize W8.heap.size = g9 at *
  go_wp2_with fail
  go_loopw [10] (OnesRel w9 g9) (fun c _ => 256 - (intOf c).toNat)
  case atStart => exact ⟨0, by omega, rfl, O9.out, Frm.refl _ _⟩
  case round =>
    obtain ⟨k, hk, rfl, o, f⟩ := hrel
    by_cases hlt : k < 256
    · have hlen := onesK_len k hk
      have hc := o.cell k (by omega)
      have hf := o.frozen k
      have hst := o.store k (by omega) 1 (u := .int .u8 1) rfl
      rw [onesK_set k hlt] at hst
      unfold bv at hc
      have HST := Lib.hid hst
      have HF := Lib.hid f
      clear hst f o hlen
      go_wp2_with fail
      go_roundw
      case rel => exact ⟨k + 1, by omega, by go_num, HST.out, HF.out.setCell _ _ (.inl (by simp))⟩
      case measure => simp [intOf]; omega
    · obtain rfl : k = 256 := by omega
      have e1 : onesK 256 = List.replicate 256 1 := by simp [onesK, -List.reduceReplicate]
      rw [e1] at o
      have F10 := Lib.hid (F9.out.trans f (fun i hi => .inr (by have := ZG9.out; simp at hi; omega)))
      have O10 := Lib.hid o
      clear o f O9 F9 e1
      go_upto_region 14 with (first
        | ((with_reducible (show wpList _ _ _ (Oper.mk _ (Op.alloc 28) _ _ _ _ :: _) _ _)); refine wpList_lay28 rfl rfl rfl _ _ rfl (l := zeroLab) zl rfl rfl ?_)
        | (go_at_call 10; refine (HU.out _ (List.replicate 256 1) [] _ F10.out O10.out.sl (by rw [List.length_replicate]; decide)).mono ?_; unfold UnpP; rw [unp_ones]; rintro r w11 ⟨rfl, f11⟩))
      have F11 := Lib.hid ((F10.out.trans f11 (by simp)).alloc (.cells (lc zeroLab).toArray 28))
      clear f11 F10 O10
      generalize w11.alloc (.cells (lc zeroLab).toArray 28) = W11 at *
      have hid0 : ids0.length = 32 := rfl
      go_upto_region 15 with (first
        | ((with_reducible (show wpList _ _ _ (Oper.mk _ (Op.alloc 26) _ _ _ _ :: _) _ _)); refine wpList_lay26 rfl rfl rfl _ _ rfl (s := ids0) hid0 rfl rfl ?_)
        | (go_at_call 13; refine (Pool_none _).mono ?_; rintro r w12 ⟨rfl, f12⟩))
      have F12 := Lib.hid ((F11.out.trans f12 (by simp)).alloc (.cells (bvs ids0).toArray 26))
      clear f12 F11
      generalize w12.alloc (.cells (bvs ids0).toArray 26) = W12 at *
      have HT := Lib.hid (fun W => There_any oneL oneL.pool 1 6 hol hol W)
      rw [there_no] at HT
      go_wp2_with (first
        | (go_at_call 8; refine (HA.out _ F12.out).mono ?_; rintro r w13 ⟨rfl, f13⟩)
        | (go_at_call 15; refine (HT.out _).mono ?_; rintro r w16 ⟨rfl, f16⟩))
      refine (HON.out _).mono ?_
      rintro r w14 ⟨rfl, f14⟩
      go_wp2_with fail
      refine (HON.out _).mono ?_
      rintro r w15 ⟨rfl, f15⟩
      go_wp2_with (first
        | ((with_reducible (show wpList _ _ _ (Oper.mk _ (Op.field 28 _ _) _ _ _ _ :: _) _ _)); refine wpList_val_g (by rfl) (exec_field28 hol (.tmp 89) rfl rfl _) ?_)
        | (go_at_call 15; refine (HT.out _).mono ?_; rintro r w16 ⟨rfl, f16⟩))
      go_ret
      exact ⟨rfl, (((F12.out.trans f13 (by simp)).trans f14 (by simp)).trans f15 (by simp)).trans f16 (by simp)⟩
end Go.Proofs.YtcnjjcnmjmcoiaaGreatDoor
