/-
  Contract of UberKnown. No conditions but those that each theorem names.
-/
import Derived.Test.YtjdejhgfkjeeiaaGreatDoorVB
import Derived.Test.YtjdejhgfkjeeiaaGreatDoorPX
namespace Go.Proofs.YtjdejhgfkjeeiaaGreatDoor
open Go.RowKit
set_option linter.unusedVariables false
set_option linter.unusedSimpArgs false
set_option maxRecDepth 100000

open Pt (Pt may enc readPt readE zeroPt pc pv PtV SlA OwnA pc_size pc_one)
theorem UB.setTxg {w : World} {g : Nat} {v : Value} {u : Ub} (h : UB w g v u) (t : Int) : UB (w.setCell ⟨g, 0, none⟩ (.int .i64 t)) g v { u with txg := t } :=
  ⟨Blk.put1 (pre := []) (o := 0) (post := pc v u.root.b u.root.l u.root.s ++ (.int .i64 u.len :: bvs u.pool)) h.1 rfl, ⟨h.wf.pool, h.wf.sum⟩⟩
theorem UB.setLen {w : World} {g : Nat} {v : Value} {u : Ub} (h : UB w g v u) (t : Int) : UB (w.setCell ⟨g, 36, none⟩ (.int .i64 t)) g v { u with len := t } := by
  have hb := h.1
  rw [uc_split3] at hb
  have h2 := hb.put1 (o := 36) (u' := .int .i64 t) (by simp [pc_length h.wf.sum])
  exact ⟨by rw [uc_split3]; exact h2, ⟨h.wf.pool, h.wf.sum⟩⟩
theorem UB.setRoot {w : World} {g : Nat} {v v' : Value} {u : Ub} {p : Pt} (h : UB w g v u) (hp : p.s.length = 32) : UB (w.setCells g 1 (pc v' p.b p.l p.s)) g v' { u with root := p } := by
  have hb := h.1
  rw [uc_split1] at hb
  have h2 := hb.put (o := 1) (row' := pc v' p.b p.l p.s) rfl (by rw [pc_length hp, pc_length h.wf.sum])
  exact ⟨by rw [uc_split1]; exact h2, ⟨h.wf.pool, hp⟩⟩
def z32 : List UInt8 := List.replicate 32 0
def cP : Pt := ⟨[(1, 5)], 7, 2, z32⟩
theorem z32_length : z32.length = 32 := rfl
def aU : Ub := { oneU with txg := 0 }
def bU : Ub := { oneU with len := 16385 }
def cU : Ub := { oneU with root := cP }
def dU : Ub := { oneU with len := 0 }
theorem aE : mayE aU = 2 := by decide
theorem bE : mayE bU = 2 := by decide
theorem cE : mayE cU = 2 := by decide
theorem oneE : mayE oneU = 0 := by decide
theorem d_same : sameU oneU dU = false := by decide
theorem unp_zeros : unp zeros256 = (zeroU, 6) := by
  unfold unp
  rw [if_neg (by simp [zeros256, -List.reduceReplicate]), if_pos (show zeros256 = List.replicate 256 0 from rfl)]
theorem unp_nil : unp [] = (zeroU, 4) := by
  unfold unp
  rw [if_pos (by simp)]
theorem unp_ones : unp (List.replicate 256 1) = (zeroU, 11) := by
  rw [unp_full (by simp [-List.reduceReplicate]), if_neg (by intro h; have := congrArg List.head? h; simp [List.replicate_succ] at this), if_neg]
  unfold asks
  rw [show (seg (List.replicate 256 1) 0 8 == mark) = false by decide]
  simp
def onesK (k : Nat) : List UInt8 := List.replicate k 1 ++ List.replicate (256 - k) 0
theorem onesK_len (k : Nat) (h : k ≤ 256) : (onesK k).length = 256 := by simp [onesK, -List.reduceReplicate]; omega
theorem onesK_set (k : Nat) (h : k < 256) : (onesK k).set k 1 = onesK (k + 1) := by
  unfold onesK
  rw [List.set_append_right _ _ (by simp), List.length_replicate, Nat.sub_self, show 256 - k = (256 - (k + 1)) + 1 by omega, List.replicate_succ, List.set_cons_zero, List.replicate_succ', List.append_assoc]
  rfl
def ZP (e : Int) (w : World) (r : Ending) (w' : World) : Prop := ∃ v : Value, v.oneCell' = true ∧ r = .returned (.tuple #[uv v zeroU, .int .i64 e]) ∧ Frm [] w w'
theorem zp_of {s0 s1 s2 : Addr} {e : Int} (v : Value) (b sp : List UInt8) (w : World) (hS : SlB w v b sp) (hb : b.length ≤ 1000000) (hs : Sens w s0 s1 s2) (hG : Hs.Glob w) (he : unp b = (zeroU, e)) : Calls Tryz.prog 26 #[v] w (ZP e w) := by
  refine (Unpack_any v b sp w hS hb hs hG).mono fun r w' h => ?_
  unfold UnpP at h
  rw [he] at h
  obtain ⟨a, cap, sp, e, h1, h2, h3⟩ := h
  exact ⟨_, rfl, e, h2⟩
def OnesRel (w0 : World) (g : Nat) (c : Value) (wr : World) : Prop := ∃ k : Nat, k ≤ 256 ∧ c = .int .i64 k ∧ OwnB 5 wr (.slice (some ⟨g, 0, none⟩) 256 256) (onesK k) [] ∧ Frm [g] w0 wr
theorem bldc (a : Option Addr) (n c : Nat) (W : World) : (Instr.build 26 #[(0, .slice a n c), (1, .int .i64 7), (2, .int .i64 2)]).run Tryz.prog W = .ok (pv (.slice a n c) 7 2 z32) W := by kernel_rfl
theorem exec_bldc {o : Oper} {x : Act} (s : Operand) {a : Option Addr} {n c : Nat} (hop : o.op = Op.build 26 #[(0, s), (1, .const (.int .i64 7)), (2, .const (.int .i64 2))]) (hs : x.eval s = .slice a n c) (W : World) : (execOp x.eval o).run Tryz.prog W = .ok (.value (pv (.slice a n c) 7 2 z32)) W := by
  have hb := bldc a n c W
  simp only [execOp, hop, List.map_toArray, List.map_cons, List.map_nil, hs, Sem.run_bind, Sem.run_pure]
  simp only [Act.eval, hb, Result.andThen_ok]
set_option maxHeartbeats 8000000 in
theorem known_any {s0 s1 s2 : Addr} (w : World) (hs : Sens w s0 s1 s2) (hG : Hs.Glob w) : Calls Tryz.prog 5 #[] w (Yes w) := by
  have HG := Lib.hid hG
  have HSE := Lib.hid hs
  have HA := Lib.hid (fun W (f : Frm [] w W) => awake_any W (hs.keep0 f) (HG.out.keep f (by simp)))
  have HU := Lib.hid (fun v b sp W (f : Frm [] w W) (hS : SlB W v b sp) (hb : b.length ≤ 1000000) e (he : unp b = (zeroU, e)) => zp_of v b sp W hS hb (hs.keep0 f) (HG.out.keep f (by simp)) he)
  have HON := Lib.hid One_any
  have hwf := oneU_wf
  clear hG hs
  go_enter Tryz.func5, Tryz.ntmps5
  go_wp2_with fail
  refine (HON.out _).mono ?_
  rintro r w1 ⟨rfl, f1⟩
  go_wp2_with fail
  refine (HON.out _).mono ?_
  rintro r w2 ⟨rfl, f2⟩
  go_wp2_with fail
  refine (HON.out _).mono ?_
  rintro r w3 ⟨rfl, f3⟩
  go_wp2_with fail
  refine (HON.out _).mono ?_
  rintro r w4 ⟨rfl, f4⟩
  have F3 := Lib.hid (((f1.trans f2 (by simp)).trans f3 (by simp)).trans f4 (by simp))
  clear f1 f2 f3 f4
  go_upto_region 2 with (first
    | ((with_reducible (show wpList _ _ _ (Oper.mk (some 1) (Op.alloc 28) _ _ _ _ :: _) _ _)); refine wpList_val rfl (exec_alloc28 rfl _) ?_; have b1 := UB.new w4 nilS zeroU_wf; have F4 := Lib.hid (F3.out.alloc (.cells (uc nilS zeroU).toArray 28)); generalize w4.alloc (.cells (uc nilS zeroU).toArray 28) = V1 at *; generalize hg1 : w4.heap.size = g1 at *; have hz1 := b1.lt)
    | ((with_reducible (show wpList _ _ _ (Oper.mk (some 2) (Op.alloc 28) _ _ _ _ :: _) _ _)); refine wpList_val rfl (exec_alloc28 rfl _) ?_; have b2 := UB.new V1 nilS zeroU_wf; have b12 := b1.keep0 ((Frm.refl [] V1).alloc (.cells (uc nilS zeroU).toArray 28)); have F5 := Lib.hid (F4.out.alloc (.cells (uc nilS zeroU).toArray 28)); generalize V1.alloc (.cells (uc nilS zeroU).toArray 28) = V2 at *; generalize hg2 : V1.heap.size = g2 at *; have hz2 := b2.lt)
    | ((with_reducible (show wpList _ _ _ (Oper.mk (some 3) (Op.alloc 28) _ _ _ _ :: _) _ _)); refine wpList_val rfl (exec_alloc28 rfl _) ?_; have b3 := UB.new V2 nilS zeroU_wf; have b13 := b12.keep0 ((Frm.refl [] V2).alloc (.cells (uc nilS zeroU).toArray 28)); have b23 := b2.keep0 ((Frm.refl [] V2).alloc (.cells (uc nilS zeroU).toArray 28)); have F6 := Lib.hid (F5.out.alloc (.cells (uc nilS zeroU).toArray 28)); generalize V2.alloc (.cells (uc nilS zeroU).toArray 28) = V3 at *; generalize hg3 : V2.heap.size = g3 at *; have hz3 := b3.lt)
    | ((with_reducible (show wpList _ _ _ (Oper.mk (some 4) (Op.alloc 28) _ _ _ _ :: _) _ _)); refine wpList_val rfl (exec_alloc28 rfl _) ?_; have b4 := UB.new V3 nilS zeroU_wf; have b14 := b13.keep0 ((Frm.refl [] V3).alloc (.cells (uc nilS zeroU).toArray 28)); have b24 := b23.keep0 ((Frm.refl [] V3).alloc (.cells (uc nilS zeroU).toArray 28)); have b34 := b3.keep0 ((Frm.refl [] V3).alloc (.cells (uc nilS zeroU).toArray 28)); have F7 := Lib.hid (F6.out.alloc (.cells (uc nilS zeroU).toArray 28)); generalize V3.alloc (.cells (uc nilS zeroU).toArray 28) = V4 at *; generalize hg4 : V3.heap.size = g4 at *)
    | ((with_reducible (show wpList _ _ _ (Oper.mk none (Op.store 28 (.tmp 1) _) _ _ _ _ :: _) _ _)); refine wpList_store28 rfl _ _ rfl rfl b14 hwf rfl rfl ?_; intro V5 q1 h5)
    | ((with_reducible (show wpList _ _ _ (Oper.mk none (Op.store 28 (.tmp 2) _) _ _ _ _ :: _) _ _)); refine wpList_store28 rfl _ _ rfl rfl (b24.keep h5 (by simp; omega)) hwf rfl rfl ?_; intro V6 q2 h6)
    | ((with_reducible (show wpList _ _ _ (Oper.mk none (Op.store 28 (.tmp 3) _) _ _ _ _ :: _) _ _)); refine wpList_store28 rfl _ _ rfl rfl ((b34.keep h5 (by simp; omega)).keep h6 (by simp; omega)) hwf rfl rfl ?_; intro V7 q3 h7)
    | ((with_reducible (show wpList _ _ _ (Oper.mk none (Op.store 28 (.tmp 4) _) _ _ _ _ :: _) _ _)); refine wpList_store28 rfl _ _ rfl rfl (((b4.keep h5 (by simp; omega)).keep h6 (by simp; omega)).keep h7 (by simp; omega)) hwf rfl rfl ?_; intro V8 q4 h8))
  have n12 : g1 < g2 := by omega
  have n23 : g2 < g3 := by omega
  have n34 : g3 < g4 := by omega
  have Q1 := ((q1.keep h6 (by simp; omega)).keep h7 (by simp; omega)).keep h8 (by simp; omega)
  have Q2 := (q2.keep h7 (by simp; omega)).keep h8 (by simp; omega)
  have Q3 := q3.keep h8 (by simp; omega)
  have ZG := Lib.hid (show w.heap.size ≤ g1 by have := F3.out.size; omega)
  have NN := Lib.hid (And.intro n12 (And.intro n23 n34))
  have FV := Lib.hid ((((F7.out.trans h5 (fun i hi => .inr (by have := ZG.out; simp at hi; omega))).trans h6 (fun i hi => .inr (by have := ZG.out; simp at hi; omega))).trans h7 (fun i hi => .inr (by have := ZG.out; simp at hi; omega))).trans h8 (fun i hi => .inr (by have := ZG.out; simp at hi; omega)))
  have K1 := Lib.hid Q1
  have K2 := Lib.hid Q2
  have K3 := Lib.hid Q3
  have K4 := Lib.hid q4
  clear q1 q2 q3 q4 b1 b2 b3 b4 b12 b13 b14 b23 b24 b34 h5 h6 h7 h8 Q1 Q2 Q3 F3 F4 F5 F6 F7 hz1 hz2 hz3 hg1 hg2 hg3 hg4 n12 n23 n34
  have k1 := K1.out.gets.c0
  have z1 := K1.out.1.frozen 0
  go_upto_region 3 with fail
  have A1 := Lib.hid (show UB (V8.setCell ⟨g1, 0, none⟩ (.int .i64 0)) g1 nilS aU from K1.out.setTxg 0)
  have fA : Frm [g1] V8 (V8.setCell ⟨g1, 0, none⟩ (.int .i64 0)) := (Frm.refl _ _).setCell _ _ (.inl (by simp))
  have A2 := Lib.hid (K2.out.keep fA (by have := NN.out; simp; omega))
  have A3 := Lib.hid (K3.out.keep fA (by have := NN.out; simp; omega))
  have A4 := Lib.hid (K4.out.keep fA (by have := NN.out; simp; omega))
  have FA := Lib.hid (FV.out.trans fA (fun i hi => .inr (by have := ZG.out; simp at hi; omega)))
  clear fA K1 K2 K3 K4 FV k1 z1
  generalize V8.setCell ⟨g1, 0, none⟩ (.int .i64 0) = V9 at *
  have k1 := A2.out.gets.c36
  have z1 := A2.out.1.frozen 36
  go_upto_region 4 with fail
  have B2 := Lib.hid (show UB (V9.setCell ⟨g2, 36, none⟩ (.int .i64 16385)) g2 nilS bU from A2.out.setLen 16385)
  have fB : Frm [g2] V9 (V9.setCell ⟨g2, 36, none⟩ (.int .i64 16385)) := (Frm.refl _ _).setCell _ _ (.inl (by simp))
  have B1 := Lib.hid (A1.out.keep fB (by have := NN.out; simp; omega))
  have B3 := Lib.hid (A3.out.keep fB (by have := NN.out; simp; omega))
  have B4 := Lib.hid (A4.out.keep fB (by have := NN.out; simp; omega))
  have FB := Lib.hid (FA.out.trans fB (fun i hi => .inr (by have := ZG.out; have := NN.out; simp at hi; omega)))
  clear fB A1 A2 A3 A4 FA k1 z1
  generalize V9.setCell ⟨g2, 36, none⟩ (.int .i64 16385) = VA at *
  go_upto_region 5 with (first
    | ((with_reducible (show wpList _ _ _ (Oper.mk _ (Op.build 26 _) _ _ _ _ :: _) _ _)); refine wpList_val rfl (exec_bldc (.tmp 21) rfl rfl _) ?_)
    | ((with_reducible (show wpList _ _ _ (Oper.mk _ (Op.store 26 _ _) _ _ _ _ :: _) _ _)); refine wpList_store_mid rfl 26 (.tmp 23) (.tmp 22) rfl g3 1 (pc (.slice (some ⟨VA.heap.size, 0, none⟩) 1 1) 7 2 z32).toArray rfl rfl (by rw [pc_size, z32_length]; exact (B3.out.1.keep0 ((Frm.refl [] VA).alloc _)).there 35 (by rw [uc_length B3.out.wf]; decide)) (by rw [i26, pc_size, z32_length]) (pc_one _ _ _) ?_))
  have SA := (Pt.one_slA (x := (1, 5)) (heap_alloc_new VA (.cells #[.int .i64 1, .int .i64 5] 47)))
  have fN : Frm [] VA (VA.alloc (.cells #[.int .i64 1, .int .i64 5] 47)) := (Frm.refl [] VA).alloc _
  have C1 := B1.out.keep0 fN
  have C2 := B2.out.keep0 fN
  have C3 := B3.out.keep0 fN
  have C4 := B4.out.keep0 fN
  have FC := FB.out.trans fN (by simp)
  have hAn : VA.heap.size ≠ g3 := Nat.ne_of_gt B3.out.lt
  have hAm := Lib.hid (show VA.heap.size ≠ g4 from Nat.ne_of_gt B4.out.lt)
  clear fN B1 B2 B3 B4 FB
  generalize VA.alloc (.cells #[.int .i64 1, .int .i64 5] 47) = VB at *
  generalize VA.heap.size = gA at *
  have fS : Frm [g3] VB (VB.setCells g3 1 (pc (.slice (some ⟨gA, 0, none⟩) 1 1) 7 2 z32)) := Frm.setCells _ _ _ (Frm.refl _ _) (.inl (by simp))
  have D3 := Lib.hid (show UB (VB.setCells g3 1 (pc (.slice (some ⟨gA, 0, none⟩) 1 1) 7 2 z32)) g3 (.slice (some ⟨gA, 0, none⟩) 1 1) cU from C3.setRoot (p := cP) rfl)
  have SD := Lib.hid (SA.keep fS (by simp [blk, hAn]))
  have D1 := Lib.hid (C1.keep fS (by have := NN.out; simp; omega))
  have D2 := Lib.hid (C2.keep fS (by have := NN.out; simp; omega))
  have D4 := Lib.hid (C4.keep fS (by have := NN.out; simp; omega))
  have FD := Lib.hid (FC.trans fS (fun i hi => .inr (by have := ZG.out; have := NN.out; simp at hi; omega)))
  clear fS C1 C2 C3 C4 FC SA hAn
  generalize VB.setCells g3 1 (pc (.slice (some ⟨gA, 0, none⟩) 1 1) 7 2 z32) = VD at *
  have k1 := D4.out.gets.c36
  have z1 := D4.out.1.frozen 36
  go_upto_region 6 with fail
  have fE : Frm [g4] VD (VD.setCell ⟨g4, 36, none⟩ (.int .i64 0)) := (Frm.refl _ _).setCell _ _ (.inl (by simp))
  have E4 := Lib.hid (show UB (VD.setCell ⟨g4, 36, none⟩ (.int .i64 0)) g4 nilS dU from D4.out.setLen 0)
  have E1 := Lib.hid (D1.out.keep fE (by have := NN.out; simp; omega))
  have E2 := Lib.hid (D2.out.keep fE (by have := NN.out; simp; omega))
  have E3 := Lib.hid (D3.out.keep fE (by have := NN.out; simp; omega))
  have SE' := Lib.hid (SD.out.keep fE (by have := hAm.out; simp [blk]; exact this))
  have FE := Lib.hid (FD.out.trans fE (fun i hi => .inr (by have := ZG.out; have := NN.out; simp at hi; omega)))
  clear fE k1 z1 D1 D2 D3 D4 SD FD hAm
  generalize VD.setCell ⟨g4, 36, none⟩ (.int .i64 0) = VE at *
  have HK1 := Lib.hid (fun W => Check_any (uv nilS aU) aU W ⟨none, 0, [], rfl, Pt.SlA.nil W, ⟨rfl, rfl⟩⟩ (by decide))
  have HK2 := Lib.hid (fun W => Check_any (uv nilS bU) bU W ⟨none, 0, [], rfl, Pt.SlA.nil W, ⟨rfl, rfl⟩⟩ (by decide))
  have HK3 := Lib.hid (fun W (f : Frm [] VE W) => Check_any (uv (.slice (some ⟨gA, 0, none⟩) 1 1) cU) cU W ⟨_, 1, [], rfl, SE'.out.keep f (by simp), ⟨rfl, rfl⟩⟩ (by decide))
  have HK4 := Lib.hid (fun W => Check_any (uv nilS oneU) oneU W (oneU_v W) (by decide))
  rw [aE] at HK1
  rw [bE] at HK2
  rw [cE] at HK3
  rw [oneE] at HK4
  have G1 := Lib.hid E1.out.gets.all
  go_upto_region 7 with (first
    | ((with_reducible (show wpList _ _ _ (Oper.mk (some 25) (Op.load 28 _) _ _ _ _ :: _) _ _)); refine wpList_load_g (by rfl) 28 _ rfl _ rfl G1.out ?_)
    | ((with_reducible (show wpList _ _ _ (Oper.mk (some 29) (Op.load 28 _) _ _ _ _ :: _) _ _)); refine wpList_load_g (by rfl) 28 _ rfl _ rfl (E2.out.keep0 p1).gets.all ?_)
    | ((with_reducible (show wpList _ _ _ (Oper.mk (some 34) (Op.load 28 _) _ _ _ _ :: _) _ _)); refine wpList_load_g (by rfl) 28 _ rfl _ rfl (E3.out.keep0 (p1.trans p2 (by simp))).gets.all ?_)
    | (go_at_call 30; refine (HON.out _).mono ?_; rintro r z4 ⟨rfl, p4⟩)
    | (go_at_call 19; first
      | (with_reducible refine Calls.mono (HK1.out _) ?_; rintro r z1 ⟨rfl, p1⟩)
      | (with_reducible refine Calls.mono (HK2.out _) ?_; rintro r z2 ⟨rfl, p2⟩)
      | (with_reducible refine Calls.mono (HK3.out _ (p1.trans p2 (by simp))) ?_; rintro r z3 ⟨rfl, p3⟩)
      | (with_reducible refine Calls.mono (HK4.out _) ?_; rintro r z5 ⟨rfl, p5⟩)))
  have F5 := Lib.hid (((((FE.out.trans p1 (by simp)).trans p2 (by simp)).trans p3 (by simp)).trans p4 (by simp)).trans p5 (by simp))
  have K5 := Lib.hid (((((E4.out.keep0 p1).keep0 p2).keep0 p3).keep0 p4).keep0 p5)
  clear p1 p2 p3 p4 p5 E1 E2 E3 E4 SE' FE G1 HK1 HK2 HK3 HK4
  have zl := zeroU_wf
  go_upto_region 8 with (first
    | (at_make; refine wpList_make_bytes BT 256 (by omega) rfl (.const (.int .i64 256)) (.const (.int .i64 256)) rfl rfl rfl rfl rfl ?_; intro w6 o6 f6)
    | ((with_reducible (show wpList _ _ _ (Oper.mk _ (Op.alloc 28) _ _ _ _ :: _) _ _)); refine wpList_lay28 rfl rfl rfl _ _ rfl hv7 (u := zeroU) zl rfl rfl ?_)
    | (go_at_call 26; refine (HU.out _ (List.replicate 256 0) [] _ (F5.out.trans f6 (by simp)) o6.sl (by rw [List.length_replicate]; decide) 6 unp_zeros).mono ?_; rintro r w7 ⟨v7, hv7, rfl, f7⟩))
  have f7' : Frm [] w7 (w7.alloc (.cells (uc v7 zeroU).toArray 28)) := (Frm.refl [] w7).alloc _
  have F7 := Lib.hid (((F5.out.trans f6 (by simp)).trans f7 (by simp)).trans f7' (by simp))
  have K7 := Lib.hid (((K5.out.keep0 f6).keep0 f7).keep0 f7')
  clear f6 f7 o6 F5 K5 f7' hv7
  generalize w7.alloc (.cells (uc v7 zeroU).toArray 28) = W7 at *
  go_upto_region 9 with (first
    | ((with_reducible (show wpList _ _ _ (Oper.mk _ (Op.alloc 28) _ _ _ _ :: _) _ _)); refine wpList_lay28 rfl rfl rfl _ _ rfl hv8 (u := zeroU) zl rfl rfl ?_)
    | (go_at_call 26; refine (HU.out _ [] [] _ F7.out (SlB.nil _) (by decide) 4 unp_nil).mono ?_; rintro r w8 ⟨v8, hv8, rfl, f8⟩))
  have f8' : Frm [] w8 (w8.alloc (.cells (uc v8 zeroU).toArray 28)) := (Frm.refl [] w8).alloc _
  have F8 := Lib.hid ((F7.out.trans f8 (by simp)).trans f8' (by simp))
  have K8 := Lib.hid ((K7.out.keep0 f8).keep0 f8')
  clear f8 F7 K7 f8' hv8
  generalize w8.alloc (.cells (uc v8 zeroU).toArray 28) = W8 at *
  go_upto_region 10 with (at_make; refine wpList_make_bytes BT 256 (by omega) rfl (.const (.int .i64 256)) (.const (.int .i64 256)) rfl rfl rfl rfl rfl ?_; intro w9 o9 f9)
  have O9 := Lib.hid o9
  have F9 := Lib.hid (F8.out.trans f9 (by simp))
  have K9 := Lib.hid (K8.out.keep0 f9)
  have ZG9 := Lib.hid (show w.heap.size ≤ W8.heap.size ∧ g4 < W8.heap.size from ⟨F8.out.size, K8.out.lt⟩)
  clear o9 f9 F8 K8
  generalize W8.heap.size = g9 at *
  go_wp2_with fail
  go_loopw [11] (OnesRel w9 g9) (fun c _ => 256 - (intOf c).toNat)
  case atStart => exact ⟨0, by omega, rfl, O9.out, Frm.refl _ _⟩
  case round =>
    obtain ⟨k, hk, rfl, o, f⟩ := hrel
    by_cases hlt : k < 256
    · have hlen := onesK_len k hk
      have hc := o.cell k (by omega)
      have hf := o.frozen k
      have hst := o.store k (by omega) 1 (u := .int .u8 1) rfl
      rw [onesK_set k hlt] at hst
      unfold bv at hc
      have HST := Lib.hid hst
      have HF := Lib.hid f
      clear hst f o hlen
      go_wp2_with fail
      go_roundw
      case rel => exact ⟨k + 1, by omega, by go_num, HST.out, HF.out.setCell _ _ (.inl (by simp))⟩
      case measure => simp [intOf]; omega
    · obtain rfl : k = 256 := by omega
      have e1 : onesK 256 = List.replicate 256 1 := by simp [onesK, -List.reduceReplicate]
      rw [e1] at o
      have F10 := Lib.hid (F9.out.trans f (fun i hi => .inr (by have := ZG9.out; simp at hi; omega)))
      have K10 := Lib.hid (K9.out.keep f (by have := ZG9.out; simp; omega))
      have O10 := Lib.hid o
      clear o f O9 F9 K9 e1
      go_upto_region 15 with (first
        | ((with_reducible (show wpList _ _ _ (Oper.mk _ (Op.alloc 28) _ _ _ _ :: _) _ _)); refine wpList_lay28 rfl rfl rfl _ _ rfl hvb (u := zeroU) zl rfl rfl ?_)
        | (go_at_call 26; refine (HU.out _ (List.replicate 256 1) [] _ F10.out O10.out.sl (by rw [List.length_replicate]; decide) 11 unp_ones).mono ?_; rintro r w11 ⟨vb, hvb, rfl, f11⟩))
      have f11' : Frm [] w11 (w11.alloc (.cells (uc vb zeroU).toArray 28)) := (Frm.refl [] w11).alloc _
      have F11 := Lib.hid ((F10.out.trans f11 (by simp)).trans f11' (by simp))
      have K11 := Lib.hid ((K10.out.keep0 f11).keep0 f11')
      clear f11 F10 O10 K10 f11' hvb
      generalize w11.alloc (.cells (uc vb zeroU).toArray 28) = W11 at *
      have HSA := Lib.hid (fun W => USame_any (uv nilS oneU) (uv nilS dU) oneU dU W (oneU_v W) ⟨none, 0, [], rfl, Pt.SlA.nil W, ⟨rfl, rfl⟩⟩ (by decide))
      rw [d_same] at HSA
      clear hwf zl HU hk hlt
      refine wp_region_held_drew (S := fun z => Frm [] W11 z) (by kernel_rfl) ((Frm.refl [] W11).drew) (fun hHeld => ?_)
      refine wpAnyH_ready (rs := [0]) (by kernel_rfl) (by simp) ?_
      refine AllReadyH.cons (o := { dst := some 67, op := Op.call { callee := Callee.value (Operand.func 14), args := #[], argTypes := #[] }, type := 4, pos := "outright.go:38", after := #[], guard := none }) rfl (fun K hK => ?_) AllReadyH.nil
      go_simp
      refine (HA.out _ (F11.out.trans hHeld (by simp))).mono ?_
      rintro r wn ⟨rfl, fn⟩
      refine hK.out _ _ ?_ (fun hNext => ?_)
      · exact hHeld.trans fn (by simp)
      clear hK K hHeld
      have hHeld := hNext
      clear hNext
      try simp only [Act.put, List.setIfInBounds_toArray, List.set_cons_zero, List.set_cons_succ]
      refine wpAnyH_take (i := 1) (oi := { dst := some 68, op := Op.move (Operand.tmp 67), type := 4, pos := "outright.go:38", after := #[{ on := 0, ground := Ground.data }, { on := 0, ground := Ground.chain }], guard := none }) (v := ?_) rfl (by kernel_rfl) (by kernel_rfl) (by kernel_rfl) (fun _ _ _ h => h) (Or.inl ⟨by rfl, ?_⟩) hHeld ?_
      rotate_left
      focus (intro z hSw; clear hSw; go_simp; try with_reducible rfl)
      try simp only [Act.put, List.setIfInBounds_toArray, List.set_cons_zero, List.set_cons_succ]
      refine wpAnyH_take (i := 2) (oi := { dst := some 69, op := Op.move (Operand.tmp 5), type := 4, pos := "outright.go:38", after := #[{ on := 1, ground := Ground.guard }], guard := some (1, true) }) (v := ?_) rfl (by kernel_rfl) (by kernel_rfl) (by kernel_rfl) (fun _ _ _ h => h) (Or.inl ⟨by rfl, ?_⟩) hHeld ?_
      rotate_left
      focus (intro z hSw; clear hSw; go_simp; try with_reducible rfl)
      try simp only [Act.put, List.setIfInBounds_toArray, List.set_cons_zero, List.set_cons_succ]
      refine wpAnyH_take (i := 3) (oi := { dst := some 70, op := Op.pick (Operand.tmp 68) (Operand.tmp 69) (Operand.const (Value.bool false)), type := 4, pos := "outright.go:38", after := #[{ on := 1, ground := Ground.data }, { on := 2, ground := Ground.data }], guard := none }) (v := ?_) rfl (by kernel_rfl) (by kernel_rfl) (by kernel_rfl) (fun _ _ _ h => h) (Or.inl ⟨by rfl, ?_⟩) hHeld ?_
      rotate_left
      focus (intro z hSw; clear hSw; go_simp; try with_reducible rfl)
      try simp only [Act.put, List.setIfInBounds_toArray, List.set_cons_zero, List.set_cons_succ]
      refine wpAnyH_take (i := 4) (oi := { dst := some 71, op := Op.move (Operand.tmp 70), type := 4, pos := "outright.go:38", after := #[{ on := 3, ground := Ground.data }, { on := 1, ground := Ground.chain }], guard := none }) (v := ?_) rfl (by kernel_rfl) (by kernel_rfl) (by kernel_rfl) (fun _ _ _ h => h) (Or.inl ⟨by rfl, ?_⟩) hHeld ?_
      rotate_left
      focus (intro z hSw; clear hSw; go_simp; try with_reducible rfl)
      try simp only [Act.put, List.setIfInBounds_toArray, List.set_cons_zero, List.set_cons_succ]
      refine wpAnyH_take (i := 5) (oi := { dst := some 72, op := Op.move (Operand.tmp 7), type := 33, pos := "outright.go:38", after := #[{ on := 4, ground := Ground.guard }], guard := some (4, true) }) (v := ?_) rfl (by kernel_rfl) (by kernel_rfl) (by kernel_rfl) (fun _ _ _ h => h) (Or.inl ⟨by rfl, ?_⟩) hHeld ?_
      rotate_left
      focus (intro z hSw; clear hSw; go_simp; try with_reducible rfl)
      try simp only [Act.put, List.setIfInBounds_toArray, List.set_cons_zero, List.set_cons_succ]
      refine wpAnyH_take (i := 6) (oi := { dst := some 73, op := Op.binOp BinOp.eql 33 (Operand.tmp 72) (Operand.const (Value.int IntKind.i64 6)) 33, type := 4, pos := "outright.go:38", after := #[{ on := 5, ground := Ground.data }, { on := 4, ground := Ground.guard }], guard := some (4, true) }) (v := ?_) rfl (by kernel_rfl) (by kernel_rfl) (by kernel_rfl) (fun _ _ _ h => h) (Or.inl ⟨by rfl, ?_⟩) hHeld ?_
      rotate_left
      focus (intro z hSw; clear hSw; go_simp; try with_reducible rfl)
      try simp only [Act.put, List.setIfInBounds_toArray, List.set_cons_zero, List.set_cons_succ]
      refine wpAnyH_take (i := 7) (oi := { dst := some 74, op := Op.pick (Operand.tmp 71) (Operand.tmp 73) (Operand.const (Value.bool false)), type := 4, pos := "outright.go:38", after := #[{ on := 4, ground := Ground.data }, { on := 6, ground := Ground.data }], guard := none }) (v := ?_) rfl (by kernel_rfl) (by kernel_rfl) (by kernel_rfl) (fun _ _ _ h => h) (Or.inl ⟨by rfl, ?_⟩) hHeld ?_
      rotate_left
      focus (intro z hSw; clear hSw; go_simp; try with_reducible rfl)
      try simp only [Act.put, List.setIfInBounds_toArray, List.set_cons_zero, List.set_cons_succ]
      refine wpAnyH_take (i := 8) (oi := { dst := some 75, op := Op.move (Operand.tmp 74), type := 4, pos := "outright.go:38", after := #[{ on := 7, ground := Ground.data }, { on := 4, ground := Ground.chain }], guard := none }) (v := ?_) rfl (by kernel_rfl) (by kernel_rfl) (by kernel_rfl) (fun _ _ _ h => h) (Or.inl ⟨by rfl, ?_⟩) hHeld ?_
      rotate_left
      focus (intro z hSw; clear hSw; go_simp; try with_reducible rfl)
      try simp only [Act.put, List.setIfInBounds_toArray, List.set_cons_zero, List.set_cons_succ]
      refine wpAnyH_take (i := 9) (oi := { dst := some 76, op := Op.move (Operand.tmp 9), type := 33, pos := "outright.go:38", after := #[{ on := 8, ground := Ground.guard }], guard := some (8, true) }) (v := ?_) rfl (by kernel_rfl) (by kernel_rfl) (by kernel_rfl) (fun _ _ _ h => h) (Or.inl ⟨by rfl, ?_⟩) hHeld ?_
      rotate_left
      focus (intro z hSw; clear hSw; go_simp; try with_reducible rfl)
      try simp only [Act.put, List.setIfInBounds_toArray, List.set_cons_zero, List.set_cons_succ]
      refine wpAnyH_take (i := 10) (oi := { dst := some 77, op := Op.binOp BinOp.eql 33 (Operand.tmp 76) (Operand.const (Value.int IntKind.i64 4)) 33, type := 4, pos := "outright.go:38", after := #[{ on := 9, ground := Ground.data }, { on := 8, ground := Ground.guard }], guard := some (8, true) }) (v := ?_) rfl (by kernel_rfl) (by kernel_rfl) (by kernel_rfl) (fun _ _ _ h => h) (Or.inl ⟨by rfl, ?_⟩) hHeld ?_
      rotate_left
      focus (intro z hSw; clear hSw; go_simp; try with_reducible rfl)
      try simp only [Act.put, List.setIfInBounds_toArray, List.set_cons_zero, List.set_cons_succ]
      refine wpAnyH_take (i := 11) (oi := { dst := some 78, op := Op.pick (Operand.tmp 75) (Operand.tmp 77) (Operand.const (Value.bool false)), type := 4, pos := "outright.go:38", after := #[{ on := 8, ground := Ground.data }, { on := 10, ground := Ground.data }], guard := none }) (v := ?_) rfl (by kernel_rfl) (by kernel_rfl) (by kernel_rfl) (fun _ _ _ h => h) (Or.inl ⟨by rfl, ?_⟩) hHeld ?_
      rotate_left
      focus (intro z hSw; clear hSw; go_simp; try with_reducible rfl)
      try simp only [Act.put, List.setIfInBounds_toArray, List.set_cons_zero, List.set_cons_succ]
      refine wpAnyH_take (i := 12) (oi := { dst := some 79, op := Op.move (Operand.tmp 78), type := 4, pos := "outright.go:38", after := #[{ on := 11, ground := Ground.data }, { on := 8, ground := Ground.chain }], guard := none }) (v := ?_) rfl (by kernel_rfl) (by kernel_rfl) (by kernel_rfl) (fun _ _ _ h => h) (Or.inl ⟨by rfl, ?_⟩) hHeld ?_
      rotate_left
      focus (intro z hSw; clear hSw; go_simp; try with_reducible rfl)
      try simp only [Act.put, List.setIfInBounds_toArray, List.set_cons_zero, List.set_cons_succ]
      refine wpAnyH_take (i := 13) (oi := { dst := some 80, op := Op.move (Operand.tmp 13), type := 33, pos := "outright.go:38", after := #[{ on := 12, ground := Ground.guard }], guard := some (12, true) }) (v := ?_) rfl (by kernel_rfl) (by kernel_rfl) (by kernel_rfl) (fun _ _ _ h => h) (Or.inl ⟨by rfl, ?_⟩) hHeld ?_
      rotate_left
      focus (intro z hSw; clear hSw; go_simp; try with_reducible rfl)
      try simp only [Act.put, List.setIfInBounds_toArray, List.set_cons_zero, List.set_cons_succ]
      refine wpAnyH_take (i := 14) (oi := { dst := some 81, op := Op.binOp BinOp.eql 33 (Operand.tmp 80) (Operand.const (Value.int IntKind.i64 11)) 33, type := 4, pos := "outright.go:38", after := #[{ on := 13, ground := Ground.data }, { on := 12, ground := Ground.guard }], guard := some (12, true) }) (v := ?_) rfl (by kernel_rfl) (by kernel_rfl) (by kernel_rfl) (fun _ _ _ h => h) (Or.inl ⟨by rfl, ?_⟩) hHeld ?_
      rotate_left
      focus (intro z hSw; clear hSw; go_simp; try with_reducible rfl)
      try simp only [Act.put, List.setIfInBounds_toArray, List.set_cons_zero, List.set_cons_succ]
      refine wpAnyH_take (i := 15) (oi := { dst := some 82, op := Op.pick (Operand.tmp 79) (Operand.tmp 81) (Operand.const (Value.bool false)), type := 4, pos := "outright.go:38", after := #[{ on := 12, ground := Ground.data }, { on := 14, ground := Ground.data }], guard := none }) (v := ?_) rfl (by kernel_rfl) (by kernel_rfl) (by kernel_rfl) (fun _ _ _ h => h) (Or.inl ⟨by rfl, ?_⟩) hHeld ?_
      rotate_left
      focus (intro z hSw; clear hSw; go_simp; try with_reducible rfl)
      try simp only [Act.put, List.setIfInBounds_toArray, List.set_cons_zero, List.set_cons_succ]
      refine wpAnyH_take (i := 16) (oi := { dst := some 83, op := Op.move (Operand.tmp 82), type := 4, pos := "outright.go:38", after := #[{ on := 15, ground := Ground.data }, { on := 12, ground := Ground.chain }], guard := none }) (v := ?_) rfl (by kernel_rfl) (by kernel_rfl) (by kernel_rfl) (fun _ _ _ h => h) (Or.inl ⟨by rfl, ?_⟩) hHeld ?_
      rotate_left
      focus (intro z hSw; clear hSw; go_simp; try with_reducible rfl)
      try simp only [Act.put, List.setIfInBounds_toArray, List.set_cons_zero, List.set_cons_succ]
      refine wpAnyH_take (i := 18) (oi := { dst := some 85, op := Op.load 28 (Operand.tmp 4), type := 28, pos := "outright.go:38", after := #[{ on := 16, ground := Ground.guard }], guard := some (16, true) }) rfl (by kernel_rfl) (by kernel_rfl) (by kernel_rfl) (fun _ _ _ h => h) (yieldsIf_ld (by rfl) 28 _ rfl _ rfl (fun z hSw => (K11.out.keep0 hSw).gets.all)) hHeld ?_
      try simp only [Act.put, List.setIfInBounds_toArray, List.set_cons_zero, List.set_cons_succ]
      refine wpAnyH_ready (rs := [17]) (by kernel_rfl) (by simp) ?_
      refine AllReadyH.cons (o := { dst := some 84, op := Op.call { callee := Callee.value (Operand.func 30), args := #[], argTypes := #[] }, type := 28, pos := "outright.go:38", after := #[{ on := 16, ground := Ground.chain }, { on := 16, ground := Ground.guard }], guard := some (16, true) }) rfl (fun K hK => ?_) AllReadyH.nil
      go_simp
      refine (HON.out _).mono ?_
      rintro r wn ⟨rfl, fn⟩
      refine hK.out _ _ ?_ (fun hNext => ?_)
      · exact hHeld.trans fn (by simp)
      clear hK K hHeld
      have hHeld := hNext
      clear hNext
      try simp only [Act.put, List.setIfInBounds_toArray, List.set_cons_zero, List.set_cons_succ]
      refine wpAnyH_ready (rs := [19]) (by kernel_rfl) (by simp) ?_
      refine AllReadyH.cons (o := { dst := some 86, op := Op.call { callee := Callee.value (Operand.func 21), args := #[Operand.tmp 84, Operand.tmp 85], argTypes := #[28, 28] }, type := 4, pos := "outright.go:38", after := #[{ on := 17, ground := Ground.data }, { on := 18, ground := Ground.data }, { on := 17, ground := Ground.chain }, { on := 16, ground := Ground.guard }], guard := some (16, true) }) rfl (fun K hK => ?_) AllReadyH.nil
      go_simp
      refine (HSA.out _).mono ?_
      rintro r wn ⟨rfl, fn⟩
      refine hK.out _ _ ?_ (fun hNext => ?_)
      · exact hHeld.trans fn (by simp)
      clear hK K hHeld
      have hHeld := hNext
      clear hNext
      try simp only [Act.put, List.setIfInBounds_toArray, List.set_cons_zero, List.set_cons_succ]
      refine wpAnyH_take (i := 20) (oi := { dst := some 87, op := Op.unOp UnOp.not 4 (Operand.tmp 86), type := 4, pos := "outright.go:38", after := #[{ on := 19, ground := Ground.data }, { on := 16, ground := Ground.guard }], guard := some (16, true) }) (v := ?_) rfl (by kernel_rfl) (by kernel_rfl) (by kernel_rfl) (fun _ _ _ h => h) (Or.inl ⟨by rfl, ?_⟩) hHeld ?_
      rotate_left
      focus (intro z hSw; clear hSw; go_simp; try with_reducible rfl)
      try simp only [Act.put, List.setIfInBounds_toArray, List.set_cons_zero, List.set_cons_succ]
      refine wpAnyH_take (i := 21) (oi := { dst := some 88, op := Op.pick (Operand.tmp 83) (Operand.tmp 87) (Operand.const (Value.bool false)), type := 4, pos := "outright.go:38", after := #[{ on := 16, ground := Ground.data }, { on := 20, ground := Ground.data }], guard := none }) (v := ?_) rfl (by kernel_rfl) (by kernel_rfl) (by kernel_rfl) (fun _ _ _ h => h) (Or.inl ⟨by rfl, ?_⟩) hHeld ?_
      rotate_left
      focus (intro z hSw; clear hSw; go_simp; try with_reducible rfl)
      try simp only [Act.put, List.setIfInBounds_toArray, List.set_cons_zero, List.set_cons_succ]
      refine wpAnyH_take (i := 22) (oi := { dst := some 0, op := Op.assign (Operand.tmp 88), type := 4, pos := "outright.go:38", after := #[{ on := 21, ground := Ground.data }, { on := 19, ground := Ground.chain }, { on := 0, ground := Ground.phase }, { on := 1, ground := Ground.phase }, { on := 2, ground := Ground.phase }, { on := 3, ground := Ground.phase }, { on := 4, ground := Ground.phase }, { on := 5, ground := Ground.phase }, { on := 6, ground := Ground.phase }, { on := 7, ground := Ground.phase }, { on := 8, ground := Ground.phase }, { on := 9, ground := Ground.phase }, { on := 10, ground := Ground.phase }, { on := 11, ground := Ground.phase }, { on := 12, ground := Ground.phase }, { on := 13, ground := Ground.phase }, { on := 14, ground := Ground.phase }, { on := 15, ground := Ground.phase }, { on := 16, ground := Ground.phase }, { on := 17, ground := Ground.phase }, { on := 18, ground := Ground.phase }, { on := 19, ground := Ground.phase }, { on := 20, ground := Ground.phase }, { on := 21, ground := Ground.phase }], guard := none }) (v := ?_) rfl (by kernel_rfl) (by kernel_rfl) (by kernel_rfl) (fun _ _ _ h => h) (Or.inl ⟨by rfl, ?_⟩) hHeld ?_
      rotate_left
      focus (intro z hSw; clear hSw; go_simp; try with_reducible rfl)
      try simp only [Act.put, List.setIfInBounds_toArray, List.set_cons_zero, List.set_cons_succ]
      refine wpAnyH_done (by kernel_rfl) ?_ _
      go_wp2_with fail
      go_ret
      exact ⟨rfl, F11.out.trans hHeld (by simp)⟩
end Go.Proofs.YtjdejhgfkjeeiaaGreatDoor
