/-
  Contracts of awake, of NodeKnown, of BigNode and SameNode, of Pick, and the walk of NodeSets. No conditions but those that each theorem names.
-/
import Derived.Test.YtjjcjocomanohaaNL
namespace Go.Proofs.Ytjjcjocomanohaa
open Go.RowKit
set_option linter.unusedVariables false
set_option linter.unusedSimpArgs false
set_option maxRecDepth 100000

def oneNd : Nd := ⟨1, List.replicate 4 zeroPt⟩
theorem one_node : nodeB oneNd = true := by decide
theorem one_chk : nchk oneNd = 0 := by decide
theorem one_empty : emptyB oneNd = true := by decide
theorem zero_nchk : nchk zeroNd = 2 := by decide
theorem one_pack : packB oneNd = (List.replicate 256 0).set 0 1 := by decide
theorem un_nil : unE [] = 4 := by decide
theorem unNd_nil : unNd [] = zeroNd := by rfl
theorem oneNd_v (W : World) : NdV W (.agg (nc 1 zAs).toArray) oneNd := ⟨zAs, rfl, ptsv_zero W⟩
theorem zero_ads : ∀ p ∈ List.replicate 4 zeroPt, p.ads.length ≤ 1000000 := fun p hp => by rw [List.eq_of_mem_replicate hp]; simp [zeroPt]
set_option maxHeartbeats 8000000 in
theorem nawake_any (w : World) : Calls Try.prog 35 #[] w (Yes w) := by
  have hP := Lib.hid (fun W => Pack_any _ oneNd W (oneNd_v W) zero_ads)
  unfold PackP at hP
  rw [one_chk, one_pack] at hP
  have h256 : ((List.replicate 256 (0 : UInt8)).set 0 1).length = 256 := by simp
  rw [h256] at hP
  generalize hz : (List.replicate 256 (0 : UInt8)).set 0 1 = z1 at hP h256
  have HEQ := Lib.hid (show (z1 == (List.replicate 256 0).set 0 1) = true by rw [hz]; simp)
  clear hz h256
  have hU := Lib.hid (fun W => Unpack_any (.slice none 0 0) [] [] W (SlB.nil W) (by simp))
  unfold UnP at hU
  rw [un_nil, unNd_nil] at hU
  have hE := Lib.hid (fun W => nodeEmpty_any _ oneNd W (oneNd_v W) zero_ads)
  rw [one_empty] at hE
  have hC := Lib.hid (fun W => nodeCheck_any _ zeroNd W (zeroNd_v W) zero_ads)
  rw [zero_nchk] at hC
  go_enter Try.func35, Try.ntmps35
  go_upto_region 2 with (first
    | ((with_reducible (show wpList _ _ _ (Oper.mk _ (Op.build 51 _) _ _ _ _ :: _) _ _)); refine wpList_val rfl (exec_bld51 (.const (.int .i64 1)) rfl rfl _) ?_)
    | (go_at_call 37; refine (hP.out _).mono ?_; rintro r w1 ⟨a1, c1, s1, rfl, o1, f1, n1⟩))
  go_upto_region 3 with ((with_reducible (show wpList _ _ _ (Oper.mk _ (Op.makeSlice 29 _ _) _ _ _ _ :: _) _ _)); refine wpList_make_g BT (by rfl) 256 (by omega) (.const (.int .i64 256)) (.const (.int .i64 256)) rfl rfl rfl rfl rfl ?_; intro w2 o2 f2)
  have q0 := o2.cell 0 (by simp)
  have r0 := o2.frozen 0
  have o3 := o2.store 0 (by simp) 1 (u := .int .u8 1) rfl
  have f3 : Frm [w1.heap.size] w1 (w2.setCell ⟨w1.heap.size, 0, none⟩ (.int .u8 1)) := (f2.mono (L' := [w1.heap.size]) (by simp)).setCell _ _ (by simp)
  unfold bv at q0
  go_upto_region 4 with (fail)
  generalize w2.setCell ⟨w1.heap.size, 0, none⟩ (.int .u8 1) = w3 at *
  have P1 := Lib.hid (o1.sl.keep f3 (fun i hi => by have := o1.lt i hi; simp; omega))
  have P3 := Lib.hid o3.sl
  have F3 := Lib.hid (f1.trans f3 (fun i hi => .inr (by have := f1.size; simp at hi; omega)))
  clear o1 o2 o3 f1 f2 f3 q0 r0 n1
  go_upto_region 5 with (first
    | (go_at_call 47; refine (hU.out _).mono ?_; rintro r w4 ⟨x4, rfl, ⟨As, rfl, hps⟩, f4⟩)
    | ((with_reducible (show wpList _ _ _ (Oper.mk _ (Op.alloc 51) _ _ _ _ :: _) _ _)); refine wpList_lay51 rfl rfl rfl (.tmp 4) (.tmp 16) rfl hps.1 hps.rows rfl rfl ?_))
  have F4 := Lib.hid (f4.alloc (.cells (nc zeroNd.lv As).toArray 51))
  generalize w4.alloc (.cells (nc zeroNd.lv As).toArray 51) = V at *
  have fz := Lib.hid (Frm.refl [] V)
  clear f4 hps
  go_wp2_with (first
    | (go_at_call 17; refine (SameBytes_any _ _ _ s1 _ _ _ (P1.out.keep (F4.out.trans fz.out (by simp)) (by simp)) (P3.out.keep (F4.out.trans fz.out (by simp)) (by simp))).mono ?_; rw [HEQ.out]; rintro r wn ⟨rfl, rfl⟩)
    | ((with_reducible (show wpList _ _ _ (Oper.mk (some 26) (Op.build 51 _) _ _ _ _ :: _) _ _)); refine wpList_val_g (by rfl) (exec_bld51 (.const (.int .i64 1)) rfl rfl _) ?_)
    | ((with_reducible (show wpList _ _ _ (Oper.mk (some 34) (Op.build 51 _) _ _ _ _ :: _) _ _)); refine wpList_val_g (by rfl) (exec_bld51z rfl _) ?_)
    | (go_at_call 41; refine (hE.out _).mono ?_; rintro r wn ⟨rfl, fn⟩; replace fz := Lib.hid (fz.out.trans fn (by simp)); clear fn)
    | (go_at_call 39; refine (hC.out _).mono ?_; rintro r wn ⟨rfl, fn⟩; replace fz := Lib.hid (fz.out.trans fn (by simp)); clear fn))
  go_ret
  exact ⟨rfl, F3.out.trans (F4.out.trans fz.out (by simp)) (by simp)⟩
end Go.Proofs.Ytjjcjocomanohaa

namespace Go.Proofs.Ytjjcjocomanohaa
open Go.RowKit
set_option linter.unusedVariables false
set_option linter.unusedSimpArgs false
set_option maxRecDepth 100000

theorem bld01 (a : Option Addr) (n c : Nat) (x : Int) (W : World) : (Instr.build 26 #[(0, .slice a n c), (1, .int .i64 x)]).run Try.prog W = .ok (pv (.slice a n c) x 0 zs) W := by kernel_rfl
theorem exec_bld01 {o : Oper} {ac : Act} {a : Option Addr} {n c : Nat} {x : Int} (r s : Operand) (hop : o.op = Op.build 26 #[(0, r), (1, s)]) (h0 : ac.eval r = .slice a n c) (h1 : ac.eval s = .int .i64 x) (W : World) : (execOp ac.eval o).run Try.prog W = .ok (.value (pv (.slice a n c) x 0 zs)) W := by
  have hb := bld01 a n c x W
  have hm : (#[(0, r), (1, s)].map fun ((i, x) : Nat × Operand) => (i, ac.eval x)) = #[(0, .slice a n c), (1, .int .i64 x)] := by simp [h0, h1]
  simp only [execOp, hop, hm, Sem.run_bind, Sem.run_pure, hb, Result.andThen_ok]
def pt5 : Pt := ⟨[(0, 5)], 1, 0, zs⟩
def twoNd : Nd := ⟨2, (List.replicate 4 zeroPt).set 0 pt5⟩
def fourNd : Nd := ⟨4, List.replicate 4 zeroPt⟩
theorem two_chk : nchk twoNd = 2 := by decide
theorem two_empty : emptyB twoNd = false := by decide
theorem four_chk : nchk fourNd = 2 := by decide
theorem un_zero : goodN (List.replicate 256 0) = false := by decide
theorem unE_zero : unE (List.replicate 256 0) = 2 := by rw [unE, un_zero]; rfl
theorem unNd_zero : unNd (List.replicate 256 0) = zeroNd := by rw [unNd, un_zero]; rfl
theorem set_four : setOk oneNd 4 zeroPt = false := by decide
theorem two_ads : ∀ p ∈ twoNd.ps, p.ads.length ≤ 1000000 := by decide
theorem four_v (W : World) : NdV W (.agg (nc 4 zAs).toArray) fourNd := ⟨zAs, rfl, ptsv_zero W⟩
set_option maxHeartbeats 8000000 in
theorem nknown_any (w : World) : Calls Try.prog 10 #[] w (Yes w) := by
  have hU := Lib.hid (fun W v sp (h : SlB W v (List.replicate 256 0) sp) => Unpack_any v (List.replicate 256 0) sp W h (by simp))
  unfold UnP at hU
  rw [unE_zero, unNd_zero] at hU
  have hS := Lib.hid (fun W => Set_any _ oneNd 4 _ zeroPt W (oneNd_v W) zero_ads (ptv_zero W) (by simp [zeroPt]))
  unfold SetP at hS
  rw [show setE oneNd 4 zeroPt = 2 by rw [setE, set_four]; rfl, show setNd oneNd 4 zeroPt = zeroNd by rw [setNd, set_four]; rfl] at hS
  have hC4 := Lib.hid (fun W => nodeCheck_any _ fourNd W (four_v W) zero_ads)
  rw [four_chk] at hC4
  have hC2 := Lib.hid (fun W x (h : NdV W x twoNd) => nodeCheck_any x twoNd W h two_ads)
  rw [two_chk] at hC2
  have hE2 := Lib.hid (fun W x (h : NdV W x twoNd) => nodeEmpty_any x twoNd W h two_ads)
  rw [two_empty] at hE2
  have hB0 : NB (w.alloc (.cells (nc 2 zAs).toArray 51)) w.heap.size 2 zAs := NB.new w 2 zAs_len zAs_rows
  have f0 : Frm [] w (w.alloc (.cells (nc 2 zAs).toArray 51)) := (Frm.refl [] w).alloc _
  go_enter Try.func10, Try.ntmps10
  go_upto_region 2 with (first
    | ((with_reducible (show wpList _ _ _ (Oper.mk _ (Op.build 51 _) _ _ _ _ :: _) _ _)); refine wpList_val rfl (exec_bld51 (.const (.int .i64 2)) rfl rfl _) ?_)
    | ((with_reducible (show wpList _ _ _ (Oper.mk _ (Op.alloc 51) _ _ _ _ :: _) _ _)); refine wpList_lay51 rfl rfl rfl (.tmp 1) (.tmp 6) rfl zAs_len zAs_rows rfl rfl ?_))
  generalize w.alloc (.cells (nc 2 zAs).toArray 51) = W at *
  generalize hgg : w.heap.size = g at *
  have HGG := Lib.hid hgg
  clear hgg
  have B0 := Lib.hid hB0
  have F0 := Lib.hid f0
  clear hB0 f0
  have oA : OwnA 46 (W.alloc (.cells #[.int .i64 0, .int .i64 5] 46)) (.slice (some ⟨W.heap.size, 0, none⟩) 1 1) [(0, 5)] [] := OwnA.of_heap (by rw [heap_alloc_new]; rfl) rfl rfl (by simp [maxLen])
  have fA : Frm [] W (W.alloc (.cells #[.int .i64 0, .int .i64 5] 46)) := (Frm.refl [] W).alloc _
  have hgl := B0.out.lt
  have TH := Lib.hid ((B0.out.keep0 fA).there (i := 0) (by omega))
  have hsz : (pc (.slice (some ⟨W.heap.size, 0, none⟩) 1 1) 1 0 zs).toArray.size = 35 := by rw [pc_size]; rfl
  have HSZ := Lib.hid hsz
  have hNB := (B0.out.keep0 fA).set (i := 0) (by omega) (pc (.slice (some ⟨W.heap.size, 0, none⟩) 1 1) 1 0 zs).toArray hsz (pc_one _ _ _)
  have fs : Frm [g] (W.alloc (.cells #[.int .i64 0, .int .i64 5] 46)) ((W.alloc (.cells #[.int .i64 0, .int .i64 5] 46)).setCells g (1 + 0 * 35) (pc (.slice (some ⟨W.heap.size, 0, none⟩) 1 1) 1 0 zs).toArray.toList) := Frm.setCells _ _ _ (Frm.refl _ _) (.inl (by simp))
  have hP5 : PtV (W.alloc (.cells #[.int .i64 0, .int .i64 5] 46)) (.agg (pc (.slice (some ⟨W.heap.size, 0, none⟩) 1 1) 1 0 zs).toArray) pt5 := oA.ptv zs_len
  have hPS := ((ptsv_zero (W.alloc (.cells #[.int .i64 0, .int .i64 5] 46))).set (i := 0) hP5).keep fs (fun A hA i hi h => by
    rcases List.mem_or_eq_of_mem_set hA with h2 | h2
    · rw [List.eq_of_mem_replicate h2] at hi; simp [zA, ptBlk, pc, blk] at hi
    · subst h2; rw [show ptBlk (.agg (pc (.slice (some ⟨W.heap.size, 0, none⟩) 1 1) 1 0 zs).toArray) = blk (.slice (some ⟨W.heap.size, 0, none⟩) 1 1) from ptBlk_pv _ _ _ _] at hi; simp [blk] at hi h; omega)
  go_upto_region 3 with (first
    | ((with_reducible (show wpList _ _ _ (Oper.mk _ (Op.build 26 _) _ _ _ _ :: _) _ _)); refine wpList_val rfl (exec_bld01 (.tmp 8) (.const (.int .i64 1)) rfl rfl rfl _) ?_)
    | ((with_reducible (show wpList _ _ _ (Oper.mk _ (Op.store 26 _ _) _ _ _ _ :: _) _ _)); refine wpList_store_mid rfl 26 (.tmp 11) (.tmp 9) rfl g 1 (pc (.slice (some ⟨W.heap.size, 0, none⟩) 1 1) 1 0 zs).toArray rfl rfl (by rw [HSZ.out]; exact TH.out) (by rw [i26, HSZ.out]) (pc_one _ _ _) ?_))
  have FV := Lib.hid ((F0.out.trans fA (by simp)).trans fs (fun i hi => .inr (by have := HGG.out; simp at hi; omega)))
  change NB ((W.alloc (.cells #[.int .i64 0, .int .i64 5] 46)).setCells g 1 (pc (.slice (some ⟨W.heap.size, 0, none⟩) 1 1) 1 0 zs).toArray.toList) _ _ _ at hNB
  change PtsV ((W.alloc (.cells #[.int .i64 0, .int .i64 5] 46)).setCells g 1 (pc (.slice (some ⟨W.heap.size, 0, none⟩) 1 1) 1 0 zs).toArray.toList) _ _ at hPS
  change Hid (Frm [] w ((W.alloc (.cells #[.int .i64 0, .int .i64 5] 46)).setCells g 1 (pc (.slice (some ⟨W.heap.size, 0, none⟩) 1 1) 1 0 zs).toArray.toList)) at FV
  clear fs hP5 oA fA TH hsz HSZ B0 F0
  generalize (W.alloc (.cells #[.int .i64 0, .int .i64 5] 46)).setCells g 1 (pc (.slice (some ⟨W.heap.size, 0, none⟩) 1 1) 1 0 zs).toArray.toList = V at *
  generalize (pc (.slice (some ⟨W.heap.size, 0, none⟩) 1 1) 1 0 zs).toArray = A5 at *
  have hv : NdV V (.agg (nc 2 (zAs.set 0 A5)).toArray) twoNd := ⟨_, rfl, hPS⟩
  have HV := Lib.hid hv
  have HNB := Lib.hid hNB
  clear hv hNB hPS
  have fz := Lib.hid (Frm.refl [] V)
  go_upto_region 4 with (first
    | ((with_reducible (show wpList _ _ _ (Oper.mk _ (Op.makeSlice 29 _ _) _ _ _ _ :: _) _ _)); refine wpList_make_g BT (by rfl) 256 (by omega) (.const (.int .i64 256)) (.const (.int .i64 256)) rfl rfl rfl rfl rfl ?_; intro w2 o2 f2)
    | (go_at_call 47; refine (hU.out _ _ _ o2.sl).mono ?_; rintro r w4 ⟨x4, rfl, ⟨As, rfl, hps⟩, f4⟩)
    | ((with_reducible (show wpList _ _ _ (Oper.mk _ (Op.alloc 51) _ _ _ _ :: _) _ _)); refine wpList_lay51 rfl rfl rfl (.tmp 2) (.tmp 15) rfl hps.1 hps.rows rfl rfl ?_))
  have F4 := Lib.hid (f2.trans (f4.alloc (.cells (nc zeroNd.lv As).toArray 51)) (by simp))
  generalize w4.alloc (.cells (nc zeroNd.lv As).toArray 51) = V4 at *
  clear f2 f4 o2 hps
  go_upto_region 5 with (first
    | ((with_reducible (show wpList _ _ _ (Oper.mk _ (Op.build 51 _) _ _ _ _ :: _) _ _)); refine wpList_val rfl (exec_bld51 (.const (.int .i64 1)) rfl rfl _) ?_)
    | ((with_reducible (show wpList _ _ _ (Oper.mk _ (Op.build 26 _) _ _ _ _ :: _) _ _)); refine wpList_val_g (by rfl) (exec_bld0 rfl _) ?_)
    | (go_at_call 43; refine (hS.out _).mono ?_; rintro r w6 ⟨x6, rfl, ⟨Bs, rfl, hps, -⟩, f6⟩)
    | ((with_reducible (show wpList _ _ _ (Oper.mk _ (Op.alloc 51) _ _ _ _ :: _) _ _)); refine wpList_lay51 rfl rfl rfl (.tmp 4) (.tmp 21) rfl hps.1 hps.rows rfl rfl ?_))
  have F6 := Lib.hid (F4.out.trans (f6.alloc (.cells (nc zeroNd.lv Bs).toArray 51)) (by simp))
  generalize w6.alloc (.cells (nc zeroNd.lv Bs).toArray 51) = V6 at *
  clear f6 hps fz
  have fz := Lib.hid (Frm.refl [] V6)
  go_wp2_with (first
    | (go_at_call 35; refine (nawake_any _).mono ?_; rintro r wn ⟨rfl, fn⟩; replace fz := Lib.hid (fz.out.trans fn (by simp)); clear fn)
    | ((with_reducible (show wpList _ _ _ (Oper.mk _ (Op.load 51 _) _ _ _ _ :: _) _ _)); refine wpList_load_g (by rfl) 51 _ rfl _ rfl (HNB.out.keep0 (F6.out.trans fz.out (by simp))).all ?_)
    | ((with_reducible (show wpList _ _ _ (Oper.mk _ (Op.build 51 _) _ _ _ _ :: _) _ _)); refine wpList_val_g (by rfl) (exec_bld51 (.const (.int .i64 4)) rfl rfl _) ?_)
    | (go_at_call 39; (first | with_reducible refine (hC4.out _).mono ?_ | with_reducible refine (hC2.out _ _ (HV.out.keep0 (F6.out.trans fz.out (by simp)))).mono ?_); rintro r wn ⟨rfl, fn⟩; replace fz := Lib.hid (fz.out.trans fn (by simp)); clear fn)
    | (go_at_call 41; refine (hE2.out _ _ (HV.out.keep0 (F6.out.trans fz.out (by simp)))).mono ?_; rintro r wn ⟨rfl, fn⟩; replace fz := Lib.hid (fz.out.trans fn (by simp)); clear fn))
  go_ret
  exact ⟨rfl, FV.out.trans (F6.out.trans fz.out (by simp)) (by simp)⟩
end Go.Proofs.Ytjjcjocomanohaa

namespace Go.Proofs.Ytjjcjocomanohaa
open Go.RowKit
set_option linter.unusedVariables false
set_option linter.unusedSimpArgs false
set_option maxRecDepth 100000

/-- Has a pointer more than twenty addresses? -/
def bigB (n : Nd) : Bool := n.ps.any (fun p => decide (20 < p.ads.length))
theorem big_yes {n : Nd} {i : Nat} {p : Pt} (h : n.ps[i]? = some p) (hs : 20 < p.ads.length) : bigB n = true := by
  unfold bigB
  rw [List.any_eq_true]
  exact ⟨p, List.mem_of_getElem? h, by simpa using hs⟩
theorem big_no {n : Nd} (h : ∀ (j : Nat) (p : Pt), j < 4 → n.ps[j]? = some p → p.ads.length ≤ 20) (h4 : n.ps.length = 4) : bigB n = false := by
  unfold bigB
  rw [List.any_eq_false]
  intro p hp
  obtain ⟨i, hi, rfl⟩ := List.getElem_of_mem hp
  have := h i _ (by omega) (List.getElem?_eq_getElem hi)
  simp
  omega
theorem big_ads {n : Nd} (h : bigB n = false) : ∀ p ∈ n.ps, p.ads.length ≤ 20 := fun p hp => by
  have := List.any_eq_false.1 h p hp
  simpa using this
def BigRel (ps : List Pt) (w0 : World) (cv : Value) (wr : World) : Prop := ∃ k : Nat, k ≤ 4 ∧ cv = .int .i64 k ∧ (∀ (j : Nat) (p : Pt), j < k → ps[j]? = some p → p.ads.length ≤ 20) ∧ Frm [] w0 wr
set_option maxHeartbeats 4000000 in
theorem Big_any (x : Value) (n : Nd) (w : World) (hn : NdV w x n) : Calls Try.prog 34 #[x] w fun e w' => e = .returned (.bool (bigB n)) ∧ Frm [] w w' := by
  obtain ⟨N, rfl, hN, As, hps, hb⟩ := hn.box
  have b0 := hb w
  have f0 : Frm [] w (w.alloc (.cells N 51)) := (Frm.refl [] w).alloc _
  have HPS := Lib.hid hps
  clear hb hn hps
  go_enter Try.func34, Try.ntmps34
  go_upto_region 1 with (fail)
  generalize w.alloc (.cells N 51) = W at *
  have B0 := Lib.hid b0
  have F0 := Lib.hid f0
  clear b0 f0
  go_wp2_with fail
  go_loopw [3] (BigRel n.ps W) (fun cv _ => 4 - (intOf cv).toNat)
  case atStart => exact ⟨0, by omega, rfl, fun j p hj => by omega, Frm.refl _ _⟩
  case round =>
    obtain ⟨k, hk, rfl, hst, f⟩ := hrel
    have HST := Lib.hid hst
    have Fk := Lib.hid f
    clear hst f
    by_cases hlt : k < 4
    · obtain ⟨A, p, hA, hp, hv⟩ := HPS.out.get hlt
      obtain ⟨a, cap, sp, h0, _⟩ := ptv_list hv
      have cc : wr.cell? ⟨w.heap.size, 1 + k * 35, none⟩ = some (.slice a p.ads.length cap) := by
        have h := (B0.out.keep0 Fk.out).2.range hA 0 _ (by simpa using h0)
        simpa using h
      have HP := Lib.hid hp
      clear hA hp hv h0
      by_cases h20 : 20 < p.ads.length
      · have H := Lib.hid (big_yes HP.out h20)
        go_wp2_with fail
        go_ret
        exact ⟨by rw [H.out]; rfl, F0.out.trans Fk.out (by simp)⟩
      · have H20 := Lib.hid (show p.ads.length ≤ 20 by omega)
        have h20' : ¬ (20 : Int) < (p.ads.length : Int) := by omega
        clear h20
        go_wp2_with fail
        go_roundw
        case rel => exact ⟨k + 1, by omega, by go_num, fun j p' hj hp' => by
          rcases Nat.lt_or_ge j k with h | h
          · exact HST.out j p' h hp'
          · obtain rfl : j = k := by omega
            rw [HP.out] at hp'
            cases hp'
            exact H20.out, Fk.out⟩
        case measure => simp [intOf]; omega
    · obtain rfl : k = 4 := by omega
      have H := Lib.hid (big_no (n := n) HST.out HPS.out.2.1)
      go_wp2_with fail
      go_ret
      exact ⟨by rw [H.out]; rfl, F0.out.trans Fk.out (by simp)⟩
def CntRel (w0 : World) (cv : Value) (wr : World) : Prop := ∃ k : Nat, k ≤ 4 ∧ cv = .int .i64 k ∧ Frm [] w0 wr
set_option maxHeartbeats 4000000 in
theorem SameNode_true (x y : Value) (n : Nd) (w : World) (hn : NdV w x n) (hm : NdV w y n) (hl : ∀ p ∈ n.ps, p.ads.length ≤ 1000000) : Calls Try.prog 45 #[x, y] w (Yes w) := by
  obtain ⟨N, rfl, hN, As, hps, hb⟩ := hn.box
  obtain ⟨M, rfl, hM, Bs, hqs, hc⟩ := hm.box
  have b0 : BoxN ((w.alloc (.cells N 51)).alloc (.cells M 51)) w.heap.size (.agg N) n.lv As := (hb w).keep0 ((Frm.refl [] _).alloc _)
  have b1 : BoxN ((w.alloc (.cells N 51)).alloc (.cells M 51)) (w.heap.size + 1) (.agg M) n.lv Bs := by have := hc (w.alloc (.cells N 51)); simpa using this
  have f0 : Frm [] w ((w.alloc (.cells N 51)).alloc (.cells M 51)) := ((Frm.refl [] w).alloc _).alloc _
  have HPS := Lib.hid hps
  have HQS := Lib.hid hqs
  have HL := Lib.hid hl
  clear hb hc hn hm hps hqs hl
  go_enter Try.func45, Try.ntmps45
  go_upto_region 1 with (fail)
  generalize (w.alloc (.cells N 51)).alloc (.cells M 51) = W at *
  have B0 := Lib.hid b0
  have B1 := Lib.hid b1
  have F0 := Lib.hid f0
  have c0 := b0.2.lev
  have c1 := b1.2.lev
  clear b0 b1 f0
  go_wp2_with fail
  go_loopw [5] (CntRel W) (fun cv _ => 4 - (intOf cv).toNat)
  case atStart => exact ⟨0, by omega, rfl, Frm.refl _ _⟩
  case round =>
    obtain ⟨k, hk, rfl, f⟩ := hrel
    have Fk := Lib.hid f
    have d0 := f.cell c0 (by simp)
    have d1 := f.cell c1 (by simp)
    clear f c0 c1
    by_cases hlt : k < 4
    · obtain ⟨A, p, hA, hp, hv⟩ := HPS.out.get hlt
      obtain ⟨B, q, hB, hq, hu⟩ := HQS.out.get hlt
      have hpl := HL.out p (List.mem_of_getElem? hp)
      rw [hp] at hq
      cases hq
      have HM := Lib.hid (fun W (f : Frm [] w W) => SamePointer_any (.agg A) (.agg B) p p W (hv.keep0 f) (hu.keep0 f) hpl)
      rw [same_refl] at HM
      have LA := Lib.hid hA
      have LB := Lib.hid hB
      clear hA hB hp hv hu hpl
      go_upto_region 4 with (fail)
      refine wp_region_held_drew (S := fun z => Frm [] wr z) (by kernel_rfl) ((Frm.refl [] wr).drew) (fun hHeld => ?_)
      refine wpAnyH_take (i := 0) (oi := { dst := some 10, op := Op.move (Operand.tmp 5), type := 3, pos := "nodes.go:8", after := #[], guard := none }) (v := ?_) rfl (by kernel_rfl) (by kernel_rfl) (by kernel_rfl) (fun _ _ _ h => h) (Or.inl ⟨by rfl, ?_⟩) hHeld ?_
      rotate_left
      focus (intro z hSw; clear hSw; go_simp; try with_reducible rfl)
      try simp only [Act.put, List.setIfInBounds_toArray, List.set_cons_zero, List.set_cons_succ]
      refine wpAnyH_take (i := 1) (oi := { dst := some 11, op := Op.fieldAddr 51 (Operand.tmp 2) 1, type := 0, pos := "nodes.go:8", after := #[], guard := none }) (v := ?_) rfl (by kernel_rfl) (by kernel_rfl) (by kernel_rfl) (fun _ _ _ h => h) (Or.inl ⟨by rfl, ?_⟩) hHeld ?_
      rotate_left
      focus (intro z hSw; clear hSw; go_simp; try with_reducible rfl)
      try simp only [Act.put, List.setIfInBounds_toArray, List.set_cons_zero, List.set_cons_succ]
      refine wpAnyH_take (i := 2) (oi := { dst := some 12, op := Op.indexAddr 49 (Operand.tmp 11) (Operand.tmp 10), type := 0, pos := "nodes.go:8", after := #[{ on := 1, ground := Ground.data }, { on := 0, ground := Ground.data }], guard := none }) (v := ?_) rfl (by kernel_rfl) (by kernel_rfl) (by kernel_rfl) (fun _ _ _ h => h) (Or.inl ⟨by rfl, ?_⟩) hHeld ?_
      rotate_left
      focus (intro z hSw; clear hSw; go_simp; try with_reducible rfl)
      try simp only [Act.put, List.setIfInBounds_toArray, List.set_cons_zero, List.set_cons_succ]
      refine wpAnyH_take (i := 3) (oi := { dst := some 13, op := Op.load 26 (Operand.tmp 12), type := 26, pos := "nodes.go:8", after := #[{ on := 2, ground := Ground.data }], guard := none }) rfl (by kernel_rfl) (by kernel_rfl) (by kernel_rfl) (fun _ _ _ h => h) (yieldsIf_ld (by rfl) 26 _ rfl _ rfl (fun z hSw => ((B0.out.keep0 Fk.out).keep0 hSw).2.load LA.out)) hHeld ?_
      try simp only [Act.put, List.setIfInBounds_toArray, List.set_cons_zero, List.set_cons_succ]
      refine wpAnyH_take (i := 4) (oi := { dst := some 14, op := Op.move (Operand.tmp 5), type := 3, pos := "nodes.go:8", after := #[], guard := none }) (v := ?_) rfl (by kernel_rfl) (by kernel_rfl) (by kernel_rfl) (fun _ _ _ h => h) (Or.inl ⟨by rfl, ?_⟩) hHeld ?_
      rotate_left
      focus (intro z hSw; clear hSw; go_simp; try with_reducible rfl)
      try simp only [Act.put, List.setIfInBounds_toArray, List.set_cons_zero, List.set_cons_succ]
      refine wpAnyH_take (i := 5) (oi := { dst := some 15, op := Op.fieldAddr 51 (Operand.tmp 3) 1, type := 0, pos := "nodes.go:8", after := #[], guard := none }) (v := ?_) rfl (by kernel_rfl) (by kernel_rfl) (by kernel_rfl) (fun _ _ _ h => h) (Or.inl ⟨by rfl, ?_⟩) hHeld ?_
      rotate_left
      focus (intro z hSw; clear hSw; go_simp; try with_reducible rfl)
      try simp only [Act.put, List.setIfInBounds_toArray, List.set_cons_zero, List.set_cons_succ]
      refine wpAnyH_take (i := 6) (oi := { dst := some 16, op := Op.indexAddr 49 (Operand.tmp 15) (Operand.tmp 14), type := 0, pos := "nodes.go:8", after := #[{ on := 5, ground := Ground.data }, { on := 4, ground := Ground.data }], guard := none }) (v := ?_) rfl (by kernel_rfl) (by kernel_rfl) (by kernel_rfl) (fun _ _ _ h => h) (Or.inl ⟨by rfl, ?_⟩) hHeld ?_
      rotate_left
      focus (intro z hSw; clear hSw; go_simp; try with_reducible rfl)
      try simp only [Act.put, List.setIfInBounds_toArray, List.set_cons_zero, List.set_cons_succ]
      refine wpAnyH_take (i := 7) (oi := { dst := some 17, op := Op.load 26 (Operand.tmp 16), type := 26, pos := "nodes.go:8", after := #[{ on := 6, ground := Ground.data }], guard := none }) rfl (by kernel_rfl) (by kernel_rfl) (by kernel_rfl) (fun _ _ _ h => h) (yieldsIf_ld (by rfl) 26 _ rfl _ rfl (fun z hSw => ((B1.out.keep0 Fk.out).keep0 hSw).2.load LB.out)) hHeld ?_
      try simp only [Act.put, List.setIfInBounds_toArray, List.set_cons_zero, List.set_cons_succ]
      refine wpAnyH_ready (rs := [8]) (by kernel_rfl) (by simp) ?_
      refine AllReadyH.cons (o := { dst := some 18, op := Op.call { callee := Callee.value (Operand.func 27), args := #[Operand.tmp 13, Operand.tmp 17], argTypes := #[26, 26] }, type := 4, pos := "nodes.go:8", after := #[{ on := 3, ground := Ground.data }, { on := 7, ground := Ground.data }], guard := none }) rfl (fun K hK => ?_) AllReadyH.nil
      go_simp
      refine (HM.out _ ((F0.out.trans Fk.out (by simp)).trans hHeld (by simp))).mono ?_
      rintro r wn ⟨rfl, fn⟩
      refine hK.out _ _ ?_ (fun hNext => ?_)
      · exact hHeld.trans fn (by simp)
      clear hK K hHeld
      have hHeld := hNext
      clear hNext
      try simp only [Act.put, List.setIfInBounds_toArray, List.set_cons_zero, List.set_cons_succ]
      refine wpAnyH_take (i := 9) (oi := { dst := some 19, op := Op.unOp UnOp.not 4 (Operand.tmp 18), type := 4, pos := "nodes.go:8", after := #[{ on := 8, ground := Ground.data }], guard := none }) (v := ?_) rfl (by kernel_rfl) (by kernel_rfl) (by kernel_rfl) (fun _ _ _ h => h) (Or.inl ⟨by rfl, ?_⟩) hHeld ?_
      rotate_left
      focus (intro z hSw; clear hSw; go_simp; try with_reducible rfl)
      try simp only [Act.put, List.setIfInBounds_toArray, List.set_cons_zero, List.set_cons_succ]
      refine wpAnyH_done (by kernel_rfl) ?_ _
      go_wp2_with fail
      go_roundw
      case rel => exact ⟨k + 1, by omega, by go_num, Fk.out.trans hHeld (by simp)⟩
      case measure => simp [intOf]; omega
    · obtain rfl : k = 4 := by omega
      go_wp2_with fail
      go_ret
      exact ⟨rfl, F0.out.trans Fk.out (by simp)⟩
end Go.Proofs.Ytjjcjocomanohaa

namespace Go.Proofs.Ytjjcjocomanohaa
open Go.RowKit
set_option linter.unusedVariables false
set_option linter.unusedSimpArgs false
set_option maxRecDepth 100000

/-- A place from 0 to 3 that any number says. -/
def pick4 (x : Int) : Int := if x.tmod 4 < 0 then x.tmod 4 + 4 else x.tmod 4
theorem pick4_range (x : Int) : 0 ≤ pick4 x ∧ pick4 x < 4 := by
  unfold pick4
  have h1 := Int.tmod_lt_of_pos x (show (0 : Int) < 4 by decide)
  have h2 := Int.lt_tmod_of_pos x (show (0 : Int) < 4 by decide)
  split <;> omega
set_option maxHeartbeats 1000000 in
theorem Pick_any (x : Int) (hx : (Lit.int .i64 x).wf = true) (w : World) : Calls Try.prog 49 #[.int .i64 x, .int .i64 4] w fun e w' => e = .returned (.int .i64 (pick4 x)) ∧ w' = w := by
  have h1 := Int.tmod_lt_of_pos x (show (0 : Int) < 4 by decide)
  have h2 := Int.lt_tmod_of_pos x (show (0 : Int) < 4 by decide)
  have hw : IntKind.i64.wrap (x.tmod 4) = x.tmod 4 := IntWalk.i64_in _ (by omega)
  have hw4 : IntKind.i64.wrap (x.tmod 4 + 4) = x.tmod 4 + 4 := IntWalk.i64_in _ (by omega)
  have HP := Lib.hid (show pick4 x = if x.tmod 4 < 0 then x.tmod 4 + 4 else x.tmod 4 from rfl)
  go_enter Try.func49, Try.ntmps49
  go_wp2
  all_goals
    go_ret
    refine ⟨?_, rfl⟩
    rw [HP.out]
    simp
    intro h
    omega
def OverTRel (T : TypeId) (w : World) (g cap : Nat) (c : Value) (wr : World) : Prop :=
  ∃ k : Nat, ∃ L : List UInt8, k ≤ cap ∧ c = .int .i64 k ∧ L.length = cap ∧ OwnB T wr (.slice (some ⟨g, 0, none⟩) cap cap) L [] ∧ Frm [g] w wr
set_option maxHeartbeats 1000000 in
theorem OverT_all (T : TypeId) (v : Value) (l sp : List UInt8) (w : World) (hO : OwnB T w v l sp) :
    Calls Try.prog 22 #[v] w fun r w' => r = .returned (.tuple #[]) ∧ Frm (blk v) w w' := by
  have hO' := hO
  obtain ⟨h1, ⟨rfl, h2, h3⟩ | ⟨g, cap, rfl, h3, h4, h5, h6⟩⟩ := hO'
  · go_enter Try.func22, Try.ntmps22
    go_wp2
    go_loop [3] (fun c => c = .int .i64 0) (fun _ => 0)
    case atStart => rfl
    case round =>
      subst hrel
      go_wp2
      go_end0
      exact ⟨rfl, Frm.refl _ _⟩
  · obtain ⟨k1, k2, k3⟩ := hO.caps
    have o1 : OwnB T w (.slice (some ⟨g, 0, none⟩) cap cap) (l ++ sp) [] := OwnB.of_heap (by simpa using hO.heap) (by simp; omega) (by simp; omega) h4
    have hcap : (cap : Int) ≤ 9223372036854775807 := by simp [maxLen] at h4; omega
    have hlen : (l ++ sp).length = cap := by simp; omega
    have HL := Lib.hid hlen
    clear hO h1 h5 h6 k1 k2 k3 hlen
    go_enter Try.func22, Try.ntmps22
    go_wp2
    go_loopw [3] (OverTRel T w g cap) (fun c _ => cap - (intOf c).toNat)
    case atStart => exact ⟨0, _, Nat.zero_le _, rfl, HL.out, o1, Frm.refl _ _⟩
    case round =>
      obtain ⟨k, L, hk, rfl, hL, o2, f2⟩ := hrel
      have HL2 := Lib.hid hL
      by_cases hlt : k < cap
      · have hc := o2.cell k (by simp; omega)
        have hf := o2.frozen k
        unfold bv at hc
        generalize (L ++ [])[k]! = x at hc
        clear hL
        have hx := Go.bounds_u8 (Go.wf_bits .xor .u8 x.toNat 90)
        have HX := Lib.hid hx
        clear hx
        go_wp2
        refine ⟨⟨k + 1, _, by omega, by go_num, ?_, o2.store k (by rw [HL2.out]; exact hlt) (UInt8.ofNat (bits .xor .u8 x.toNat 90).toNat) ?_, f2.setCell _ _ (by simp)⟩, by simp [intOf]; omega⟩
        · rw [List.length_set, HL2.out]
        · have := HX.out; simp only [bv, UInt8.toNat_ofNat']; congr 1; omega
      · obtain rfl : k = cap := by omega
        clear hL
        go_wp2
        go_end0
        exact ⟨rfl, f2⟩
theorem eas_set : ∀ (l : List Ad) (i : Nat) (x : Ad), eas (l.set i x) = ((eas l).set (i * 2) (.int .i64 x.1)).set (i * 2 + 1) (.int .i64 x.2)
  | [], i, x => by simp [eas]
  | y :: r, 0, x => by simp [eas_cons]
  | y :: r, i + 1, x => by
    rw [List.set_cons_succ, eas_cons, eas_set r i x, eas_cons, show (i + 1) * 2 = i * 2 + 1 + 1 by omega]
    simp [List.set_cons_succ]
theorem OwnA.store {T : TypeId} {w : World} {g n cap : Nat} {l sp : List Ad} (h : OwnA T w (.slice (some ⟨g, 0, none⟩) n cap) l sp) (i : Nat) (hi : i < l.length) (x : Ad) :
    OwnA T ((w.setCell ⟨g, i * 2, none⟩ (.int .i64 x.1)).setCell ⟨g, i * 2 + 1, none⟩ (.int .i64 x.2)) (.slice (some ⟨g, 0, none⟩) n cap) (l.set i x) sp := by
  obtain ⟨h1, h2, h3⟩ := h.caps
  refine OwnA.of_heap ?_ (by simpa using h1) (by simpa using h2) h3
  rw [heap_setCell_same _ (heap_setCell_same _ h.heap)]
  congr 2
  apply Array.ext'
  simp only [Array.toList_setIfInBounds, eas_append, eas_set]
  have hl := eas_length l
  rw [List.set_append_left _ _ (by omega), List.set_append_left _ _ (by simp; omega)]
def OverARel (g n cap : Nat) (sp : List Ad) (w0 : World) (cv : Value) (wr : World) : Prop := ∃ (k : Nat) (m : List Ad), k ≤ n ∧ m.length = n ∧ cv = .int .i64 k ∧ OwnA 46 wr (.slice (some ⟨g, 0, none⟩) n cap) m sp ∧ Frm [g] w0 wr
set_option maxHeartbeats 1000000 in
theorem OverA_any (v : Value) (l sp : List Ad) (w : World) (hO : OwnA 46 w v l sp) (hl : l.length ≤ 1000000) :
    Calls Try.prog 67 #[v] w fun e w' => e = .returned (.tuple #[]) ∧ Frm (blk v) w w' := by
  obtain ⟨h1, ⟨rfl, h2, h3⟩ | ⟨g, cap, rfl, h3, h4, h5, h6⟩⟩ := id hO
  · clear hO h1 h3 hl h2
    go_enter Try.func67, Try.ntmps67
    go_wp2_with fail
    refine wp_loop_rounds 1 ?_
    rw [rounds_succ]
    go_wp2
    go_end0
    exact ⟨rfl, Frm.refl _ _⟩
  · have hl9 : ((l.length : Nat) : Int) ≤ 1000000 := by omega
    have HO := Lib.hid hO
    clear hO h1 h6 h5 h3 h4 hl
    go_enter Try.func67, Try.ntmps67
    go_wp2_with fail
    go_loopw [2] (OverARel g l.length cap sp w) (fun cv _ => l.length - (intOf cv).toNat)
    case atStart => exact ⟨0, l, by omega, rfl, rfl, HO.out, Frm.refl _ _⟩
    case round =>
      obtain ⟨k, m, hk, hm, rfl, o, f⟩ := hrel
      by_cases hlt : k < l.length
      · obtain ⟨c0, c1⟩ := o.sl.cells k (by omega)
        have z0 := frozen_of_heap o.heap (0 + k * 2)
        have z1 := frozen_of_heap o.heap (0 + k * 2 + 1)
        have hst := o.store k (by omega) (-7, -7)
        rw [Nat.zero_add] at c0 c1 z0 z1
        generalize m[k]'(by omega) = y at *
        have ST := Lib.hid hst
        have F := Lib.hid f
        have HM := Lib.hid hm
        clear hst o f hm
        go_wp2_with fail
        exact ⟨⟨k + 1, _, by omega, by simpa using HM.out, by go_num, ST.out, (F.out.setCell _ _ (.inl (by simp))).setCell _ _ (.inl (by simp))⟩, by simp [intOf]; omega⟩
      · obtain rfl : k = l.length := by omega
        have F := Lib.hid f
        clear f o hm
        go_wp2_with fail
        go_end0
        exact ⟨rfl, by simpa [blk] using F.out⟩
end Go.Proofs.Ytjjcjocomanohaa

namespace Go.Proofs.Ytjjcjocomanohaa
open Go.RowKit
set_option linter.unusedVariables false
set_option linter.unusedSimpArgs false
set_option maxRecDepth 100000

theorem setOk_parts {n : Nd} {i : Int} {p : Pt} (h : setOk n i p = true) : nodeB n = true ∧ standB p n.lv = true := by
  unfold setOk at h
  simp only [Bool.and_eq_true] at h
  exact ⟨h.1, h.2.2⟩
theorem nodeB_set {n : Nd} {p : Pt} (k : Nat) (h : nodeB n = true) (hs : standB p n.lv = true) : nodeB ⟨n.lv, n.ps.set k p⟩ = true := by
  unfold nodeB at *
  simp only [Bool.and_eq_true, List.all_eq_true] at *
  refine ⟨h.1, fun q hq => ?_⟩
  rcases List.mem_or_eq_of_mem_set hq with h1 | h1
  · exact h.2 q h1
  · subst h1; exact hs
theorem nchk_set {n : Nd} {k : Nat} {p : Pt} (h : setOk n k p = true) : nchk ⟨n.lv, n.ps.set k p⟩ = 0 := by
  unfold nchk
  rw [nodeB_set k (setOk_parts h).1 (setOk_parts h).2]
  rfl
theorem setOk_back {n : Nd} {k : Nat} {p q : Pt} (hk : k < 4) (h : setOk n k p = true) (hq : n.ps[k]? = some q) : setOk ⟨n.lv, n.ps.set k p⟩ k q = true := by
  have h1 := setOk_parts h
  have h2 : standB q n.lv = true := by
    have := h1.1
    unfold nodeB at this
    simp only [Bool.and_eq_true, List.all_eq_true] at this
    exact this.2 q (List.mem_of_getElem? hq)
  unfold setOk
  rw [nodeB_set k h1.1 h1.2]
  simp [h2]; omega
theorem setNd_back {n : Nd} {k : Nat} {p q : Pt} (hk : k < 4) (h : setOk n k p = true) (hq : n.ps[k]? = some q) : setNd ⟨n.lv, n.ps.set k p⟩ k q = n := by
  unfold setNd
  rw [if_pos (setOk_back hk h hq)]
  obtain ⟨hlt, rfl⟩ := List.getElem?_eq_some_iff.1 hq
  simp
theorem setE_back {n : Nd} {k : Nat} {p q : Pt} (hk : k < 4) (h : setOk n k p = true) (hq : n.ps[k]? = some q) : setE ⟨n.lv, n.ps.set k p⟩ k q = 0 := by
  unfold setE
  rw [if_pos (setOk_back hk h hq)]
theorem setE_yes {n : Nd} {i : Int} {p : Pt} (h : setOk n i p = true) : setE n i p = 0 := by simp [setE, h]
theorem setE_no {n : Nd} {i : Int} {p : Pt} (h : setOk n i p = false) : setE n i p = 2 := by simp [setE, h]
theorem setNd_yes {n : Nd} {k : Nat} {p : Pt} (h : setOk n k p = true) : setNd n k p = ⟨n.lv, n.ps.set k p⟩ := by simp [setNd, h]
theorem setOk_no {n : Nd} {k : Nat} {p : Pt} (hk : k < 4) (h : setOk n k p = false) (hb : nodeB n = true) : hole p = false ∧ (chk p = 0 → p.l ≠ n.lv - 1) := by
  unfold setOk at h
  have : decide (0 ≤ (k : Int) ∧ (k : Int) < 4) = true := by simp; omega
  rw [hb, this] at h
  simp only [Bool.true_and] at h
  unfold standB at h
  simp only [Bool.or_eq_false_iff, Bool.and_eq_false_iff] at h
  refine ⟨h.1, fun h0 e => ?_⟩
  rcases h.2 with h2 | h2
  · simp [h0] at h2
  · simp [e] at h2
theorem pick_at (x : Int) : ∃ k : Nat, pick4 x = (k : Int) ∧ k < 4 := by
  have := pick4_range x
  exact ⟨(pick4 x).toNat, by omega, by omega⟩
/-- All of the first pointers are holes. -/
def EmRel (ps : List Pt) (w0 : World) (c8 c9 : Value) (wr : World) : Prop := ∃ (k : Nat) (b : Bool), k ≤ 4 ∧ c9 = .int .i64 k ∧ c8 = .bool b ∧ b = (ps.take k).all hole ∧ Frm [] w0 wr
theorem em_step {ps : List Pt} {k : Nat} {p : Pt} (h : ps[k]? = some p) : (ps.take (k + 1)).all hole = ((ps.take k).all hole && hole p) := by
  obtain ⟨hlt, rfl⟩ := List.getElem?_eq_some_iff.1 h
  rw [List.take_succ_eq_append_getElem hlt, List.all_append, List.all_cons, List.all_nil, Bool.and_true]
theorem em_end {n : Nd} (h4 : n.ps.length = 4) : (n.ps.take 4).all hole = emptyB n := by
  rw [List.take_of_length_le (by omega)]
  rfl
theorem step_alloc51 {ops : Array Oper} {o : Oper} {a : Act} {w : World} {K : Act → World → Prop} {Q : Exit → Act → World → Prop} {E : Prop} (hg : o.guard = none) (hop : o.op = .alloc 51)
    (k : ∀ w', NB w' w.heap.size 0 zAs → Frm [] w w' → w'.heap.size = w.heap.size + 1 → K (a.put o.dst (.pointer (some ⟨w.heap.size, 0, none⟩))) w') :
    if Region.wanted o (yielded ops a.tmps) = true then Oper.wp Try.prog o a w K Q else E :=
  step_val hg (exec_alloc51 hop w) (k _ (NB.new w 0 zAs_len zAs_rows) ((Frm.refl [] w).alloc _) (World.size_alloc _ _))
theorem step_store51 {ops : Array Oper} {o : Oper} {a : Act} {w : World} {K : Act → World → Prop} {Q : Exit → Act → World → Prop} {E : Prop} (hg : o.guard = none)
    (p x : Operand) (h3 : o.op = .store 51 p x) {lv lv0 : Int} {As As0 : List (Array Value)} {g : Nat} (h0 : NB w g lv0 As0) (h4 : As.length = 4) (hR : Rows35 As)
    (e1 : a.eval p = .pointer (some ⟨g, 0, none⟩)) (e2 : a.eval x = .agg (nc lv As).toArray)
    (k : ∀ w', NB w' g lv As → Frm [g] w w' → K (a.put o.dst undef) w') :
    if Region.wanted o (yielded ops a.tmps) = true then Oper.wp Try.prog o a w K Q else E := by
  rw [if_pos (by simp [Region.wanted, hg])]
  refine wp_store_row 51 p x h3 g (nc lv As).toArray e1 e2 51 _ h0.1 (by rw [i51]; simp [nc_length hR h4]) (by simp [nc_length hR h4, nc_length h0.2.2 h0.2.1]) (nc_one hR) ?_
  exact k _ ⟨setRow_heap w g _ _ 51 (0, 0) h0.1, h4, hR⟩ ⟨rfl, rfl, rfl, by simp [World.setRow], fun k hk hn => setRow_other _ _ k _ (by simpa using hn)⟩
end Go.Proofs.Ytjjcjocomanohaa

namespace Go.Proofs.Ytjjcjocomanohaa
open Go.RowKit
set_option linter.unusedVariables false
set_option linter.unusedSimpArgs false
set_option maxRecDepth 100000

theorem NdO.ndv2 {b : Nat} {w : World} {x : Value} {n : Nd} (h : NdO b w x n) : NdV w x n := by
  obtain ⟨As, e, h1, _⟩ := h
  exact ⟨As, e, h1⟩
set_option maxHeartbeats 8000000 in
theorem nsets_any (x : Value) (n : Nd) (i : Int) (y : Value) (p : Pt) (w : World) (hn : NdV w x n) (hi : (Lit.int .i64 i).wf = true) (hp : PtV w y p) : Calls Try.prog 12 #[x, .int .i64 i, y] w (Yes w) := by
  have HNV := Lib.hid hn
  have HPV := Lib.hid hp
  have HBig := Lib.hid (fun W (f : Frm [] w W) => Big_any x n W (hn.keep0 f))
  have HPK := Lib.hid (fun W => Pick_any i hi W)
  obtain ⟨kk, hkk, hlt4⟩ := pick_at i
  rw [hkk] at HPK
  obtain ⟨N, rfl, hN, As, hps, hbx⟩ := hn.box
  obtain ⟨A, rfl, hA, hbp⟩ := hp.box
  have HPS := Lib.hid hps
  have b3 : BoxN ((w.alloc (.cells N 51)).alloc (.cells A 26)) w.heap.size (.agg N) n.lv As := (hbx w).keep0 ((Frm.refl [] _).alloc _)
  have b5 : Boxed ((w.alloc (.cells N 51)).alloc (.cells A 26)) (w.heap.size + 1) (.agg A) p := by have h := hbp (w.alloc (.cells N 51)); simpa using h
  have f0 : Frm [] w ((w.alloc (.cells N 51)).alloc (.cells A 26)) := ((Frm.refl [] w).alloc _).alloc _
  clear hbx hbp hn hp hps hkk
  go_enter Try.func12, Try.ntmps12
  go_upto_region 1 with (fail)
  generalize (w.alloc (.cells N 51)).alloc (.cells A 26) = W at *
  have B3 := Lib.hid b3
  have B5 := Lib.hid b5
  have F0 := Lib.hid f0
  clear b3 b5 f0
  go_upto_region 2 with (go_at_call 10; refine (nknown_any _).mono ?_; rintro r w1 ⟨rfl, f1⟩)
  replace B3 := Lib.hid (B3.out.keep0 f1)
  replace B5 := Lib.hid (B5.out.keep0 f1)
  replace F0 := Lib.hid (F0.out.trans f1 (by simp))
  clear f1 W
  cases hbig : bigB n with
  | true =>
    rw [hbig] at HBig
    clear hbig
    go_wp2_with (first
      | ((with_reducible (show wpList _ _ _ (Oper.mk _ (Op.load 51 _) _ _ _ _ :: _) _ _)); refine wpList_load_g (by rfl) 51 _ rfl _ rfl B3.out.load ?_)
      | (go_at_call 34; refine (HBig.out _ F0.out).mono ?_; rintro r w2 ⟨rfl, f2⟩))
    go_ret
    exact ⟨rfl, F0.out.trans f2 (by simp)⟩
  | false =>
    have hads : ∀ q ∈ n.ps, q.ads.length ≤ 1000000 := fun q hq => by have := big_ads hbig q hq; omega
    rw [hbig] at HBig
    clear hbig
    obtain ⟨a5, cap5, k5⟩ := B5.out.c0
    by_cases h20 : p.ads.length ≤ 20
    · have hpl : p.ads.length ≤ 1000000 := by omega
      have h20' : ¬ (20 : Int) < (p.ads.length : Int) := by omega
      go_upto_region 4 with (first
        | ((with_reducible (show wpList _ _ _ (Oper.mk _ (Op.load 51 _) _ _ _ _ :: _) _ _)); refine wpList_load_g (by rfl) 51 _ rfl _ rfl B3.out.load ?_)
        | (go_at_call 34; refine (HBig.out _ F0.out).mono ?_; rintro r w2 ⟨rfl, f2⟩; replace k5 := f2.cell k5 (by simp)))
      have C3 := Lib.hid (B3.out.keep0 f2)
      have C5 := Lib.hid (B5.out.keep0 f2)
      have F2 := Lib.hid (F0.out.trans f2 (by simp))
      clear f2 B3 B5 F0 k5 h20 h20' HBig
      have HADS := Lib.hid hads
      have HPL := Lib.hid hpl
      clear hads hpl
      go_wp2_with fail
      go_loopw [8, 9] (EmRel n.ps w2) (fun _ cv _ => 4 - (intOf cv).toNat)
      case atStart => exact ⟨0, true, by omega, rfl, rfl, by simp, Frm.refl _ _⟩
      case round =>
        obtain ⟨k, b, hk, rfl, rfl, hb, f⟩ := hrel
        have HB := Lib.hid hb
        have Fk := Lib.hid f
        clear hb f
        by_cases hlt : k < 4
        · obtain ⟨A', q, hA', hq, hv⟩ := HPS.out.get hlt
          have hql := HADS.out q (List.mem_of_getElem? hq)
          have LD := Lib.hid ((C3.out.keep0 Fk.out).2.load hA')
          have FF := Lib.hid (F2.out.trans Fk.out (by simp))
          have HM := Lib.hid (fun W (f : Frm [] w W) => Hole_any (.agg A') q W (hv.keep0 f) hql)
          have HS := Lib.hid (em_step hq)
          clear hA' hq hv hql
          cases b with
          | true =>
            go_wp2_with (first
              | ((with_reducible (show wpList _ _ _ (Oper.mk _ (Op.load 26 _) _ _ _ _ :: _) _ _)); refine wpList_load_g (by rfl) 26 _ rfl _ rfl LD.out ?_)
              | (go_at_call 20; refine (HM.out _ FF.out).mono ?_; rintro r wn ⟨rfl, fn⟩))
            go_roundw
            case rel => exact ⟨k + 1, hole q, by omega, by go_num, rfl, by rw [HS.out, ← HB.out, Bool.true_and], Fk.out.trans fn (by simp)⟩
            case measure => simp [intOf]; omega
          | false =>
            go_wp2_with fail
            go_roundw
            case rel => exact ⟨k + 1, false, by omega, by go_num, rfl, by rw [HS.out, ← HB.out, Bool.false_and], Fk.out⟩
            case measure => simp [intOf]; omega
        · obtain rfl : k = 4 := by omega
          obtain rfl : b = emptyB n := by rw [HB.out, em_end HPS.out.2.1]
          have HEM := Lib.hid (fun W (f : Frm [] w W) => nodeEmpty_any (.agg N) n W (HNV.out.keep0 f) HADS.out)
          have HSET := Lib.hid (fun W (f : Frm [] w W) => Set_any (.agg N) n kk (.agg A) p W (HNV.out.keep0 f) HADS.out (HPV.out.keep0 f) HPL.out)
          have D3 := Lib.hid (C3.out.keep0 Fk.out)
          have D5 := Lib.hid (C5.out.keep0 Fk.out)
          have FD := Lib.hid (F2.out.trans Fk.out (by simp))
          unfold SetP at HSET
          have hlt4' : (kk : Int) < 4 := by omega
          clear C3 C5 Fk F2 HB
          generalize emptyB n = em at *
          go_upto_region 11 with (first
            | ((with_reducible (show wpList _ _ _ (Oper.mk _ (Op.load 51 _) _ _ _ _ :: _) _ _)); refine wpList_load_g (by rfl) 51 _ rfl _ rfl D3.out.load ?_)
            | (go_at_call 41; refine (HEM.out _ FD.out).mono ?_; rintro r w4 ⟨rfl, f4⟩))
          replace D3 := Lib.hid (D3.out.keep0 f4)
          replace D5 := Lib.hid (D5.out.keep0 f4)
          replace FD := Lib.hid (FD.out.trans f4 (by simp))
          clear f4 HEM
          cases hok : setOk n kk p with
          | false =>
            rw [setE_no hok] at HSET
            have HNO := Lib.hid (setOk_no hlt4 hok)
            clear hok
            generalize setNd n kk p = sn at *
            go_upto_region 13 with (first
              | (go_at_call 49; refine (HPK.out _).mono ?_; rintro r w5 ⟨rfl, rfl⟩)
              | ((with_reducible (show wpList _ _ _ (Oper.mk _ (Op.load 51 _) _ _ _ _ :: _) _ _)); refine wpList_load_g (by rfl) 51 _ rfl _ rfl D3.out.load ?_)
              | ((with_reducible (show wpList _ _ _ (Oper.mk _ (Op.load 26 _) _ _ _ _ :: _) _ _)); refine wpList_load_g (by rfl) 26 _ rfl _ rfl D5.out.load ?_)
              | (go_at_call 43; refine (HSET.out _ FD.out).mono ?_; rintro r w6 ⟨x10, rfl, ⟨A10, rfl, q10, h10⟩, f6⟩)
              | ((with_reducible (show wpList _ _ _ (Oper.mk _ (Op.alloc 51) _ _ _ _ :: _) _ _)); refine wpList_lay51 rfl rfl rfl (.tmp 10) (.tmp 48) rfl q10.1 q10.rows rfl rfl ?_))
            have a10 : Frm [] w6 (w6.alloc (.cells (nc sn.lv A10).toArray 51)) := (Frm.refl [] _).alloc _
            have f10 := (f6.trans a10 (by simp))
            generalize (w6.alloc (.cells (nc sn.lv A10).toArray 51)) = V at *
            generalize w6.heap.size = g10 at *
            have E3 := Lib.hid (D3.out.keep0 f10)
            have E5 := Lib.hid (D5.out.keep0 f10)
            have FE := Lib.hid (FD.out.trans f10 (by simp))
            clear a10 f6 f10 q10 h10 D3 D5 FD HSET HPK
            have KC := Lib.hid (fun W (f : Frm [] w W) => nodeCheck_any (.agg N) n W (HNV.out.keep0 f) HADS.out)
            have PC := Lib.hid (fun W (f : Frm [] w W) => Check_any (.agg A) p W (HPV.out.keep0 f) HPL.out)
            have PE := Lib.hid (fun W (f : Frm [] w W) => Hole_any (.agg A) p W (HPV.out.keep0 f) HPL.out)
            cases hnb : nodeB n with
            | false =>
              have e : nchk n = 2 := by simp [nchk, hnb]
              rw [e] at KC
              clear e hnb
              go_wp2_with (first
                | ((with_reducible (show wpList _ _ _ (Oper.mk (some 54) (Op.load 51 _) _ _ _ _ :: _) _ _)); refine wpList_load_g (by rfl) 51 _ rfl _ rfl E3.out.load ?_)
                | (go_at_call 39; refine (KC.out _ FE.out).mono ?_; rintro r w7 ⟨rfl, f7⟩))
              go_ret
              exact ⟨rfl, FE.out.trans f7 (by simp)⟩
            | true =>
              have e : nchk n = 0 := by simp [nchk, hnb]
              obtain ⟨hh, hc⟩ := HNO.out hnb
              have hlv : 1 ≤ n.lv ∧ n.lv ≤ 3 := ⟨(nodeB_parts hnb).1, (nodeB_parts hnb).2.1⟩
              have hw1 : IntKind.i64.wrap (n.lv - 1) = n.lv - 1 := IntWalk.i64_in _ (by omega)
              have hcc : chk p = 0 ∨ chk p = 2 := by rcases chk_cases p with ⟨_, e, _⟩ | ⟨_, e, _⟩; exact .inl e; exact .inr e
              rw [e] at KC
              rw [hh] at PE
              clear e hnb hh HNO hlv
              rcases hcc with h0 | h0
              · have hbl : (p.l != n.lv - 1) = true := by simp; exact hc h0
                rw [h0] at PC
                clear h0 hc
                go_wp2_with (first
                  | ((with_reducible (show wpList _ _ _ (Oper.mk (some 54) (Op.load 51 _) _ _ _ _ :: _) _ _)); refine wpList_load_g (by rfl) 51 _ rfl _ rfl E3.out.load ?_)
                  | (go_at_call 39; refine (KC.out _ FE.out).mono ?_; rintro r w7 ⟨rfl, f7⟩)
                  | ((with_reducible (show wpList _ _ _ (Oper.mk (some 58) (Op.load 26 _) _ _ _ _ :: _) _ _)); refine wpList_load_g (by rfl) 26 _ rfl _ rfl (E5.out.keep0 f7).load ?_)
                  | (go_at_call 18; refine (PC.out _ (FE.out.trans f7 (by simp))).mono ?_; rintro r w8 ⟨rfl, f8⟩; have g8 := f7.trans f8 (by simp))
                  | ((with_reducible (show wpList _ _ _ (Oper.mk (some 63) (Op.load 26 _) _ _ _ _ :: _) _ _)); refine wpList_load_g (by rfl) 26 _ rfl _ rfl (E5.out.keep0 g8).load ?_)
                  | (go_at_call 20; refine (PE.out _ (FE.out.trans g8 (by simp))).mono ?_; rintro r w9 ⟨rfl, f9⟩; have cl := ((E5.out.keep0 g8).keep0 f9).lvl; have cn := ((E3.out.keep0 g8).keep0 f9).2.lev))
                go_ret
                exact ⟨rfl, (FE.out.trans g8 (by simp)).trans f9 (by simp)⟩
              · rw [h0] at PC
                clear h0 hc
                go_wp2_with (first
                  | ((with_reducible (show wpList _ _ _ (Oper.mk (some 54) (Op.load 51 _) _ _ _ _ :: _) _ _)); refine wpList_load_g (by rfl) 51 _ rfl _ rfl E3.out.load ?_)
                  | (go_at_call 39; refine (KC.out _ FE.out).mono ?_; rintro r w7 ⟨rfl, f7⟩)
                  | ((with_reducible (show wpList _ _ _ (Oper.mk (some 58) (Op.load 26 _) _ _ _ _ :: _) _ _)); refine wpList_load_g (by rfl) 26 _ rfl _ rfl (E5.out.keep0 f7).load ?_)
                  | (go_at_call 18; refine (PC.out _ (FE.out.trans f7 (by simp))).mono ?_; rintro r w8 ⟨rfl, f8⟩; have g8 := f7.trans f8 (by simp)))
                go_ret
                exact ⟨rfl, FE.out.trans g8 (by simp)⟩
          | true =>
            rw [setE_yes hok, setNd_yes hok] at HSET
            go_upto_region 13 with (first
              | (go_at_call 49; refine (HPK.out _).mono ?_; rintro r w5 ⟨rfl, rfl⟩)
              | ((with_reducible (show wpList _ _ _ (Oper.mk _ (Op.load 51 _) _ _ _ _ :: _) _ _)); refine wpList_load_g (by rfl) 51 _ rfl _ rfl D3.out.load ?_)
              | ((with_reducible (show wpList _ _ _ (Oper.mk _ (Op.load 26 _) _ _ _ _ :: _) _ _)); refine wpList_load_g (by rfl) 26 _ rfl _ rfl D5.out.load ?_)
              | (go_at_call 43; refine (HSET.out _ FD.out).mono ?_; rintro r w6 ⟨x10, rfl, ⟨A10, rfl, q10, h10⟩, f6⟩)
              | ((with_reducible (show wpList _ _ _ (Oper.mk _ (Op.alloc 51) _ _ _ _ :: _) _ _)); refine wpList_lay51 rfl rfl rfl (.tmp 10) (.tmp 48) rfl q10.1 q10.rows rfl rfl ?_))
            have b10 : NB (w6.alloc (.cells (nc n.lv A10).toArray 51)) w6.heap.size n.lv A10 := NB.new _ _ q10.1 q10.rows
            have a10 : Frm [] w6 (w6.alloc (.cells (nc n.lv A10).toArray 51)) := (Frm.refl [] _).alloc _
            have f10 := (f6.trans a10 (by simp))
            have p10 := q10.keep0 a10
            generalize (w6.alloc (.cells (nc n.lv A10).toArray 51)) = V at *
            generalize w6.heap.size = g10 at *
            have B10 := Lib.hid b10
            have P10 := Lib.hid p10
            have E3 := Lib.hid (D3.out.keep0 f10)
            have E5 := Lib.hid (D5.out.keep0 f10)
            have FE := Lib.hid (FD.out.trans f10 (by simp))
            have HOK := Lib.hid hok
            clear b10 a10 f6 f10 p10 q10 h10 D3 D5 FD hok
            go_wp2_with fail
            go_loopw [12] (CntRel V) (fun cv _ => 4 - (intOf cv).toNat)
            case atStart => exact ⟨0, by omega, rfl, Frm.refl _ _⟩
            case round =>
              obtain ⟨k, hk, rfl, f⟩ := hrel
              have Fk := Lib.hid f
              clear f
              by_cases hlt : k < 4
              · by_cases hkk : k = kk
                · subst hkk
                  go_upto_region 18 with (fail)
                  refine wp_region_held_drew (S := fun z => Frm [] wr z) (by kernel_rfl) ((Frm.refl [] wr).drew) (fun hHeld => ?_)
                  refine wpAnyH_take (i := 0) (oi := { dst := some 80, op := Op.move (Operand.tmp 12), type := 3, pos := "outright.go:68", after := #[], guard := none }) (v := ?_) rfl (by kernel_rfl) (by kernel_rfl) (by kernel_rfl) (fun _ _ _ h => h) (Or.inl ⟨by rfl, ?_⟩) hHeld ?_
                  rotate_left
                  focus (intro z hSw; clear hSw; go_simp; try with_reducible rfl)
                  try simp only [Act.put, List.setIfInBounds_toArray, List.set_cons_zero, List.set_cons_succ]
                  refine wpAnyH_take (i := 1) (oi := { dst := some 81, op := Op.move (Operand.tmp 1), type := 3, pos := "outright.go:68", after := #[], guard := none }) (v := ?_) rfl (by kernel_rfl) (by kernel_rfl) (by kernel_rfl) (fun _ _ _ h => h) (Or.inl ⟨by rfl, ?_⟩) hHeld ?_
                  rotate_left
                  focus (intro z hSw; clear hSw; go_simp; try with_reducible rfl)
                  try simp only [Act.put, List.setIfInBounds_toArray, List.set_cons_zero, List.set_cons_succ]
                  refine wpAnyH_take (i := 2) (oi := { dst := some 82, op := Op.binOp BinOp.neq 3 (Operand.tmp 80) (Operand.tmp 81) 3, type := 4, pos := "outright.go:68", after := #[{ on := 0, ground := Ground.data }, { on := 1, ground := Ground.data }], guard := none }) (v := ?_) rfl (by kernel_rfl) (by kernel_rfl) (by kernel_rfl) (fun _ _ _ h => h) (Or.inl ⟨by rfl, ?_⟩) hHeld ?_
                  rotate_left
                  focus (intro z hSw; clear hSw; go_simp; try with_reducible rfl)
                  try simp only [Act.put, List.setIfInBounds_toArray, List.set_cons_zero, List.set_cons_succ]
                  refine wpAnyH_take (i := 3) (oi := { dst := some 83, op := Op.move (Operand.tmp 82), type := 4, pos := "outright.go:68", after := #[{ on := 2, ground := Ground.data }], guard := none }) (v := ?_) rfl (by kernel_rfl) (by kernel_rfl) (by kernel_rfl) (fun _ _ _ h => h) (Or.inl ⟨by rfl, ?_⟩) hHeld ?_
                  rotate_left
                  focus (intro z hSw; clear hSw; go_simp; try with_reducible rfl)
                  try simp only [Act.put, List.setIfInBounds_toArray, List.set_cons_zero, List.set_cons_succ]
                  refine wpAnyH_take (i := 4) (oi := { dst := some 84, op := Op.move (Operand.tmp 12), type := 3, pos := "outright.go:68", after := #[{ on := 3, ground := Ground.guard }], guard := some (3, true) }) (v := undef) rfl (by kernel_rfl) (by kernel_rfl) (by kernel_rfl) (fun _ _ _ h => h) (Or.inr ⟨by rfl, rfl⟩) hHeld ?_
                  try simp only [Act.put, List.setIfInBounds_toArray, List.set_cons_zero, List.set_cons_succ]
                  refine wpAnyH_take (i := 5) (oi := { dst := some 85, op := Op.fieldAddr 51 (Operand.tmp 10) 1, type := 0, pos := "outright.go:68", after := #[{ on := 3, ground := Ground.guard }], guard := some (3, true) }) (v := undef) rfl (by kernel_rfl) (by kernel_rfl) (by kernel_rfl) (fun _ _ _ h => h) (Or.inr ⟨by rfl, rfl⟩) hHeld ?_
                  try simp only [Act.put, List.setIfInBounds_toArray, List.set_cons_zero, List.set_cons_succ]
                  refine wpAnyH_take (i := 6) (oi := { dst := some 86, op := Op.indexAddr 49 (Operand.tmp 85) (Operand.tmp 84), type := 0, pos := "outright.go:68", after := #[{ on := 5, ground := Ground.data }, { on := 4, ground := Ground.data }, { on := 3, ground := Ground.guard }], guard := some (3, true) }) (v := undef) rfl (by kernel_rfl) (by kernel_rfl) (by kernel_rfl) (fun _ _ _ h => h) (Or.inr ⟨by rfl, rfl⟩) hHeld ?_
                  try simp only [Act.put, List.setIfInBounds_toArray, List.set_cons_zero, List.set_cons_succ]
                  refine wpAnyH_take (i := 7) (oi := { dst := some 87, op := Op.load 26 (Operand.tmp 86), type := 26, pos := "outright.go:68", after := #[{ on := 6, ground := Ground.data }, { on := 3, ground := Ground.guard }], guard := some (3, true) }) (v := undef) rfl (by kernel_rfl) (by kernel_rfl) (by kernel_rfl) (fun _ _ _ h => h) (Or.inr ⟨by rfl, rfl⟩) hHeld ?_
                  try simp only [Act.put, List.setIfInBounds_toArray, List.set_cons_zero, List.set_cons_succ]
                  refine wpAnyH_take (i := 8) (oi := { dst := some 88, op := Op.move (Operand.tmp 12), type := 3, pos := "outright.go:68", after := #[{ on := 3, ground := Ground.guard }], guard := some (3, true) }) (v := undef) rfl (by kernel_rfl) (by kernel_rfl) (by kernel_rfl) (fun _ _ _ h => h) (Or.inr ⟨by rfl, rfl⟩) hHeld ?_
                  try simp only [Act.put, List.setIfInBounds_toArray, List.set_cons_zero, List.set_cons_succ]
                  refine wpAnyH_take (i := 9) (oi := { dst := some 89, op := Op.fieldAddr 51 (Operand.tmp 3) 1, type := 0, pos := "outright.go:68", after := #[{ on := 3, ground := Ground.guard }], guard := some (3, true) }) (v := undef) rfl (by kernel_rfl) (by kernel_rfl) (by kernel_rfl) (fun _ _ _ h => h) (Or.inr ⟨by rfl, rfl⟩) hHeld ?_
                  try simp only [Act.put, List.setIfInBounds_toArray, List.set_cons_zero, List.set_cons_succ]
                  refine wpAnyH_take (i := 10) (oi := { dst := some 90, op := Op.indexAddr 49 (Operand.tmp 89) (Operand.tmp 88), type := 0, pos := "outright.go:68", after := #[{ on := 9, ground := Ground.data }, { on := 8, ground := Ground.data }, { on := 3, ground := Ground.guard }], guard := some (3, true) }) (v := undef) rfl (by kernel_rfl) (by kernel_rfl) (by kernel_rfl) (fun _ _ _ h => h) (Or.inr ⟨by rfl, rfl⟩) hHeld ?_
                  try simp only [Act.put, List.setIfInBounds_toArray, List.set_cons_zero, List.set_cons_succ]
                  refine wpAnyH_take (i := 11) (oi := { dst := some 91, op := Op.load 26 (Operand.tmp 90), type := 26, pos := "outright.go:68", after := #[{ on := 10, ground := Ground.data }, { on := 3, ground := Ground.guard }], guard := some (3, true) }) (v := undef) rfl (by kernel_rfl) (by kernel_rfl) (by kernel_rfl) (fun _ _ _ h => h) (Or.inr ⟨by rfl, rfl⟩) hHeld ?_
                  try simp only [Act.put, List.setIfInBounds_toArray, List.set_cons_zero, List.set_cons_succ]
                  refine wpAnyH_take (i := 12) (oi := { dst := some 92, op := Op.call { callee := Callee.value (Operand.func 27), args := #[Operand.tmp 87, Operand.tmp 91], argTypes := #[26, 26] }, type := 4, pos := "outright.go:68", after := #[{ on := 7, ground := Ground.data }, { on := 11, ground := Ground.data }, { on := 3, ground := Ground.chain }, { on := 3, ground := Ground.guard }], guard := some (3, true) }) (v := undef) rfl (by kernel_rfl) (by kernel_rfl) (by kernel_rfl) (fun _ _ _ h => h) (Or.inr ⟨by rfl, rfl⟩) hHeld ?_
                  try simp only [Act.put, List.setIfInBounds_toArray, List.set_cons_zero, List.set_cons_succ]
                  refine wpAnyH_take (i := 13) (oi := { dst := some 93, op := Op.unOp UnOp.not 4 (Operand.tmp 92), type := 4, pos := "outright.go:68", after := #[{ on := 12, ground := Ground.data }, { on := 3, ground := Ground.guard }], guard := some (3, true) }) (v := undef) rfl (by kernel_rfl) (by kernel_rfl) (by kernel_rfl) (fun _ _ _ h => h) (Or.inr ⟨by rfl, rfl⟩) hHeld ?_
                  try simp only [Act.put, List.setIfInBounds_toArray, List.set_cons_zero, List.set_cons_succ]
                  refine wpAnyH_take (i := 14) (oi := { dst := some 94, op := Op.pick (Operand.tmp 83) (Operand.tmp 93) (Operand.const (Value.bool false)), type := 4, pos := "outright.go:68", after := #[{ on := 3, ground := Ground.data }, { on := 13, ground := Ground.data }], guard := none }) (v := ?_) rfl (by kernel_rfl) (by kernel_rfl) (by kernel_rfl) (fun _ _ _ h => h) (Or.inl ⟨by rfl, ?_⟩) hHeld ?_
                  rotate_left
                  focus (intro z hSw; clear hSw; go_simp; try with_reducible rfl)
                  try simp only [Act.put, List.setIfInBounds_toArray, List.set_cons_zero, List.set_cons_succ]
                  refine wpAnyH_done (by kernel_rfl) ?_ _
                  go_wp2_with fail
                  go_roundw
                  case rel => exact ⟨k + 1, by omega, by go_num, Fk.out.trans hHeld (by simp)⟩
                  case measure => simp [intOf]; omega
                · have hbne : ((k : Int) != (kk : Int)) = true := by simp; omega
                  obtain ⟨A1, q1, hA1, hq1, hv1⟩ := HPS.out.get hlt
                  obtain ⟨A2, q2, hA2, hq2, hv2⟩ := P10.out.get hlt
                  have hq2' : n.ps[k]? = some q2 := by
                    have := hq2
                    simp only [List.getElem?_set] at this
                    rw [if_neg (by omega)] at this
                    exact this
                  rw [hq1] at hq2'
                  cases hq2'
                  have hpl := HADS.out q1 (List.mem_of_getElem? hq1)
                  have HM := Lib.hid (fun W (f : Frm [] w W) (f' : Frm [] V W) => SamePointer_any (.agg A2) (.agg A1) q1 q1 W (hv2.keep0 f') (hv1.keep0 f) hpl)
                  rw [same_refl] at HM
                  have LA := Lib.hid hA1
                  have LB := Lib.hid hA2
                  clear hA1 hA2 hq1 hq2 hv1 hv2 hpl
                  go_upto_region 18 with (fail)
                  refine wp_region_held_drew (S := fun z => Frm [] wr z) (by kernel_rfl) ((Frm.refl [] wr).drew) (fun hHeld => ?_)
                  refine wpAnyH_take (i := 0) (oi := { dst := some 80, op := Op.move (Operand.tmp 12), type := 3, pos := "outright.go:68", after := #[], guard := none }) (v := ?_) rfl (by kernel_rfl) (by kernel_rfl) (by kernel_rfl) (fun _ _ _ h => h) (Or.inl ⟨by rfl, ?_⟩) hHeld ?_
                  rotate_left
                  focus (intro z hSw; clear hSw; go_simp; try with_reducible rfl)
                  try simp only [Act.put, List.setIfInBounds_toArray, List.set_cons_zero, List.set_cons_succ]
                  refine wpAnyH_take (i := 1) (oi := { dst := some 81, op := Op.move (Operand.tmp 1), type := 3, pos := "outright.go:68", after := #[], guard := none }) (v := ?_) rfl (by kernel_rfl) (by kernel_rfl) (by kernel_rfl) (fun _ _ _ h => h) (Or.inl ⟨by rfl, ?_⟩) hHeld ?_
                  rotate_left
                  focus (intro z hSw; clear hSw; go_simp; try with_reducible rfl)
                  try simp only [Act.put, List.setIfInBounds_toArray, List.set_cons_zero, List.set_cons_succ]
                  refine wpAnyH_take (i := 2) (oi := { dst := some 82, op := Op.binOp BinOp.neq 3 (Operand.tmp 80) (Operand.tmp 81) 3, type := 4, pos := "outright.go:68", after := #[{ on := 0, ground := Ground.data }, { on := 1, ground := Ground.data }], guard := none }) (v := ?_) rfl (by kernel_rfl) (by kernel_rfl) (by kernel_rfl) (fun _ _ _ h => h) (Or.inl ⟨by rfl, ?_⟩) hHeld ?_
                  rotate_left
                  focus (intro z hSw; clear hSw; go_simp; try with_reducible rfl)
                  try simp only [Act.put, List.setIfInBounds_toArray, List.set_cons_zero, List.set_cons_succ]
                  refine wpAnyH_take (i := 3) (oi := { dst := some 83, op := Op.move (Operand.tmp 82), type := 4, pos := "outright.go:68", after := #[{ on := 2, ground := Ground.data }], guard := none }) (v := ?_) rfl (by kernel_rfl) (by kernel_rfl) (by kernel_rfl) (fun _ _ _ h => h) (Or.inl ⟨by rfl, ?_⟩) hHeld ?_
                  rotate_left
                  focus (intro z hSw; clear hSw; go_simp; try with_reducible rfl)
                  try simp only [Act.put, List.setIfInBounds_toArray, List.set_cons_zero, List.set_cons_succ]
                  refine wpAnyH_take (i := 4) (oi := { dst := some 84, op := Op.move (Operand.tmp 12), type := 3, pos := "outright.go:68", after := #[{ on := 3, ground := Ground.guard }], guard := some (3, true) }) (v := ?_) rfl (by kernel_rfl) (by kernel_rfl) (by kernel_rfl) (fun _ _ _ h => h) (Or.inl ⟨by rfl, ?_⟩) hHeld ?_
                  rotate_left
                  focus (intro z hSw; clear hSw; go_simp; try with_reducible rfl)
                  try simp only [Act.put, List.setIfInBounds_toArray, List.set_cons_zero, List.set_cons_succ]
                  refine wpAnyH_take (i := 5) (oi := { dst := some 85, op := Op.fieldAddr 51 (Operand.tmp 10) 1, type := 0, pos := "outright.go:68", after := #[{ on := 3, ground := Ground.guard }], guard := some (3, true) }) (v := ?_) rfl (by kernel_rfl) (by kernel_rfl) (by kernel_rfl) (fun _ _ _ h => h) (Or.inl ⟨by rfl, ?_⟩) hHeld ?_
                  rotate_left
                  focus (intro z hSw; clear hSw; go_simp; try with_reducible rfl)
                  try simp only [Act.put, List.setIfInBounds_toArray, List.set_cons_zero, List.set_cons_succ]
                  refine wpAnyH_take (i := 6) (oi := { dst := some 86, op := Op.indexAddr 49 (Operand.tmp 85) (Operand.tmp 84), type := 0, pos := "outright.go:68", after := #[{ on := 5, ground := Ground.data }, { on := 4, ground := Ground.data }, { on := 3, ground := Ground.guard }], guard := some (3, true) }) (v := ?_) rfl (by kernel_rfl) (by kernel_rfl) (by kernel_rfl) (fun _ _ _ h => h) (Or.inl ⟨by rfl, ?_⟩) hHeld ?_
                  rotate_left
                  focus (intro z hSw; clear hSw; go_simp; try with_reducible rfl)
                  try simp only [Act.put, List.setIfInBounds_toArray, List.set_cons_zero, List.set_cons_succ]
                  refine wpAnyH_take (i := 7) (oi := { dst := some 87, op := Op.load 26 (Operand.tmp 86), type := 26, pos := "outright.go:68", after := #[{ on := 6, ground := Ground.data }, { on := 3, ground := Ground.guard }], guard := some (3, true) }) rfl (by kernel_rfl) (by kernel_rfl) (by kernel_rfl) (fun _ _ _ h => h) (yieldsIf_ld (by rfl) 26 _ rfl _ rfl (fun z hSw => ((B10.out.keep0 Fk.out).keep0 hSw).load LB.out)) hHeld ?_
                  try simp only [Act.put, List.setIfInBounds_toArray, List.set_cons_zero, List.set_cons_succ]
                  refine wpAnyH_take (i := 8) (oi := { dst := some 88, op := Op.move (Operand.tmp 12), type := 3, pos := "outright.go:68", after := #[{ on := 3, ground := Ground.guard }], guard := some (3, true) }) (v := ?_) rfl (by kernel_rfl) (by kernel_rfl) (by kernel_rfl) (fun _ _ _ h => h) (Or.inl ⟨by rfl, ?_⟩) hHeld ?_
                  rotate_left
                  focus (intro z hSw; clear hSw; go_simp; try with_reducible rfl)
                  try simp only [Act.put, List.setIfInBounds_toArray, List.set_cons_zero, List.set_cons_succ]
                  refine wpAnyH_take (i := 9) (oi := { dst := some 89, op := Op.fieldAddr 51 (Operand.tmp 3) 1, type := 0, pos := "outright.go:68", after := #[{ on := 3, ground := Ground.guard }], guard := some (3, true) }) (v := ?_) rfl (by kernel_rfl) (by kernel_rfl) (by kernel_rfl) (fun _ _ _ h => h) (Or.inl ⟨by rfl, ?_⟩) hHeld ?_
                  rotate_left
                  focus (intro z hSw; clear hSw; go_simp; try with_reducible rfl)
                  try simp only [Act.put, List.setIfInBounds_toArray, List.set_cons_zero, List.set_cons_succ]
                  refine wpAnyH_take (i := 10) (oi := { dst := some 90, op := Op.indexAddr 49 (Operand.tmp 89) (Operand.tmp 88), type := 0, pos := "outright.go:68", after := #[{ on := 9, ground := Ground.data }, { on := 8, ground := Ground.data }, { on := 3, ground := Ground.guard }], guard := some (3, true) }) (v := ?_) rfl (by kernel_rfl) (by kernel_rfl) (by kernel_rfl) (fun _ _ _ h => h) (Or.inl ⟨by rfl, ?_⟩) hHeld ?_
                  rotate_left
                  focus (intro z hSw; clear hSw; go_simp; try with_reducible rfl)
                  try simp only [Act.put, List.setIfInBounds_toArray, List.set_cons_zero, List.set_cons_succ]
                  refine wpAnyH_take (i := 11) (oi := { dst := some 91, op := Op.load 26 (Operand.tmp 90), type := 26, pos := "outright.go:68", after := #[{ on := 10, ground := Ground.data }, { on := 3, ground := Ground.guard }], guard := some (3, true) }) rfl (by kernel_rfl) (by kernel_rfl) (by kernel_rfl) (fun _ _ _ h => h) (yieldsIf_ld (by rfl) 26 _ rfl _ rfl (fun z hSw => ((E3.out.keep0 Fk.out).keep0 hSw).2.load LA.out)) hHeld ?_
                  try simp only [Act.put, List.setIfInBounds_toArray, List.set_cons_zero, List.set_cons_succ]
                  refine wpAnyH_ready (rs := [12]) (by kernel_rfl) (by simp) ?_
                  refine AllReadyH.cons (o := { dst := some 92, op := Op.call { callee := Callee.value (Operand.func 27), args := #[Operand.tmp 87, Operand.tmp 91], argTypes := #[26, 26] }, type := 4, pos := "outright.go:68", after := #[{ on := 7, ground := Ground.data }, { on := 11, ground := Ground.data }, { on := 3, ground := Ground.chain }, { on := 3, ground := Ground.guard }], guard := some (3, true) }) rfl (fun K hK => ?_) AllReadyH.nil
                  go_simp
                  refine (HM.out _ ((FE.out.trans Fk.out (by simp)).trans hHeld (by simp)) (Fk.out.trans hHeld (by simp))).mono ?_
                  rintro r wn ⟨rfl, fn⟩
                  refine hK.out _ _ ?_ (fun hNext => ?_)
                  · exact hHeld.trans fn (by simp)
                  clear hK K hHeld
                  have hHeld := hNext
                  clear hNext
                  try simp only [Act.put, List.setIfInBounds_toArray, List.set_cons_zero, List.set_cons_succ]
                  refine wpAnyH_take (i := 13) (oi := { dst := some 93, op := Op.unOp UnOp.not 4 (Operand.tmp 92), type := 4, pos := "outright.go:68", after := #[{ on := 12, ground := Ground.data }, { on := 3, ground := Ground.guard }], guard := some (3, true) }) (v := ?_) rfl (by kernel_rfl) (by kernel_rfl) (by kernel_rfl) (fun _ _ _ h => h) (Or.inl ⟨by rfl, ?_⟩) hHeld ?_
                  rotate_left
                  focus (intro z hSw; clear hSw; go_simp; try with_reducible rfl)
                  try simp only [Act.put, List.setIfInBounds_toArray, List.set_cons_zero, List.set_cons_succ]
                  refine wpAnyH_take (i := 14) (oi := { dst := some 94, op := Op.pick (Operand.tmp 83) (Operand.tmp 93) (Operand.const (Value.bool false)), type := 4, pos := "outright.go:68", after := #[{ on := 3, ground := Ground.data }, { on := 13, ground := Ground.data }], guard := none }) (v := ?_) rfl (by kernel_rfl) (by kernel_rfl) (by kernel_rfl) (fun _ _ _ h => h) (Or.inl ⟨by rfl, ?_⟩) hHeld ?_
                  rotate_left
                  focus (intro z hSw; clear hSw; go_simp; try with_reducible rfl)
                  try simp only [Act.put, List.setIfInBounds_toArray, List.set_cons_zero, List.set_cons_succ]
                  refine wpAnyH_done (by kernel_rfl) ?_ _
                  go_wp2_with fail
                  go_roundw
                  case rel => exact ⟨k + 1, by omega, by go_num, Fk.out.trans hHeld (by simp)⟩
                  case measure => simp [intOf]; omega
              · obtain rfl : k = 4 := by omega
                obtain ⟨A1, q1, hA1, hq1, hv1⟩ := HPS.out.get hlt4
                have hql := HADS.out q1 (List.mem_of_getElem? hq1)
                have HMA := Lib.hid (show ∀ q ∈ (Nd.mk n.lv (n.ps.set kk p)).ps, q.ads.length ≤ 1000000 from fun q hq => by
                  rcases List.mem_or_eq_of_mem_set hq with h | h
                  · exact HADS.out q h
                  · subst h; exact HPL.out)
                have HSB := Lib.hid (fun W v (h : NdV W v ⟨n.lv, n.ps.set kk p⟩) (f : Frm [] w W) => Set_any v ⟨n.lv, n.ps.set kk p⟩ kk (.agg A1) q1 W h HMA.out (hv1.keep0 f) hql)
                unfold SetP at HSB
                rw [setE_back hlt4 HOK.out hq1, setNd_back hlt4 HOK.out hq1] at HSB
                have HV10 := Lib.hid (fun W (f : Frm [] V W) => show NdV W (.agg (nc n.lv A10).toArray) ⟨n.lv, n.ps.set kk p⟩ from ⟨A10, rfl, P10.out.keep0 f⟩)
                have LA := Lib.hid hA1
                clear hA1 hq1 hv1 hql HSET
                go_upto_region 20 with (fail)
                refine wp_region_held_drew (S := fun z => Frm [] wr z) (by kernel_rfl) ((Frm.refl [] wr).drew) (fun hHeld => ?_)
                refine wpAnyH_take (i := 0) (oi := { dst := some 96, op := Op.load 51 (Operand.tmp 10), type := 51, pos := "outright.go:72", after := #[], guard := none }) rfl (by kernel_rfl) (by kernel_rfl) (by kernel_rfl) (fun _ _ _ h => h) (yieldsIf_ld (by rfl) 51 _ rfl _ rfl (fun z hSw => ((B10.out.keep0 Fk.out).keep0 hSw).all)) hHeld ?_
                try simp only [Act.put, List.setIfInBounds_toArray, List.set_cons_zero, List.set_cons_succ]
                refine wpAnyH_take (i := 1) (oi := { dst := some 97, op := Op.move (Operand.tmp 1), type := 3, pos := "outright.go:72", after := #[], guard := none }) (v := ?_) rfl (by kernel_rfl) (by kernel_rfl) (by kernel_rfl) (fun _ _ _ h => h) (Or.inl ⟨by rfl, ?_⟩) hHeld ?_
                rotate_left
                focus (intro z hSw; clear hSw; go_simp; try with_reducible rfl)
                try simp only [Act.put, List.setIfInBounds_toArray, List.set_cons_zero, List.set_cons_succ]
                refine wpAnyH_take (i := 2) (oi := { dst := some 98, op := Op.move (Operand.tmp 1), type := 3, pos := "outright.go:72", after := #[], guard := none }) (v := ?_) rfl (by kernel_rfl) (by kernel_rfl) (by kernel_rfl) (fun _ _ _ h => h) (Or.inl ⟨by rfl, ?_⟩) hHeld ?_
                rotate_left
                focus (intro z hSw; clear hSw; go_simp; try with_reducible rfl)
                try simp only [Act.put, List.setIfInBounds_toArray, List.set_cons_zero, List.set_cons_succ]
                refine wpAnyH_take (i := 3) (oi := { dst := some 99, op := Op.fieldAddr 51 (Operand.tmp 3) 1, type := 0, pos := "outright.go:72", after := #[], guard := none }) (v := ?_) rfl (by kernel_rfl) (by kernel_rfl) (by kernel_rfl) (fun _ _ _ h => h) (Or.inl ⟨by rfl, ?_⟩) hHeld ?_
                rotate_left
                focus (intro z hSw; clear hSw; go_simp; try with_reducible rfl)
                try simp only [Act.put, List.setIfInBounds_toArray, List.set_cons_zero, List.set_cons_succ]
                refine wpAnyH_take (i := 4) (oi := { dst := some 100, op := Op.indexAddr 49 (Operand.tmp 99) (Operand.tmp 98), type := 0, pos := "outright.go:72", after := #[{ on := 3, ground := Ground.data }, { on := 2, ground := Ground.data }], guard := none }) (v := ?_) rfl (by kernel_rfl) (by kernel_rfl) (by kernel_rfl) (fun _ _ _ h => h) (Or.inl ⟨by rfl, ?_⟩) hHeld ?_
                rotate_left
                focus (intro z hSw; clear hSw; go_simp; try with_reducible rfl)
                try simp only [Act.put, List.setIfInBounds_toArray, List.set_cons_zero, List.set_cons_succ]
                refine wpAnyH_take (i := 5) (oi := { dst := some 101, op := Op.load 26 (Operand.tmp 100), type := 26, pos := "outright.go:72", after := #[{ on := 4, ground := Ground.data }], guard := none }) rfl (by kernel_rfl) (by kernel_rfl) (by kernel_rfl) (fun _ _ _ h => h) (yieldsIf_ld (by rfl) 26 _ rfl _ rfl (fun z hSw => ((E3.out.keep0 Fk.out).keep0 hSw).2.load LA.out)) hHeld ?_
                try simp only [Act.put, List.setIfInBounds_toArray, List.set_cons_zero, List.set_cons_succ]
                refine wpAnyH_ready (rs := [6, 10]) (by kernel_rfl) (by simp) ?_
                refine AllReadyH.cons (o := { dst := some 102, op := Op.call { callee := Callee.value (Operand.func 43), args := #[Operand.tmp 96, Operand.tmp 97, Operand.tmp 101], argTypes := #[51, 3, 26] }, type := 56, pos := "outright.go:72", after := #[{ on := 0, ground := Ground.data }, { on := 1, ground := Ground.data }, { on := 5, ground := Ground.data }], guard := none }) rfl (fun K hK => ?_) ?_
                · go_simp
                  refine (HSB.out _ _ (HV10.out _ (Fk.out.trans hHeld (by simp))) ((FE.out.trans Fk.out (by simp)).trans hHeld (by simp))).mono ?_
                  rintro r wn ⟨x13, rfl, ⟨A13, rfl, q13, h13⟩, fn⟩
                  refine hK.out _ _ ?_ (fun hNext => ?_)
                  · exact hHeld.trans fn (by simp)
                  clear hK K hHeld
                  have hHeld := hNext
                  clear hNext
                  try simp only [Act.put, List.setIfInBounds_toArray, List.set_cons_zero, List.set_cons_succ]
                  refine wpAnyH_take (i := 7) (oi := { dst := some 95, op := Op.move (Operand.tmp 102), type := 56, pos := "outright.go:72", after := #[{ on := 6, ground := Ground.data }], guard := none }) (v := ?_) rfl (by kernel_rfl) (by kernel_rfl) (by kernel_rfl) (fun _ _ _ h => h) (Or.inl ⟨by rfl, ?_⟩) hHeld ?_
                  rotate_left
                  focus (intro z hSw; clear hSw; go_simp; try with_reducible rfl)
                  try simp only [Act.put, List.setIfInBounds_toArray, List.set_cons_zero, List.set_cons_succ]
                  refine wpAnyH_take (i := 8) (oi := { dst := some 103, op := Op.extract (Operand.tmp 95) 0, type := 51, pos := "outright.go:72", after := #[{ on := 7, ground := Ground.data }], guard := none }) (v := ?_) rfl (by kernel_rfl) (by kernel_rfl) (by kernel_rfl) (fun _ _ _ h => h) (Or.inl ⟨by rfl, ?_⟩) hHeld ?_
                  rotate_left
                  focus (intro z hSw; clear hSw; go_simp; try with_reducible rfl)
                  try simp only [Act.put, List.setIfInBounds_toArray, List.set_cons_zero, List.set_cons_succ]
                  refine wpAnyH_take (i := 9) (oi := { dst := some 104, op := Op.extract (Operand.tmp 95) 1, type := 30, pos := "outright.go:72", after := #[{ on := 7, ground := Ground.data }, { on := 11, ground := Ground.gcOnly Departure.lateStores }], guard := none }) (v := ?_) rfl (by kernel_rfl) (by kernel_rfl) (by kernel_rfl) (fun _ _ _ h => h) (Or.inl ⟨by rfl, ?_⟩) hHeld ?_
                  rotate_left
                  focus (intro z hSw; clear hSw; go_simp; try with_reducible rfl)
                  try simp only [Act.put, List.setIfInBounds_toArray, List.set_cons_zero, List.set_cons_succ]
                  refine wpAnyH_ready (rs := [10]) (by kernel_rfl) (by simp) ?_
                  refine AllReadyH.cons (o := { dst := some 13, op := Op.alloc 51, type := 0, pos := "outright.go:72", after := #[], guard := none }) rfl (fun K hK => ?_) ?_
                  · have sz := hHeld.size
                    refine step_alloc51 rfl rfl ?_
                    intro wa ba fa sa
                    refine hK.out _ _ ?_ (fun hNext => ?_)
                    · exact hHeld.trans fa (by simp)
                    clear hK K hHeld
                    have hHeld := hNext
                    clear hNext
                    try simp only [Act.put, List.setIfInBounds_toArray, List.set_cons_zero, List.set_cons_succ]
                    refine wpAnyH_ready (rs := [11]) (by kernel_rfl) (by simp) ?_
                    refine AllReadyH.cons (o := { dst := none, op := Op.store 51 (Operand.tmp 13) (Operand.tmp 103), type := 0, pos := "outright.go:72", after := #[{ on := 10, ground := Ground.data }, { on := 8, ground := Ground.data }, { on := 6, ground := Ground.chain }, { on := 0, ground := Ground.phase }, { on := 1, ground := Ground.phase }, { on := 2, ground := Ground.phase }, { on := 3, ground := Ground.phase }, { on := 4, ground := Ground.phase }, { on := 5, ground := Ground.phase }, { on := 6, ground := Ground.phase }, { on := 7, ground := Ground.phase }, { on := 8, ground := Ground.phase }, { on := 9, ground := Ground.textOnly Departure.lateStores }, { on := 10, ground := Ground.phase }], guard := none }) rfl (fun K hK => ?_) ?_
                    · refine step_store51 rfl (.tmp 13) (.tmp 103) rfl ba q13.1 q13.rows rfl rfl ?_
                      intro ws bs fs
                      refine hK.out _ _ ?_ (fun hNext => ?_)
                      · exact hHeld.trans fs (fun i hi => .inr (by have h := List.mem_singleton.1 hi; omega))
                      clear hK K hHeld
                      have hHeld := hNext
                      clear hNext
                      try simp only [Act.put, List.setIfInBounds_toArray, List.set_cons_zero, List.set_cons_succ]
                      refine wpAnyH_take (i := 12) (oi := { dst := some 14, op := Op.assign (Operand.tmp 104), type := 30, pos := "outright.go:72", after := #[{ on := 9, ground := Ground.data }, { on := 11, ground := Ground.chain }, { on := 0, ground := Ground.phase }, { on := 1, ground := Ground.phase }, { on := 2, ground := Ground.phase }, { on := 3, ground := Ground.phase }, { on := 4, ground := Ground.phase }, { on := 5, ground := Ground.phase }, { on := 6, ground := Ground.phase }, { on := 7, ground := Ground.phase }, { on := 8, ground := Ground.phase }, { on := 9, ground := Ground.phase }, { on := 10, ground := Ground.phase }, { on := 11, ground := Ground.phase }], guard := none }) (v := ?_) rfl (by kernel_rfl) (by kernel_rfl) (by kernel_rfl) (fun _ _ _ h => h) (Or.inl ⟨by rfl, ?_⟩) hHeld ?_
                      rotate_left
                      focus (intro z hSw; clear hSw; go_simp; try with_reducible rfl)
                      try simp only [Act.put, List.setIfInBounds_toArray, List.set_cons_zero, List.set_cons_succ]
                      refine wpAnyH_done (by kernel_rfl) ?_ _
                      have hv : PtsV ws A13 n.ps := by first | exact q13.keep0 (fa.trans fs (fun i hi => .inr (by have h := List.mem_singleton.1 hi; omega))) | exact q13.keep fs (fun B hB i hi h => by have h1 := NdO.all q13 h13 B hB i hi; have h2 := List.mem_singleton.1 h; omega)
                      have V13 := Lib.hid (show NdV ws (.agg (nc n.lv A13).toArray) n from ⟨A13, rfl, hv⟩)
                      have B13 := Lib.hid bs
                      have FV := Lib.hid (Fk.out.trans hHeld (by simp))
                      have FW := Lib.hid (FE.out.trans FV.out (by simp))
                      clear hv bs fs fa fn q13 h13 sz sa ba hHeld
                      have W10 := Lib.hid (B10.out.keep0 FV.out)
                      have W3 := Lib.hid (E3.out.keep0 FV.out)
                      have W5 := Lib.hid (E5.out.keep0 FV.out)
                      obtain ⟨Ak, pk, hAk, hpk, hvk⟩ := P10.out.get hlt4
                      rw [List.getElem?_set_self (by have := HPS.out.2.1; omega)] at hpk
                      cases hpk
                      have LK := Lib.hid hAk
                      have SP := Lib.hid (fun W (f : Frm [] w W) (f2 : Frm [] V W) => SamePointer_any (.agg Ak) (.agg A) p p W (hvk.keep0 f2) (HPV.out.keep0 f) HPL.out)
                      rw [same_refl] at SP
                      have NK := Lib.hid (fun W (f2 : Frm [] V W) => nodeCheck_any (.agg (nc n.lv A10).toArray) ⟨n.lv, n.ps.set kk p⟩ W (HV10.out W f2) HMA.out)
                      rw [nchk_set HOK.out] at NK
                      have SN := Lib.hid (fun W (f : Frm [] w W) (f3 : Frm [] ws W) => SameNode_true (.agg (nc n.lv A13).toArray) (.agg N) n W (V13.out.keep0 f3) (HNV.out.keep0 f) HADS.out)
                      clear hAk hvk
                      go_upto_region 21 with (fail)
                      refine wp_region_held_drew (S := fun z => Frm [] ws z) (by kernel_rfl) ((Frm.refl [] ws).drew) (fun hHeld => ?_)
                      refine wpAnyH_take (i := 0) (oi := { dst := some 105, op := Op.move (Operand.tmp 7), type := 4, pos := "outright.go:73", after := #[], guard := none }) (v := ?_) rfl (by kernel_rfl) (by kernel_rfl) (by kernel_rfl) (fun _ _ _ h => h) (Or.inl ⟨by rfl, ?_⟩) hHeld ?_
                      rotate_left
                      focus (intro z hSw; clear hSw; go_simp; try with_reducible rfl)
                      try simp only [Act.put, List.setIfInBounds_toArray, List.set_cons_zero, List.set_cons_succ]
                      refine wpAnyH_take (i := 1) (oi := { dst := some 106, op := Op.move (Operand.tmp 105), type := 4, pos := "outright.go:73", after := #[{ on := 0, ground := Ground.data }], guard := none }) (v := ?_) rfl (by kernel_rfl) (by kernel_rfl) (by kernel_rfl) (fun _ _ _ h => h) (Or.inl ⟨by rfl, ?_⟩) hHeld ?_
                      rotate_left
                      focus (intro z hSw; clear hSw; go_simp; try with_reducible rfl)
                      try simp only [Act.put, List.setIfInBounds_toArray, List.set_cons_zero, List.set_cons_succ]
                      refine wpAnyH_take (i := 2) (oi := { dst := some 107, op := Op.move (Operand.tmp 1), type := 3, pos := "outright.go:73", after := #[{ on := 1, ground := Ground.guard }], guard := some (1, true) }) (v := ?_) rfl (by kernel_rfl) (by kernel_rfl) (by kernel_rfl) (fun _ _ _ h => h) (Or.inl ⟨by rfl, ?_⟩) hHeld ?_
                      rotate_left
                      focus (intro z hSw; clear hSw; go_simp; try with_reducible rfl)
                      try simp only [Act.put, List.setIfInBounds_toArray, List.set_cons_zero, List.set_cons_succ]
                      refine wpAnyH_take (i := 3) (oi := { dst := some 108, op := Op.fieldAddr 51 (Operand.tmp 10) 1, type := 0, pos := "outright.go:73", after := #[{ on := 1, ground := Ground.guard }], guard := some (1, true) }) (v := ?_) rfl (by kernel_rfl) (by kernel_rfl) (by kernel_rfl) (fun _ _ _ h => h) (Or.inl ⟨by rfl, ?_⟩) hHeld ?_
                      rotate_left
                      focus (intro z hSw; clear hSw; go_simp; try with_reducible rfl)
                      try simp only [Act.put, List.setIfInBounds_toArray, List.set_cons_zero, List.set_cons_succ]
                      refine wpAnyH_take (i := 4) (oi := { dst := some 109, op := Op.indexAddr 49 (Operand.tmp 108) (Operand.tmp 107), type := 0, pos := "outright.go:73", after := #[{ on := 3, ground := Ground.data }, { on := 2, ground := Ground.data }, { on := 1, ground := Ground.guard }], guard := some (1, true) }) (v := ?_) rfl (by kernel_rfl) (by kernel_rfl) (by kernel_rfl) (fun _ _ _ h => h) (Or.inl ⟨by rfl, ?_⟩) hHeld ?_
                      rotate_left
                      focus (intro z hSw; clear hSw; go_simp; try with_reducible rfl)
                      try simp only [Act.put, List.setIfInBounds_toArray, List.set_cons_zero, List.set_cons_succ]
                      refine wpAnyH_take (i := 5) (oi := { dst := some 110, op := Op.load 26 (Operand.tmp 109), type := 26, pos := "outright.go:73", after := #[{ on := 4, ground := Ground.data }, { on := 1, ground := Ground.guard }], guard := some (1, true) }) rfl (by kernel_rfl) (by kernel_rfl) (by kernel_rfl) (fun _ _ _ h => h) (yieldsIf_ld (by rfl) 26 _ rfl _ rfl (fun z hSw => (W10.out.keep0 hSw).load LK.out)) hHeld ?_
                      try simp only [Act.put, List.setIfInBounds_toArray, List.set_cons_zero, List.set_cons_succ]
                      refine wpAnyH_take (i := 6) (oi := { dst := some 111, op := Op.load 26 (Operand.tmp 5), type := 26, pos := "outright.go:73", after := #[{ on := 1, ground := Ground.guard }], guard := some (1, true) }) rfl (by kernel_rfl) (by kernel_rfl) (by kernel_rfl) (fun _ _ _ h => h) (yieldsIf_ld (by rfl) 26 _ rfl _ rfl (fun z hSw => (W5.out.keep0 hSw).load)) hHeld ?_
                      try simp only [Act.put, List.setIfInBounds_toArray, List.set_cons_zero, List.set_cons_succ]
                      refine wpAnyH_ready (rs := [7]) (by kernel_rfl) (by simp) ?_
                      refine AllReadyH.cons (o := { dst := some 112, op := Op.call { callee := Callee.value (Operand.func 27), args := #[Operand.tmp 110, Operand.tmp 111], argTypes := #[26, 26] }, type := 4, pos := "outright.go:73", after := #[{ on := 5, ground := Ground.data }, { on := 6, ground := Ground.data }, { on := 1, ground := Ground.chain }, { on := 1, ground := Ground.guard }], guard := some (1, true) }) rfl (fun K hK => ?_) AllReadyH.nil
                      go_simp
                      refine (SP.out _ (FW.out.trans hHeld (by simp)) (FV.out.trans hHeld (by simp))).mono ?_
                      rintro r wn ⟨rfl, fn⟩
                      refine hK.out _ _ ?_ (fun hNext => ?_)
                      · exact hHeld.trans fn (by simp)
                      clear hK K hHeld
                      have hHeld := hNext
                      clear hNext
                      try simp only [Act.put, List.setIfInBounds_toArray, List.set_cons_zero, List.set_cons_succ]
                      refine wpAnyH_take (i := 8) (oi := { dst := some 113, op := Op.pick (Operand.tmp 106) (Operand.tmp 112) (Operand.const (Value.bool false)), type := 4, pos := "outright.go:73", after := #[{ on := 1, ground := Ground.data }, { on := 7, ground := Ground.data }], guard := none }) (v := ?_) rfl (by kernel_rfl) (by kernel_rfl) (by kernel_rfl) (fun _ _ _ h => h) (Or.inl ⟨by rfl, ?_⟩) hHeld ?_
                      rotate_left
                      focus (intro z hSw; clear hSw; go_simp; try with_reducible rfl)
                      try simp only [Act.put, List.setIfInBounds_toArray, List.set_cons_zero, List.set_cons_succ]
                      refine wpAnyH_take (i := 9) (oi := { dst := some 114, op := Op.move (Operand.tmp 113), type := 4, pos := "outright.go:73", after := #[{ on := 8, ground := Ground.data }, { on := 7, ground := Ground.chain }], guard := none }) (v := ?_) rfl (by kernel_rfl) (by kernel_rfl) (by kernel_rfl) (fun _ _ _ h => h) (Or.inl ⟨by rfl, ?_⟩) hHeld ?_
                      rotate_left
                      focus (intro z hSw; clear hSw; go_simp; try with_reducible rfl)
                      try simp only [Act.put, List.setIfInBounds_toArray, List.set_cons_zero, List.set_cons_succ]
                      refine wpAnyH_take (i := 10) (oi := { dst := some 115, op := Op.fieldAddr 51 (Operand.tmp 10) 0, type := 0, pos := "outright.go:73", after := #[{ on := 9, ground := Ground.guard }], guard := some (9, true) }) (v := ?_) rfl (by kernel_rfl) (by kernel_rfl) (by kernel_rfl) (fun _ _ _ h => h) (Or.inl ⟨by rfl, ?_⟩) hHeld ?_
                      rotate_left
                      focus (intro z hSw; clear hSw; go_simp; try with_reducible rfl)
                      try simp only [Act.put, List.setIfInBounds_toArray, List.set_cons_zero, List.set_cons_succ]
                      refine wpAnyH_take (i := 11) (oi := { dst := some 116, op := Op.load 3 (Operand.tmp 115), type := 3, pos := "outright.go:73", after := #[{ on := 10, ground := Ground.data }, { on := 9, ground := Ground.guard }], guard := some (9, true) }) (v := ?_) rfl (by kernel_rfl) (by kernel_rfl) (by kernel_rfl) (fun _ _ _ h => h) (Or.inl ⟨by rfl, ?_⟩) hHeld ?_
                      rotate_left
                      focus (intro z hSw; have cl := (W10.out.keep0 hSw).lev; have cn := (W3.out.keep0 hSw).2.lev; clear hSw; go_simp; try with_reducible rfl)
                      try simp only [Act.put, List.setIfInBounds_toArray, List.set_cons_zero, List.set_cons_succ]
                      refine wpAnyH_take (i := 12) (oi := { dst := some 117, op := Op.fieldAddr 51 (Operand.tmp 3) 0, type := 0, pos := "outright.go:73", after := #[{ on := 9, ground := Ground.guard }], guard := some (9, true) }) (v := ?_) rfl (by kernel_rfl) (by kernel_rfl) (by kernel_rfl) (fun _ _ _ h => h) (Or.inl ⟨by rfl, ?_⟩) hHeld ?_
                      rotate_left
                      focus (intro z hSw; clear hSw; go_simp; try with_reducible rfl)
                      try simp only [Act.put, List.setIfInBounds_toArray, List.set_cons_zero, List.set_cons_succ]
                      refine wpAnyH_take (i := 13) (oi := { dst := some 118, op := Op.load 3 (Operand.tmp 117), type := 3, pos := "outright.go:73", after := #[{ on := 12, ground := Ground.data }, { on := 9, ground := Ground.guard }], guard := some (9, true) }) (v := ?_) rfl (by kernel_rfl) (by kernel_rfl) (by kernel_rfl) (fun _ _ _ h => h) (Or.inl ⟨by rfl, ?_⟩) hHeld ?_
                      rotate_left
                      focus (intro z hSw; have cl := (W10.out.keep0 hSw).lev; have cn := (W3.out.keep0 hSw).2.lev; clear hSw; go_simp; try with_reducible rfl)
                      try simp only [Act.put, List.setIfInBounds_toArray, List.set_cons_zero, List.set_cons_succ]
                      refine wpAnyH_take (i := 14) (oi := { dst := some 119, op := Op.binOp BinOp.eql 3 (Operand.tmp 116) (Operand.tmp 118) 3, type := 4, pos := "outright.go:73", after := #[{ on := 11, ground := Ground.data }, { on := 13, ground := Ground.data }, { on := 9, ground := Ground.guard }], guard := some (9, true) }) (v := ?_) rfl (by kernel_rfl) (by kernel_rfl) (by kernel_rfl) (fun _ _ _ h => h) (Or.inl ⟨by rfl, ?_⟩) hHeld ?_
                      rotate_left
                      focus (intro z hSw; clear hSw; go_simp; try with_reducible rfl)
                      try simp only [Act.put, List.setIfInBounds_toArray, List.set_cons_zero, List.set_cons_succ]
                      refine wpAnyH_take (i := 15) (oi := { dst := some 120, op := Op.pick (Operand.tmp 114) (Operand.tmp 119) (Operand.const (Value.bool false)), type := 4, pos := "outright.go:73", after := #[{ on := 9, ground := Ground.data }, { on := 14, ground := Ground.data }], guard := none }) (v := ?_) rfl (by kernel_rfl) (by kernel_rfl) (by kernel_rfl) (fun _ _ _ h => h) (Or.inl ⟨by rfl, ?_⟩) hHeld ?_
                      rotate_left
                      focus (intro z hSw; clear hSw; go_simp; try with_reducible rfl)
                      try simp only [Act.put, List.setIfInBounds_toArray, List.set_cons_zero, List.set_cons_succ]
                      refine wpAnyH_take (i := 16) (oi := { dst := some 121, op := Op.move (Operand.tmp 120), type := 4, pos := "outright.go:73", after := #[{ on := 15, ground := Ground.data }, { on := 9, ground := Ground.chain }], guard := none }) (v := ?_) rfl (by kernel_rfl) (by kernel_rfl) (by kernel_rfl) (fun _ _ _ h => h) (Or.inl ⟨by rfl, ?_⟩) hHeld ?_
                      rotate_left
                      focus (intro z hSw; clear hSw; go_simp; try with_reducible rfl)
                      try simp only [Act.put, List.setIfInBounds_toArray, List.set_cons_zero, List.set_cons_succ]
                      refine wpAnyH_take (i := 17) (oi := { dst := some 122, op := Op.load 51 (Operand.tmp 10), type := 51, pos := "outright.go:73", after := #[{ on := 16, ground := Ground.guard }], guard := some (16, true) }) rfl (by kernel_rfl) (by kernel_rfl) (by kernel_rfl) (fun _ _ _ h => h) (yieldsIf_ld (by rfl) 51 _ rfl _ rfl (fun z hSw => (W10.out.keep0 hSw).all)) hHeld ?_
                      try simp only [Act.put, List.setIfInBounds_toArray, List.set_cons_zero, List.set_cons_succ]
                      refine wpAnyH_ready (rs := [18]) (by kernel_rfl) (by simp) ?_
                      refine AllReadyH.cons (o := { dst := some 123, op := Op.call { callee := Callee.value (Operand.func 39), args := #[Operand.tmp 122], argTypes := #[51] }, type := 30, pos := "outright.go:73", after := #[{ on := 17, ground := Ground.data }, { on := 16, ground := Ground.chain }, { on := 16, ground := Ground.guard }], guard := some (16, true) }) rfl (fun K hK => ?_) AllReadyH.nil
                      go_simp
                      refine (NK.out _ (FV.out.trans hHeld (by simp))).mono ?_
                      rintro r wn ⟨rfl, fn⟩
                      refine hK.out _ _ ?_ (fun hNext => ?_)
                      · exact hHeld.trans fn (by simp)
                      clear hK K hHeld
                      have hHeld := hNext
                      clear hNext
                      try simp only [Act.put, List.setIfInBounds_toArray, List.set_cons_zero, List.set_cons_succ]
                      refine wpAnyH_take (i := 19) (oi := { dst := some 124, op := Op.binOp BinOp.eql 30 (Operand.tmp 123) (Operand.const (Value.int IntKind.i64 0)) 30, type := 4, pos := "outright.go:73", after := #[{ on := 18, ground := Ground.data }, { on := 16, ground := Ground.guard }], guard := some (16, true) }) (v := ?_) rfl (by kernel_rfl) (by kernel_rfl) (by kernel_rfl) (fun _ _ _ h => h) (Or.inl ⟨by rfl, ?_⟩) hHeld ?_
                      rotate_left
                      focus (intro z hSw; clear hSw; go_simp; try with_reducible rfl)
                      try simp only [Act.put, List.setIfInBounds_toArray, List.set_cons_zero, List.set_cons_succ]
                      refine wpAnyH_take (i := 20) (oi := { dst := some 125, op := Op.pick (Operand.tmp 121) (Operand.tmp 124) (Operand.const (Value.bool false)), type := 4, pos := "outright.go:73", after := #[{ on := 16, ground := Ground.data }, { on := 19, ground := Ground.data }], guard := none }) (v := ?_) rfl (by kernel_rfl) (by kernel_rfl) (by kernel_rfl) (fun _ _ _ h => h) (Or.inl ⟨by rfl, ?_⟩) hHeld ?_
                      rotate_left
                      focus (intro z hSw; clear hSw; go_simp; try with_reducible rfl)
                      try simp only [Act.put, List.setIfInBounds_toArray, List.set_cons_zero, List.set_cons_succ]
                      refine wpAnyH_take (i := 21) (oi := { dst := some 126, op := Op.move (Operand.tmp 125), type := 4, pos := "outright.go:73", after := #[{ on := 20, ground := Ground.data }, { on := 18, ground := Ground.chain }], guard := none }) (v := ?_) rfl (by kernel_rfl) (by kernel_rfl) (by kernel_rfl) (fun _ _ _ h => h) (Or.inl ⟨by rfl, ?_⟩) hHeld ?_
                      rotate_left
                      focus (intro z hSw; clear hSw; go_simp; try with_reducible rfl)
                      try simp only [Act.put, List.setIfInBounds_toArray, List.set_cons_zero, List.set_cons_succ]
                      refine wpAnyH_take (i := 22) (oi := { dst := some 127, op := Op.move (Operand.tmp 14), type := 30, pos := "outright.go:73", after := #[{ on := 21, ground := Ground.guard }], guard := some (21, true) }) (v := ?_) rfl (by kernel_rfl) (by kernel_rfl) (by kernel_rfl) (fun _ _ _ h => h) (Or.inl ⟨by rfl, ?_⟩) hHeld ?_
                      rotate_left
                      focus (intro z hSw; clear hSw; go_simp; try with_reducible rfl)
                      try simp only [Act.put, List.setIfInBounds_toArray, List.set_cons_zero, List.set_cons_succ]
                      refine wpAnyH_take (i := 23) (oi := { dst := some 128, op := Op.binOp BinOp.eql 30 (Operand.tmp 127) (Operand.const (Value.int IntKind.i64 0)) 30, type := 4, pos := "outright.go:73", after := #[{ on := 22, ground := Ground.data }, { on := 21, ground := Ground.guard }], guard := some (21, true) }) (v := ?_) rfl (by kernel_rfl) (by kernel_rfl) (by kernel_rfl) (fun _ _ _ h => h) (Or.inl ⟨by rfl, ?_⟩) hHeld ?_
                      rotate_left
                      focus (intro z hSw; clear hSw; go_simp; try with_reducible rfl)
                      try simp only [Act.put, List.setIfInBounds_toArray, List.set_cons_zero, List.set_cons_succ]
                      refine wpAnyH_take (i := 24) (oi := { dst := some 129, op := Op.pick (Operand.tmp 126) (Operand.tmp 128) (Operand.const (Value.bool false)), type := 4, pos := "outright.go:73", after := #[{ on := 21, ground := Ground.data }, { on := 23, ground := Ground.data }], guard := none }) (v := ?_) rfl (by kernel_rfl) (by kernel_rfl) (by kernel_rfl) (fun _ _ _ h => h) (Or.inl ⟨by rfl, ?_⟩) hHeld ?_
                      rotate_left
                      focus (intro z hSw; clear hSw; go_simp; try with_reducible rfl)
                      try simp only [Act.put, List.setIfInBounds_toArray, List.set_cons_zero, List.set_cons_succ]
                      refine wpAnyH_take (i := 25) (oi := { dst := some 130, op := Op.move (Operand.tmp 129), type := 4, pos := "outright.go:73", after := #[{ on := 24, ground := Ground.data }, { on := 21, ground := Ground.chain }], guard := none }) (v := ?_) rfl (by kernel_rfl) (by kernel_rfl) (by kernel_rfl) (fun _ _ _ h => h) (Or.inl ⟨by rfl, ?_⟩) hHeld ?_
                      rotate_left
                      focus (intro z hSw; clear hSw; go_simp; try with_reducible rfl)
                      try simp only [Act.put, List.setIfInBounds_toArray, List.set_cons_zero, List.set_cons_succ]
                      refine wpAnyH_take (i := 26) (oi := { dst := some 131, op := Op.load 51 (Operand.tmp 13), type := 51, pos := "outright.go:73", after := #[{ on := 25, ground := Ground.guard }], guard := some (25, true) }) rfl (by kernel_rfl) (by kernel_rfl) (by kernel_rfl) (fun _ _ _ h => h) (yieldsIf_ld (by rfl) 51 _ rfl _ rfl (fun z hSw => (B13.out.keep0 hSw).all)) hHeld ?_
                      try simp only [Act.put, List.setIfInBounds_toArray, List.set_cons_zero, List.set_cons_succ]
                      refine wpAnyH_take (i := 27) (oi := { dst := some 132, op := Op.load 51 (Operand.tmp 3), type := 51, pos := "outright.go:73", after := #[{ on := 25, ground := Ground.guard }], guard := some (25, true) }) rfl (by kernel_rfl) (by kernel_rfl) (by kernel_rfl) (fun _ _ _ h => h) (yieldsIf_ld (by rfl) 51 _ rfl _ rfl (fun z hSw => (W3.out.keep0 hSw).load)) hHeld ?_
                      try simp only [Act.put, List.setIfInBounds_toArray, List.set_cons_zero, List.set_cons_succ]
                      refine wpAnyH_ready (rs := [28]) (by kernel_rfl) (by simp) ?_
                      refine AllReadyH.cons (o := { dst := some 133, op := Op.call { callee := Callee.value (Operand.func 45), args := #[Operand.tmp 131, Operand.tmp 132], argTypes := #[51, 51] }, type := 4, pos := "outright.go:73", after := #[{ on := 26, ground := Ground.data }, { on := 27, ground := Ground.data }, { on := 25, ground := Ground.chain }, { on := 25, ground := Ground.guard }], guard := some (25, true) }) rfl (fun K hK => ?_) AllReadyH.nil
                      go_simp
                      refine (SN.out _ (FW.out.trans hHeld (by simp)) hHeld).mono ?_
                      rintro r wn ⟨rfl, fn⟩
                      refine hK.out _ _ ?_ (fun hNext => ?_)
                      · exact hHeld.trans fn (by simp)
                      clear hK K hHeld
                      have hHeld := hNext
                      clear hNext
                      try simp only [Act.put, List.setIfInBounds_toArray, List.set_cons_zero, List.set_cons_succ]
                      refine wpAnyH_take (i := 29) (oi := { dst := some 134, op := Op.pick (Operand.tmp 130) (Operand.tmp 133) (Operand.const (Value.bool false)), type := 4, pos := "outright.go:73", after := #[{ on := 25, ground := Ground.data }, { on := 28, ground := Ground.data }], guard := none }) (v := ?_) rfl (by kernel_rfl) (by kernel_rfl) (by kernel_rfl) (fun _ _ _ h => h) (Or.inl ⟨by rfl, ?_⟩) hHeld ?_
                      rotate_left
                      focus (intro z hSw; clear hSw; go_simp; try with_reducible rfl)
                      try simp only [Act.put, List.setIfInBounds_toArray, List.set_cons_zero, List.set_cons_succ]
                      refine wpAnyH_take (i := 30) (oi := { dst := some 6, op := Op.assign (Operand.tmp 134), type := 4, pos := "outright.go:73", after := #[{ on := 29, ground := Ground.data }, { on := 28, ground := Ground.chain }, { on := 0, ground := Ground.phase }, { on := 1, ground := Ground.phase }, { on := 2, ground := Ground.phase }, { on := 3, ground := Ground.phase }, { on := 4, ground := Ground.phase }, { on := 5, ground := Ground.phase }, { on := 6, ground := Ground.phase }, { on := 7, ground := Ground.phase }, { on := 8, ground := Ground.phase }, { on := 9, ground := Ground.phase }, { on := 10, ground := Ground.phase }, { on := 11, ground := Ground.phase }, { on := 12, ground := Ground.phase }, { on := 13, ground := Ground.phase }, { on := 14, ground := Ground.phase }, { on := 15, ground := Ground.phase }, { on := 16, ground := Ground.phase }, { on := 17, ground := Ground.phase }, { on := 18, ground := Ground.phase }, { on := 19, ground := Ground.phase }, { on := 20, ground := Ground.phase }, { on := 21, ground := Ground.phase }, { on := 22, ground := Ground.phase }, { on := 23, ground := Ground.phase }, { on := 24, ground := Ground.phase }, { on := 25, ground := Ground.phase }, { on := 26, ground := Ground.phase }, { on := 27, ground := Ground.phase }, { on := 28, ground := Ground.phase }, { on := 29, ground := Ground.phase }], guard := none }) (v := ?_) rfl (by kernel_rfl) (by kernel_rfl) (by kernel_rfl) (fun _ _ _ h => h) (Or.inl ⟨by rfl, ?_⟩) hHeld ?_
                      rotate_left
                      focus (intro z hSw; clear hSw; go_simp; try with_reducible rfl)
                      try simp only [Act.put, List.setIfInBounds_toArray, List.set_cons_zero, List.set_cons_succ]
                      refine wpAnyH_done (by kernel_rfl) ?_ _
                      go_wp2_with fail
                      go_ret
                      exact ⟨rfl, FW.out.trans hHeld (by simp)⟩
                    exact AllReadyH.nil
                  exact AllReadyH.nil
                refine AllReadyH.cons (o := { dst := some 13, op := Op.alloc 51, type := 0, pos := "outright.go:72", after := #[], guard := none }) rfl (fun K hK => ?_) ?_
                · have sz := hHeld.size
                  refine step_alloc51 rfl rfl ?_
                  intro wa ba fa sa
                  refine hK.out _ _ ?_ (fun hNext => ?_)
                  · exact hHeld.trans fa (by simp)
                  clear hK K hHeld
                  have hHeld := hNext
                  clear hNext
                  try simp only [Act.put, List.setIfInBounds_toArray, List.set_cons_zero, List.set_cons_succ]
                  refine wpAnyH_ready (rs := [6]) (by kernel_rfl) (by simp) ?_
                  refine AllReadyH.cons (o := { dst := some 102, op := Op.call { callee := Callee.value (Operand.func 43), args := #[Operand.tmp 96, Operand.tmp 97, Operand.tmp 101], argTypes := #[51, 3, 26] }, type := 56, pos := "outright.go:72", after := #[{ on := 0, ground := Ground.data }, { on := 1, ground := Ground.data }, { on := 5, ground := Ground.data }], guard := none }) rfl (fun K hK => ?_) ?_
                  · go_simp
                    refine (HSB.out _ _ (HV10.out _ (Fk.out.trans hHeld (by simp))) ((FE.out.trans Fk.out (by simp)).trans hHeld (by simp))).mono ?_
                    rintro r wn ⟨x13, rfl, ⟨A13, rfl, q13, h13⟩, fn⟩
                    refine hK.out _ _ ?_ (fun hNext => ?_)
                    · exact hHeld.trans fn (by simp)
                    clear hK K hHeld
                    have hHeld := hNext
                    clear hNext
                    try simp only [Act.put, List.setIfInBounds_toArray, List.set_cons_zero, List.set_cons_succ]
                    refine wpAnyH_take (i := 7) (oi := { dst := some 95, op := Op.move (Operand.tmp 102), type := 56, pos := "outright.go:72", after := #[{ on := 6, ground := Ground.data }], guard := none }) (v := ?_) rfl (by kernel_rfl) (by kernel_rfl) (by kernel_rfl) (fun _ _ _ h => h) (Or.inl ⟨by rfl, ?_⟩) hHeld ?_
                    rotate_left
                    focus (intro z hSw; clear hSw; go_simp; try with_reducible rfl)
                    try simp only [Act.put, List.setIfInBounds_toArray, List.set_cons_zero, List.set_cons_succ]
                    refine wpAnyH_take (i := 8) (oi := { dst := some 103, op := Op.extract (Operand.tmp 95) 0, type := 51, pos := "outright.go:72", after := #[{ on := 7, ground := Ground.data }], guard := none }) (v := ?_) rfl (by kernel_rfl) (by kernel_rfl) (by kernel_rfl) (fun _ _ _ h => h) (Or.inl ⟨by rfl, ?_⟩) hHeld ?_
                    rotate_left
                    focus (intro z hSw; clear hSw; go_simp; try with_reducible rfl)
                    try simp only [Act.put, List.setIfInBounds_toArray, List.set_cons_zero, List.set_cons_succ]
                    refine wpAnyH_take (i := 9) (oi := { dst := some 104, op := Op.extract (Operand.tmp 95) 1, type := 30, pos := "outright.go:72", after := #[{ on := 7, ground := Ground.data }, { on := 11, ground := Ground.gcOnly Departure.lateStores }], guard := none }) (v := ?_) rfl (by kernel_rfl) (by kernel_rfl) (by kernel_rfl) (fun _ _ _ h => h) (Or.inl ⟨by rfl, ?_⟩) hHeld ?_
                    rotate_left
                    focus (intro z hSw; clear hSw; go_simp; try with_reducible rfl)
                    try simp only [Act.put, List.setIfInBounds_toArray, List.set_cons_zero, List.set_cons_succ]
                    refine wpAnyH_ready (rs := [11]) (by kernel_rfl) (by simp) ?_
                    refine AllReadyH.cons (o := { dst := none, op := Op.store 51 (Operand.tmp 13) (Operand.tmp 103), type := 0, pos := "outright.go:72", after := #[{ on := 10, ground := Ground.data }, { on := 8, ground := Ground.data }, { on := 6, ground := Ground.chain }, { on := 0, ground := Ground.phase }, { on := 1, ground := Ground.phase }, { on := 2, ground := Ground.phase }, { on := 3, ground := Ground.phase }, { on := 4, ground := Ground.phase }, { on := 5, ground := Ground.phase }, { on := 6, ground := Ground.phase }, { on := 7, ground := Ground.phase }, { on := 8, ground := Ground.phase }, { on := 9, ground := Ground.textOnly Departure.lateStores }, { on := 10, ground := Ground.phase }], guard := none }) rfl (fun K hK => ?_) ?_
                    · refine step_store51 rfl (.tmp 13) (.tmp 103) rfl (ba.keep0 fn) q13.1 q13.rows rfl rfl ?_
                      intro ws bs fs
                      refine hK.out _ _ ?_ (fun hNext => ?_)
                      · exact hHeld.trans fs (fun i hi => .inr (by have h := List.mem_singleton.1 hi; omega))
                      clear hK K hHeld
                      have hHeld := hNext
                      clear hNext
                      try simp only [Act.put, List.setIfInBounds_toArray, List.set_cons_zero, List.set_cons_succ]
                      refine wpAnyH_take (i := 12) (oi := { dst := some 14, op := Op.assign (Operand.tmp 104), type := 30, pos := "outright.go:72", after := #[{ on := 9, ground := Ground.data }, { on := 11, ground := Ground.chain }, { on := 0, ground := Ground.phase }, { on := 1, ground := Ground.phase }, { on := 2, ground := Ground.phase }, { on := 3, ground := Ground.phase }, { on := 4, ground := Ground.phase }, { on := 5, ground := Ground.phase }, { on := 6, ground := Ground.phase }, { on := 7, ground := Ground.phase }, { on := 8, ground := Ground.phase }, { on := 9, ground := Ground.phase }, { on := 10, ground := Ground.phase }, { on := 11, ground := Ground.phase }], guard := none }) (v := ?_) rfl (by kernel_rfl) (by kernel_rfl) (by kernel_rfl) (fun _ _ _ h => h) (Or.inl ⟨by rfl, ?_⟩) hHeld ?_
                      rotate_left
                      focus (intro z hSw; clear hSw; go_simp; try with_reducible rfl)
                      try simp only [Act.put, List.setIfInBounds_toArray, List.set_cons_zero, List.set_cons_succ]
                      refine wpAnyH_done (by kernel_rfl) ?_ _
                      have hv : PtsV ws A13 n.ps := by first | exact q13.keep0 (fa.trans fs (fun i hi => .inr (by have h := List.mem_singleton.1 hi; omega))) | exact q13.keep fs (fun B hB i hi h => by have h1 := NdO.all q13 h13 B hB i hi; have h2 := List.mem_singleton.1 h; omega)
                      have V13 := Lib.hid (show NdV ws (.agg (nc n.lv A13).toArray) n from ⟨A13, rfl, hv⟩)
                      have B13 := Lib.hid bs
                      have FV := Lib.hid (Fk.out.trans hHeld (by simp))
                      have FW := Lib.hid (FE.out.trans FV.out (by simp))
                      clear hv bs fs fa fn q13 h13 sz sa ba hHeld
                      have W10 := Lib.hid (B10.out.keep0 FV.out)
                      have W3 := Lib.hid (E3.out.keep0 FV.out)
                      have W5 := Lib.hid (E5.out.keep0 FV.out)
                      obtain ⟨Ak, pk, hAk, hpk, hvk⟩ := P10.out.get hlt4
                      rw [List.getElem?_set_self (by have := HPS.out.2.1; omega)] at hpk
                      cases hpk
                      have LK := Lib.hid hAk
                      have SP := Lib.hid (fun W (f : Frm [] w W) (f2 : Frm [] V W) => SamePointer_any (.agg Ak) (.agg A) p p W (hvk.keep0 f2) (HPV.out.keep0 f) HPL.out)
                      rw [same_refl] at SP
                      have NK := Lib.hid (fun W (f2 : Frm [] V W) => nodeCheck_any (.agg (nc n.lv A10).toArray) ⟨n.lv, n.ps.set kk p⟩ W (HV10.out W f2) HMA.out)
                      rw [nchk_set HOK.out] at NK
                      have SN := Lib.hid (fun W (f : Frm [] w W) (f3 : Frm [] ws W) => SameNode_true (.agg (nc n.lv A13).toArray) (.agg N) n W (V13.out.keep0 f3) (HNV.out.keep0 f) HADS.out)
                      clear hAk hvk
                      go_upto_region 21 with (fail)
                      refine wp_region_held_drew (S := fun z => Frm [] ws z) (by kernel_rfl) ((Frm.refl [] ws).drew) (fun hHeld => ?_)
                      refine wpAnyH_take (i := 0) (oi := { dst := some 105, op := Op.move (Operand.tmp 7), type := 4, pos := "outright.go:73", after := #[], guard := none }) (v := ?_) rfl (by kernel_rfl) (by kernel_rfl) (by kernel_rfl) (fun _ _ _ h => h) (Or.inl ⟨by rfl, ?_⟩) hHeld ?_
                      rotate_left
                      focus (intro z hSw; clear hSw; go_simp; try with_reducible rfl)
                      try simp only [Act.put, List.setIfInBounds_toArray, List.set_cons_zero, List.set_cons_succ]
                      refine wpAnyH_take (i := 1) (oi := { dst := some 106, op := Op.move (Operand.tmp 105), type := 4, pos := "outright.go:73", after := #[{ on := 0, ground := Ground.data }], guard := none }) (v := ?_) rfl (by kernel_rfl) (by kernel_rfl) (by kernel_rfl) (fun _ _ _ h => h) (Or.inl ⟨by rfl, ?_⟩) hHeld ?_
                      rotate_left
                      focus (intro z hSw; clear hSw; go_simp; try with_reducible rfl)
                      try simp only [Act.put, List.setIfInBounds_toArray, List.set_cons_zero, List.set_cons_succ]
                      refine wpAnyH_take (i := 2) (oi := { dst := some 107, op := Op.move (Operand.tmp 1), type := 3, pos := "outright.go:73", after := #[{ on := 1, ground := Ground.guard }], guard := some (1, true) }) (v := ?_) rfl (by kernel_rfl) (by kernel_rfl) (by kernel_rfl) (fun _ _ _ h => h) (Or.inl ⟨by rfl, ?_⟩) hHeld ?_
                      rotate_left
                      focus (intro z hSw; clear hSw; go_simp; try with_reducible rfl)
                      try simp only [Act.put, List.setIfInBounds_toArray, List.set_cons_zero, List.set_cons_succ]
                      refine wpAnyH_take (i := 3) (oi := { dst := some 108, op := Op.fieldAddr 51 (Operand.tmp 10) 1, type := 0, pos := "outright.go:73", after := #[{ on := 1, ground := Ground.guard }], guard := some (1, true) }) (v := ?_) rfl (by kernel_rfl) (by kernel_rfl) (by kernel_rfl) (fun _ _ _ h => h) (Or.inl ⟨by rfl, ?_⟩) hHeld ?_
                      rotate_left
                      focus (intro z hSw; clear hSw; go_simp; try with_reducible rfl)
                      try simp only [Act.put, List.setIfInBounds_toArray, List.set_cons_zero, List.set_cons_succ]
                      refine wpAnyH_take (i := 4) (oi := { dst := some 109, op := Op.indexAddr 49 (Operand.tmp 108) (Operand.tmp 107), type := 0, pos := "outright.go:73", after := #[{ on := 3, ground := Ground.data }, { on := 2, ground := Ground.data }, { on := 1, ground := Ground.guard }], guard := some (1, true) }) (v := ?_) rfl (by kernel_rfl) (by kernel_rfl) (by kernel_rfl) (fun _ _ _ h => h) (Or.inl ⟨by rfl, ?_⟩) hHeld ?_
                      rotate_left
                      focus (intro z hSw; clear hSw; go_simp; try with_reducible rfl)
                      try simp only [Act.put, List.setIfInBounds_toArray, List.set_cons_zero, List.set_cons_succ]
                      refine wpAnyH_take (i := 5) (oi := { dst := some 110, op := Op.load 26 (Operand.tmp 109), type := 26, pos := "outright.go:73", after := #[{ on := 4, ground := Ground.data }, { on := 1, ground := Ground.guard }], guard := some (1, true) }) rfl (by kernel_rfl) (by kernel_rfl) (by kernel_rfl) (fun _ _ _ h => h) (yieldsIf_ld (by rfl) 26 _ rfl _ rfl (fun z hSw => (W10.out.keep0 hSw).load LK.out)) hHeld ?_
                      try simp only [Act.put, List.setIfInBounds_toArray, List.set_cons_zero, List.set_cons_succ]
                      refine wpAnyH_take (i := 6) (oi := { dst := some 111, op := Op.load 26 (Operand.tmp 5), type := 26, pos := "outright.go:73", after := #[{ on := 1, ground := Ground.guard }], guard := some (1, true) }) rfl (by kernel_rfl) (by kernel_rfl) (by kernel_rfl) (fun _ _ _ h => h) (yieldsIf_ld (by rfl) 26 _ rfl _ rfl (fun z hSw => (W5.out.keep0 hSw).load)) hHeld ?_
                      try simp only [Act.put, List.setIfInBounds_toArray, List.set_cons_zero, List.set_cons_succ]
                      refine wpAnyH_ready (rs := [7]) (by kernel_rfl) (by simp) ?_
                      refine AllReadyH.cons (o := { dst := some 112, op := Op.call { callee := Callee.value (Operand.func 27), args := #[Operand.tmp 110, Operand.tmp 111], argTypes := #[26, 26] }, type := 4, pos := "outright.go:73", after := #[{ on := 5, ground := Ground.data }, { on := 6, ground := Ground.data }, { on := 1, ground := Ground.chain }, { on := 1, ground := Ground.guard }], guard := some (1, true) }) rfl (fun K hK => ?_) AllReadyH.nil
                      go_simp
                      refine (SP.out _ (FW.out.trans hHeld (by simp)) (FV.out.trans hHeld (by simp))).mono ?_
                      rintro r wn ⟨rfl, fn⟩
                      refine hK.out _ _ ?_ (fun hNext => ?_)
                      · exact hHeld.trans fn (by simp)
                      clear hK K hHeld
                      have hHeld := hNext
                      clear hNext
                      try simp only [Act.put, List.setIfInBounds_toArray, List.set_cons_zero, List.set_cons_succ]
                      refine wpAnyH_take (i := 8) (oi := { dst := some 113, op := Op.pick (Operand.tmp 106) (Operand.tmp 112) (Operand.const (Value.bool false)), type := 4, pos := "outright.go:73", after := #[{ on := 1, ground := Ground.data }, { on := 7, ground := Ground.data }], guard := none }) (v := ?_) rfl (by kernel_rfl) (by kernel_rfl) (by kernel_rfl) (fun _ _ _ h => h) (Or.inl ⟨by rfl, ?_⟩) hHeld ?_
                      rotate_left
                      focus (intro z hSw; clear hSw; go_simp; try with_reducible rfl)
                      try simp only [Act.put, List.setIfInBounds_toArray, List.set_cons_zero, List.set_cons_succ]
                      refine wpAnyH_take (i := 9) (oi := { dst := some 114, op := Op.move (Operand.tmp 113), type := 4, pos := "outright.go:73", after := #[{ on := 8, ground := Ground.data }, { on := 7, ground := Ground.chain }], guard := none }) (v := ?_) rfl (by kernel_rfl) (by kernel_rfl) (by kernel_rfl) (fun _ _ _ h => h) (Or.inl ⟨by rfl, ?_⟩) hHeld ?_
                      rotate_left
                      focus (intro z hSw; clear hSw; go_simp; try with_reducible rfl)
                      try simp only [Act.put, List.setIfInBounds_toArray, List.set_cons_zero, List.set_cons_succ]
                      refine wpAnyH_take (i := 10) (oi := { dst := some 115, op := Op.fieldAddr 51 (Operand.tmp 10) 0, type := 0, pos := "outright.go:73", after := #[{ on := 9, ground := Ground.guard }], guard := some (9, true) }) (v := ?_) rfl (by kernel_rfl) (by kernel_rfl) (by kernel_rfl) (fun _ _ _ h => h) (Or.inl ⟨by rfl, ?_⟩) hHeld ?_
                      rotate_left
                      focus (intro z hSw; clear hSw; go_simp; try with_reducible rfl)
                      try simp only [Act.put, List.setIfInBounds_toArray, List.set_cons_zero, List.set_cons_succ]
                      refine wpAnyH_take (i := 11) (oi := { dst := some 116, op := Op.load 3 (Operand.tmp 115), type := 3, pos := "outright.go:73", after := #[{ on := 10, ground := Ground.data }, { on := 9, ground := Ground.guard }], guard := some (9, true) }) (v := ?_) rfl (by kernel_rfl) (by kernel_rfl) (by kernel_rfl) (fun _ _ _ h => h) (Or.inl ⟨by rfl, ?_⟩) hHeld ?_
                      rotate_left
                      focus (intro z hSw; have cl := (W10.out.keep0 hSw).lev; have cn := (W3.out.keep0 hSw).2.lev; clear hSw; go_simp; try with_reducible rfl)
                      try simp only [Act.put, List.setIfInBounds_toArray, List.set_cons_zero, List.set_cons_succ]
                      refine wpAnyH_take (i := 12) (oi := { dst := some 117, op := Op.fieldAddr 51 (Operand.tmp 3) 0, type := 0, pos := "outright.go:73", after := #[{ on := 9, ground := Ground.guard }], guard := some (9, true) }) (v := ?_) rfl (by kernel_rfl) (by kernel_rfl) (by kernel_rfl) (fun _ _ _ h => h) (Or.inl ⟨by rfl, ?_⟩) hHeld ?_
                      rotate_left
                      focus (intro z hSw; clear hSw; go_simp; try with_reducible rfl)
                      try simp only [Act.put, List.setIfInBounds_toArray, List.set_cons_zero, List.set_cons_succ]
                      refine wpAnyH_take (i := 13) (oi := { dst := some 118, op := Op.load 3 (Operand.tmp 117), type := 3, pos := "outright.go:73", after := #[{ on := 12, ground := Ground.data }, { on := 9, ground := Ground.guard }], guard := some (9, true) }) (v := ?_) rfl (by kernel_rfl) (by kernel_rfl) (by kernel_rfl) (fun _ _ _ h => h) (Or.inl ⟨by rfl, ?_⟩) hHeld ?_
                      rotate_left
                      focus (intro z hSw; have cl := (W10.out.keep0 hSw).lev; have cn := (W3.out.keep0 hSw).2.lev; clear hSw; go_simp; try with_reducible rfl)
                      try simp only [Act.put, List.setIfInBounds_toArray, List.set_cons_zero, List.set_cons_succ]
                      refine wpAnyH_take (i := 14) (oi := { dst := some 119, op := Op.binOp BinOp.eql 3 (Operand.tmp 116) (Operand.tmp 118) 3, type := 4, pos := "outright.go:73", after := #[{ on := 11, ground := Ground.data }, { on := 13, ground := Ground.data }, { on := 9, ground := Ground.guard }], guard := some (9, true) }) (v := ?_) rfl (by kernel_rfl) (by kernel_rfl) (by kernel_rfl) (fun _ _ _ h => h) (Or.inl ⟨by rfl, ?_⟩) hHeld ?_
                      rotate_left
                      focus (intro z hSw; clear hSw; go_simp; try with_reducible rfl)
                      try simp only [Act.put, List.setIfInBounds_toArray, List.set_cons_zero, List.set_cons_succ]
                      refine wpAnyH_take (i := 15) (oi := { dst := some 120, op := Op.pick (Operand.tmp 114) (Operand.tmp 119) (Operand.const (Value.bool false)), type := 4, pos := "outright.go:73", after := #[{ on := 9, ground := Ground.data }, { on := 14, ground := Ground.data }], guard := none }) (v := ?_) rfl (by kernel_rfl) (by kernel_rfl) (by kernel_rfl) (fun _ _ _ h => h) (Or.inl ⟨by rfl, ?_⟩) hHeld ?_
                      rotate_left
                      focus (intro z hSw; clear hSw; go_simp; try with_reducible rfl)
                      try simp only [Act.put, List.setIfInBounds_toArray, List.set_cons_zero, List.set_cons_succ]
                      refine wpAnyH_take (i := 16) (oi := { dst := some 121, op := Op.move (Operand.tmp 120), type := 4, pos := "outright.go:73", after := #[{ on := 15, ground := Ground.data }, { on := 9, ground := Ground.chain }], guard := none }) (v := ?_) rfl (by kernel_rfl) (by kernel_rfl) (by kernel_rfl) (fun _ _ _ h => h) (Or.inl ⟨by rfl, ?_⟩) hHeld ?_
                      rotate_left
                      focus (intro z hSw; clear hSw; go_simp; try with_reducible rfl)
                      try simp only [Act.put, List.setIfInBounds_toArray, List.set_cons_zero, List.set_cons_succ]
                      refine wpAnyH_take (i := 17) (oi := { dst := some 122, op := Op.load 51 (Operand.tmp 10), type := 51, pos := "outright.go:73", after := #[{ on := 16, ground := Ground.guard }], guard := some (16, true) }) rfl (by kernel_rfl) (by kernel_rfl) (by kernel_rfl) (fun _ _ _ h => h) (yieldsIf_ld (by rfl) 51 _ rfl _ rfl (fun z hSw => (W10.out.keep0 hSw).all)) hHeld ?_
                      try simp only [Act.put, List.setIfInBounds_toArray, List.set_cons_zero, List.set_cons_succ]
                      refine wpAnyH_ready (rs := [18]) (by kernel_rfl) (by simp) ?_
                      refine AllReadyH.cons (o := { dst := some 123, op := Op.call { callee := Callee.value (Operand.func 39), args := #[Operand.tmp 122], argTypes := #[51] }, type := 30, pos := "outright.go:73", after := #[{ on := 17, ground := Ground.data }, { on := 16, ground := Ground.chain }, { on := 16, ground := Ground.guard }], guard := some (16, true) }) rfl (fun K hK => ?_) AllReadyH.nil
                      go_simp
                      refine (NK.out _ (FV.out.trans hHeld (by simp))).mono ?_
                      rintro r wn ⟨rfl, fn⟩
                      refine hK.out _ _ ?_ (fun hNext => ?_)
                      · exact hHeld.trans fn (by simp)
                      clear hK K hHeld
                      have hHeld := hNext
                      clear hNext
                      try simp only [Act.put, List.setIfInBounds_toArray, List.set_cons_zero, List.set_cons_succ]
                      refine wpAnyH_take (i := 19) (oi := { dst := some 124, op := Op.binOp BinOp.eql 30 (Operand.tmp 123) (Operand.const (Value.int IntKind.i64 0)) 30, type := 4, pos := "outright.go:73", after := #[{ on := 18, ground := Ground.data }, { on := 16, ground := Ground.guard }], guard := some (16, true) }) (v := ?_) rfl (by kernel_rfl) (by kernel_rfl) (by kernel_rfl) (fun _ _ _ h => h) (Or.inl ⟨by rfl, ?_⟩) hHeld ?_
                      rotate_left
                      focus (intro z hSw; clear hSw; go_simp; try with_reducible rfl)
                      try simp only [Act.put, List.setIfInBounds_toArray, List.set_cons_zero, List.set_cons_succ]
                      refine wpAnyH_take (i := 20) (oi := { dst := some 125, op := Op.pick (Operand.tmp 121) (Operand.tmp 124) (Operand.const (Value.bool false)), type := 4, pos := "outright.go:73", after := #[{ on := 16, ground := Ground.data }, { on := 19, ground := Ground.data }], guard := none }) (v := ?_) rfl (by kernel_rfl) (by kernel_rfl) (by kernel_rfl) (fun _ _ _ h => h) (Or.inl ⟨by rfl, ?_⟩) hHeld ?_
                      rotate_left
                      focus (intro z hSw; clear hSw; go_simp; try with_reducible rfl)
                      try simp only [Act.put, List.setIfInBounds_toArray, List.set_cons_zero, List.set_cons_succ]
                      refine wpAnyH_take (i := 21) (oi := { dst := some 126, op := Op.move (Operand.tmp 125), type := 4, pos := "outright.go:73", after := #[{ on := 20, ground := Ground.data }, { on := 18, ground := Ground.chain }], guard := none }) (v := ?_) rfl (by kernel_rfl) (by kernel_rfl) (by kernel_rfl) (fun _ _ _ h => h) (Or.inl ⟨by rfl, ?_⟩) hHeld ?_
                      rotate_left
                      focus (intro z hSw; clear hSw; go_simp; try with_reducible rfl)
                      try simp only [Act.put, List.setIfInBounds_toArray, List.set_cons_zero, List.set_cons_succ]
                      refine wpAnyH_take (i := 22) (oi := { dst := some 127, op := Op.move (Operand.tmp 14), type := 30, pos := "outright.go:73", after := #[{ on := 21, ground := Ground.guard }], guard := some (21, true) }) (v := ?_) rfl (by kernel_rfl) (by kernel_rfl) (by kernel_rfl) (fun _ _ _ h => h) (Or.inl ⟨by rfl, ?_⟩) hHeld ?_
                      rotate_left
                      focus (intro z hSw; clear hSw; go_simp; try with_reducible rfl)
                      try simp only [Act.put, List.setIfInBounds_toArray, List.set_cons_zero, List.set_cons_succ]
                      refine wpAnyH_take (i := 23) (oi := { dst := some 128, op := Op.binOp BinOp.eql 30 (Operand.tmp 127) (Operand.const (Value.int IntKind.i64 0)) 30, type := 4, pos := "outright.go:73", after := #[{ on := 22, ground := Ground.data }, { on := 21, ground := Ground.guard }], guard := some (21, true) }) (v := ?_) rfl (by kernel_rfl) (by kernel_rfl) (by kernel_rfl) (fun _ _ _ h => h) (Or.inl ⟨by rfl, ?_⟩) hHeld ?_
                      rotate_left
                      focus (intro z hSw; clear hSw; go_simp; try with_reducible rfl)
                      try simp only [Act.put, List.setIfInBounds_toArray, List.set_cons_zero, List.set_cons_succ]
                      refine wpAnyH_take (i := 24) (oi := { dst := some 129, op := Op.pick (Operand.tmp 126) (Operand.tmp 128) (Operand.const (Value.bool false)), type := 4, pos := "outright.go:73", after := #[{ on := 21, ground := Ground.data }, { on := 23, ground := Ground.data }], guard := none }) (v := ?_) rfl (by kernel_rfl) (by kernel_rfl) (by kernel_rfl) (fun _ _ _ h => h) (Or.inl ⟨by rfl, ?_⟩) hHeld ?_
                      rotate_left
                      focus (intro z hSw; clear hSw; go_simp; try with_reducible rfl)
                      try simp only [Act.put, List.setIfInBounds_toArray, List.set_cons_zero, List.set_cons_succ]
                      refine wpAnyH_take (i := 25) (oi := { dst := some 130, op := Op.move (Operand.tmp 129), type := 4, pos := "outright.go:73", after := #[{ on := 24, ground := Ground.data }, { on := 21, ground := Ground.chain }], guard := none }) (v := ?_) rfl (by kernel_rfl) (by kernel_rfl) (by kernel_rfl) (fun _ _ _ h => h) (Or.inl ⟨by rfl, ?_⟩) hHeld ?_
                      rotate_left
                      focus (intro z hSw; clear hSw; go_simp; try with_reducible rfl)
                      try simp only [Act.put, List.setIfInBounds_toArray, List.set_cons_zero, List.set_cons_succ]
                      refine wpAnyH_take (i := 26) (oi := { dst := some 131, op := Op.load 51 (Operand.tmp 13), type := 51, pos := "outright.go:73", after := #[{ on := 25, ground := Ground.guard }], guard := some (25, true) }) rfl (by kernel_rfl) (by kernel_rfl) (by kernel_rfl) (fun _ _ _ h => h) (yieldsIf_ld (by rfl) 51 _ rfl _ rfl (fun z hSw => (B13.out.keep0 hSw).all)) hHeld ?_
                      try simp only [Act.put, List.setIfInBounds_toArray, List.set_cons_zero, List.set_cons_succ]
                      refine wpAnyH_take (i := 27) (oi := { dst := some 132, op := Op.load 51 (Operand.tmp 3), type := 51, pos := "outright.go:73", after := #[{ on := 25, ground := Ground.guard }], guard := some (25, true) }) rfl (by kernel_rfl) (by kernel_rfl) (by kernel_rfl) (fun _ _ _ h => h) (yieldsIf_ld (by rfl) 51 _ rfl _ rfl (fun z hSw => (W3.out.keep0 hSw).load)) hHeld ?_
                      try simp only [Act.put, List.setIfInBounds_toArray, List.set_cons_zero, List.set_cons_succ]
                      refine wpAnyH_ready (rs := [28]) (by kernel_rfl) (by simp) ?_
                      refine AllReadyH.cons (o := { dst := some 133, op := Op.call { callee := Callee.value (Operand.func 45), args := #[Operand.tmp 131, Operand.tmp 132], argTypes := #[51, 51] }, type := 4, pos := "outright.go:73", after := #[{ on := 26, ground := Ground.data }, { on := 27, ground := Ground.data }, { on := 25, ground := Ground.chain }, { on := 25, ground := Ground.guard }], guard := some (25, true) }) rfl (fun K hK => ?_) AllReadyH.nil
                      go_simp
                      refine (SN.out _ (FW.out.trans hHeld (by simp)) hHeld).mono ?_
                      rintro r wn ⟨rfl, fn⟩
                      refine hK.out _ _ ?_ (fun hNext => ?_)
                      · exact hHeld.trans fn (by simp)
                      clear hK K hHeld
                      have hHeld := hNext
                      clear hNext
                      try simp only [Act.put, List.setIfInBounds_toArray, List.set_cons_zero, List.set_cons_succ]
                      refine wpAnyH_take (i := 29) (oi := { dst := some 134, op := Op.pick (Operand.tmp 130) (Operand.tmp 133) (Operand.const (Value.bool false)), type := 4, pos := "outright.go:73", after := #[{ on := 25, ground := Ground.data }, { on := 28, ground := Ground.data }], guard := none }) (v := ?_) rfl (by kernel_rfl) (by kernel_rfl) (by kernel_rfl) (fun _ _ _ h => h) (Or.inl ⟨by rfl, ?_⟩) hHeld ?_
                      rotate_left
                      focus (intro z hSw; clear hSw; go_simp; try with_reducible rfl)
                      try simp only [Act.put, List.setIfInBounds_toArray, List.set_cons_zero, List.set_cons_succ]
                      refine wpAnyH_take (i := 30) (oi := { dst := some 6, op := Op.assign (Operand.tmp 134), type := 4, pos := "outright.go:73", after := #[{ on := 29, ground := Ground.data }, { on := 28, ground := Ground.chain }, { on := 0, ground := Ground.phase }, { on := 1, ground := Ground.phase }, { on := 2, ground := Ground.phase }, { on := 3, ground := Ground.phase }, { on := 4, ground := Ground.phase }, { on := 5, ground := Ground.phase }, { on := 6, ground := Ground.phase }, { on := 7, ground := Ground.phase }, { on := 8, ground := Ground.phase }, { on := 9, ground := Ground.phase }, { on := 10, ground := Ground.phase }, { on := 11, ground := Ground.phase }, { on := 12, ground := Ground.phase }, { on := 13, ground := Ground.phase }, { on := 14, ground := Ground.phase }, { on := 15, ground := Ground.phase }, { on := 16, ground := Ground.phase }, { on := 17, ground := Ground.phase }, { on := 18, ground := Ground.phase }, { on := 19, ground := Ground.phase }, { on := 20, ground := Ground.phase }, { on := 21, ground := Ground.phase }, { on := 22, ground := Ground.phase }, { on := 23, ground := Ground.phase }, { on := 24, ground := Ground.phase }, { on := 25, ground := Ground.phase }, { on := 26, ground := Ground.phase }, { on := 27, ground := Ground.phase }, { on := 28, ground := Ground.phase }, { on := 29, ground := Ground.phase }], guard := none }) (v := ?_) rfl (by kernel_rfl) (by kernel_rfl) (by kernel_rfl) (fun _ _ _ h => h) (Or.inl ⟨by rfl, ?_⟩) hHeld ?_
                      rotate_left
                      focus (intro z hSw; clear hSw; go_simp; try with_reducible rfl)
                      try simp only [Act.put, List.setIfInBounds_toArray, List.set_cons_zero, List.set_cons_succ]
                      refine wpAnyH_done (by kernel_rfl) ?_ _
                      go_wp2_with fail
                      go_ret
                      exact ⟨rfl, FW.out.trans hHeld (by simp)⟩
                    exact AllReadyH.nil
                  exact AllReadyH.nil
                exact AllReadyH.nil
    · have h20' : (20 : Int) < (p.ads.length : Int) := by omega
      go_wp2_with (first
        | ((with_reducible (show wpList _ _ _ (Oper.mk _ (Op.load 51 _) _ _ _ _ :: _) _ _)); refine wpList_load_g (by rfl) 51 _ rfl _ rfl B3.out.load ?_)
        | (go_at_call 34; refine (HBig.out _ F0.out).mono ?_; rintro r w2 ⟨rfl, f2⟩; replace k5 := f2.cell k5 (by simp)))
      go_ret
      exact ⟨rfl, F0.out.trans f2 (by simp)⟩
end Go.Proofs.Ytjjcjocomanohaa
