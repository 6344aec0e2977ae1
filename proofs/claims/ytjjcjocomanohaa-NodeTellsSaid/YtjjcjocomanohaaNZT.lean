/-
  The walk of NodeTells and the contracts it needs. No conditions but those that each theorem names.
-/
import Derived.Test.YtjjcjocomanohaaNL
import Derived.Test.YtjjcjocomanohaaNI
import Derived.Test.YtjjcjocomanohaaNK
namespace Go.Proofs.Ytjjcjocomanohaa
open Go.RowKit
set_option linter.unusedVariables false
set_option linter.unusedSimpArgs false
set_option maxRecDepth 100000

def oneNd : Nd := ⟨1, List.replicate 4 zeroPt⟩
theorem one_node : nodeB oneNd = true := by decide
theorem one_chk : nchk oneNd = 0 := by decide
theorem one_empty : emptyB oneNd = true := by decide
theorem zero_nchk : nchk zeroNd = 2 := by decide
theorem one_pack : packB oneNd = (List.replicate 256 0).set 0 1 := by decide
theorem un_nil : unE [] = 4 := by decide
theorem unNd_nil : unNd [] = zeroNd := by rfl
theorem oneNd_v (W : World) : NdV W (.agg (nc 1 zAs).toArray) oneNd := ⟨zAs, rfl, ptsv_zero W⟩
theorem zero_ads : ∀ p ∈ List.replicate 4 zeroPt, p.ads.length ≤ 1000000 := fun p hp => by rw [List.eq_of_mem_replicate hp]; simp [zeroPt]
set_option maxHeartbeats 8000000 in
theorem nawake_any (w : World) : Calls Try.prog 35 #[] w (Yes w) := by
  have hP := Lib.hid (fun W => Pack_any _ oneNd W (oneNd_v W) zero_ads)
  unfold PackP at hP
  rw [one_chk, one_pack] at hP
  have h256 : ((List.replicate 256 (0 : UInt8)).set 0 1).length = 256 := by simp
  rw [h256] at hP
  generalize hz : (List.replicate 256 (0 : UInt8)).set 0 1 = z1 at hP h256
  have HEQ := Lib.hid (show (z1 == (List.replicate 256 0).set 0 1) = true by rw [hz]; simp)
  clear hz h256
  have hU := Lib.hid (fun W => Unpack_any (.slice none 0 0) [] [] W (SlB.nil W) (by simp))
  unfold UnP at hU
  rw [un_nil, unNd_nil] at hU
  have hE := Lib.hid (fun W => nodeEmpty_any _ oneNd W (oneNd_v W) zero_ads)
  rw [one_empty] at hE
  have hC := Lib.hid (fun W => nodeCheck_any _ zeroNd W (zeroNd_v W) zero_ads)
  rw [zero_nchk] at hC
  go_enter Try.func35, Try.ntmps35
  go_upto_region 2 with (first
    | ((with_reducible (show wpList _ _ _ (Oper.mk _ (Op.build 51 _) _ _ _ _ :: _) _ _)); refine wpList_val rfl (exec_bld51 (.const (.int .i64 1)) rfl rfl _) ?_)
    | (go_at_call 37; refine (hP.out _).mono ?_; rintro r w1 ⟨a1, c1, s1, rfl, o1, f1, n1⟩))
  go_upto_region 3 with ((with_reducible (show wpList _ _ _ (Oper.mk _ (Op.makeSlice 29 _ _) _ _ _ _ :: _) _ _)); refine wpList_make_g BT (by rfl) 256 (by omega) (.const (.int .i64 256)) (.const (.int .i64 256)) rfl rfl rfl rfl rfl ?_; intro w2 o2 f2)
  have q0 := o2.cell 0 (by simp)
  have r0 := o2.frozen 0
  have o3 := o2.store 0 (by simp) 1 (u := .int .u8 1) rfl
  have f3 : Frm [w1.heap.size] w1 (w2.setCell ⟨w1.heap.size, 0, none⟩ (.int .u8 1)) := (f2.mono (L' := [w1.heap.size]) (by simp)).setCell _ _ (by simp)
  unfold bv at q0
  go_upto_region 4 with (fail)
  generalize w2.setCell ⟨w1.heap.size, 0, none⟩ (.int .u8 1) = w3 at *
  have P1 := Lib.hid (o1.sl.keep f3 (fun i hi => by have := o1.lt i hi; simp; omega))
  have P3 := Lib.hid o3.sl
  have F3 := Lib.hid (f1.trans f3 (fun i hi => .inr (by have := f1.size; simp at hi; omega)))
  clear o1 o2 o3 f1 f2 f3 q0 r0 n1
  go_upto_region 5 with (first
    | (go_at_call 47; refine (hU.out _).mono ?_; rintro r w4 ⟨x4, rfl, ⟨As, rfl, hps⟩, f4⟩)
    | ((with_reducible (show wpList _ _ _ (Oper.mk _ (Op.alloc 51) _ _ _ _ :: _) _ _)); refine wpList_lay51 rfl rfl rfl (.tmp 4) (.tmp 16) rfl hps.1 hps.rows rfl rfl ?_))
  have F4 := Lib.hid (f4.alloc (.cells (nc zeroNd.lv As).toArray 51))
  generalize w4.alloc (.cells (nc zeroNd.lv As).toArray 51) = V at *
  have fz := Lib.hid (Frm.refl [] V)
  clear f4 hps
  go_wp2_with (first
    | (go_at_call 17; refine (SameBytes_any _ _ _ s1 _ _ _ (P1.out.keep (F4.out.trans fz.out (by simp)) (by simp)) (P3.out.keep (F4.out.trans fz.out (by simp)) (by simp))).mono ?_; rw [HEQ.out]; rintro r wn ⟨rfl, rfl⟩)
    | ((with_reducible (show wpList _ _ _ (Oper.mk (some 26) (Op.build 51 _) _ _ _ _ :: _) _ _)); refine wpList_val_g (by rfl) (exec_bld51 (.const (.int .i64 1)) rfl rfl _) ?_)
    | ((with_reducible (show wpList _ _ _ (Oper.mk (some 34) (Op.build 51 _) _ _ _ _ :: _) _ _)); refine wpList_val_g (by rfl) (exec_bld51z rfl _) ?_)
    | (go_at_call 41; refine (hE.out _).mono ?_; rintro r wn ⟨rfl, fn⟩; replace fz := Lib.hid (fz.out.trans fn (by simp)); clear fn)
    | (go_at_call 39; refine (hC.out _).mono ?_; rintro r wn ⟨rfl, fn⟩; replace fz := Lib.hid (fz.out.trans fn (by simp)); clear fn))
  go_ret
  exact ⟨rfl, F3.out.trans (F4.out.trans fz.out (by simp)) (by simp)⟩
end Go.Proofs.Ytjjcjocomanohaa

namespace Go.Proofs.Ytjjcjocomanohaa
open Go.RowKit
set_option linter.unusedVariables false
set_option linter.unusedSimpArgs false
set_option maxRecDepth 100000

theorem bld01 (a : Option Addr) (n c : Nat) (x : Int) (W : World) : (Instr.build 26 #[(0, .slice a n c), (1, .int .i64 x)]).run Try.prog W = .ok (pv (.slice a n c) x 0 zs) W := by kernel_rfl
theorem exec_bld01 {o : Oper} {ac : Act} {a : Option Addr} {n c : Nat} {x : Int} (r s : Operand) (hop : o.op = Op.build 26 #[(0, r), (1, s)]) (h0 : ac.eval r = .slice a n c) (h1 : ac.eval s = .int .i64 x) (W : World) : (execOp ac.eval o).run Try.prog W = .ok (.value (pv (.slice a n c) x 0 zs)) W := by
  have hb := bld01 a n c x W
  have hm : (#[(0, r), (1, s)].map fun ((i, x) : Nat × Operand) => (i, ac.eval x)) = #[(0, .slice a n c), (1, .int .i64 x)] := by simp [h0, h1]
  simp only [execOp, hop, hm, Sem.run_bind, Sem.run_pure, hb, Result.andThen_ok]
def pt5 : Pt := ⟨[(0, 5)], 1, 0, zs⟩
def twoNd : Nd := ⟨2, (List.replicate 4 zeroPt).set 0 pt5⟩
def fourNd : Nd := ⟨4, List.replicate 4 zeroPt⟩
theorem two_chk : nchk twoNd = 2 := by decide
theorem two_empty : emptyB twoNd = false := by decide
theorem four_chk : nchk fourNd = 2 := by decide
theorem un_zero : goodN (List.replicate 256 0) = false := by decide
theorem unE_zero : unE (List.replicate 256 0) = 2 := by rw [unE, un_zero]; rfl
theorem unNd_zero : unNd (List.replicate 256 0) = zeroNd := by rw [unNd, un_zero]; rfl
theorem set_four : setOk oneNd 4 zeroPt = false := by decide
theorem two_ads : ∀ p ∈ twoNd.ps, p.ads.length ≤ 1000000 := by decide
theorem four_v (W : World) : NdV W (.agg (nc 4 zAs).toArray) fourNd := ⟨zAs, rfl, ptsv_zero W⟩
set_option maxHeartbeats 8000000 in
theorem nknown_any (w : World) : Calls Try.prog 10 #[] w (Yes w) := by
  have hU := Lib.hid (fun W v sp (h : SlB W v (List.replicate 256 0) sp) => Unpack_any v (List.replicate 256 0) sp W h (by simp))
  unfold UnP at hU
  rw [unE_zero, unNd_zero] at hU
  have hS := Lib.hid (fun W => Set_any _ oneNd 4 _ zeroPt W (oneNd_v W) zero_ads (ptv_zero W) (by simp [zeroPt]))
  unfold SetP at hS
  rw [show setE oneNd 4 zeroPt = 2 by rw [setE, set_four]; rfl, show setNd oneNd 4 zeroPt = zeroNd by rw [setNd, set_four]; rfl] at hS
  have hC4 := Lib.hid (fun W => nodeCheck_any _ fourNd W (four_v W) zero_ads)
  rw [four_chk] at hC4
  have hC2 := Lib.hid (fun W x (h : NdV W x twoNd) => nodeCheck_any x twoNd W h two_ads)
  rw [two_chk] at hC2
  have hE2 := Lib.hid (fun W x (h : NdV W x twoNd) => nodeEmpty_any x twoNd W h two_ads)
  rw [two_empty] at hE2
  have hB0 : NB (w.alloc (.cells (nc 2 zAs).toArray 51)) w.heap.size 2 zAs := NB.new w 2 zAs_len zAs_rows
  have f0 : Frm [] w (w.alloc (.cells (nc 2 zAs).toArray 51)) := (Frm.refl [] w).alloc _
  go_enter Try.func10, Try.ntmps10
  go_upto_region 2 with (first
    | ((with_reducible (show wpList _ _ _ (Oper.mk _ (Op.build 51 _) _ _ _ _ :: _) _ _)); refine wpList_val rfl (exec_bld51 (.const (.int .i64 2)) rfl rfl _) ?_)
    | ((with_reducible (show wpList _ _ _ (Oper.mk _ (Op.alloc 51) _ _ _ _ :: _) _ _)); refine wpList_lay51 rfl rfl rfl (.tmp 1) (.tmp 6) rfl zAs_len zAs_rows rfl rfl ?_))
  generalize w.alloc (.cells (nc 2 zAs).toArray 51) = W at *
  generalize hgg : w.heap.size = g at *
  have HGG := Lib.hid hgg
  clear hgg
  have B0 := Lib.hid hB0
  have F0 := Lib.hid f0
  clear hB0 f0
  have oA : OwnA 46 (W.alloc (.cells #[.int .i64 0, .int .i64 5] 46)) (.slice (some ⟨W.heap.size, 0, none⟩) 1 1) [(0, 5)] [] := OwnA.of_heap (by rw [heap_alloc_new]; rfl) rfl rfl (by simp [maxLen])
  have fA : Frm [] W (W.alloc (.cells #[.int .i64 0, .int .i64 5] 46)) := (Frm.refl [] W).alloc _
  have hgl := B0.out.lt
  have TH := Lib.hid ((B0.out.keep0 fA).there (i := 0) (by omega))
  have hsz : (pc (.slice (some ⟨W.heap.size, 0, none⟩) 1 1) 1 0 zs).toArray.size = 35 := by rw [pc_size]; rfl
  have HSZ := Lib.hid hsz
  have hNB := (B0.out.keep0 fA).set (i := 0) (by omega) (pc (.slice (some ⟨W.heap.size, 0, none⟩) 1 1) 1 0 zs).toArray hsz (pc_one _ _ _)
  have fs : Frm [g] (W.alloc (.cells #[.int .i64 0, .int .i64 5] 46)) ((W.alloc (.cells #[.int .i64 0, .int .i64 5] 46)).setCells g (1 + 0 * 35) (pc (.slice (some ⟨W.heap.size, 0, none⟩) 1 1) 1 0 zs).toArray.toList) := Frm.setCells _ _ _ (Frm.refl _ _) (.inl (by simp))
  have hP5 : PtV (W.alloc (.cells #[.int .i64 0, .int .i64 5] 46)) (.agg (pc (.slice (some ⟨W.heap.size, 0, none⟩) 1 1) 1 0 zs).toArray) pt5 := oA.ptv zs_len
  have hPS := ((ptsv_zero (W.alloc (.cells #[.int .i64 0, .int .i64 5] 46))).set (i := 0) hP5).keep fs (fun A hA i hi h => by
    rcases List.mem_or_eq_of_mem_set hA with h2 | h2
    · rw [List.eq_of_mem_replicate h2] at hi; simp [zA, ptBlk, pc, blk] at hi
    · subst h2; rw [show ptBlk (.agg (pc (.slice (some ⟨W.heap.size, 0, none⟩) 1 1) 1 0 zs).toArray) = blk (.slice (some ⟨W.heap.size, 0, none⟩) 1 1) from ptBlk_pv _ _ _ _] at hi; simp [blk] at hi h; omega)
  go_upto_region 3 with (first
    | ((with_reducible (show wpList _ _ _ (Oper.mk _ (Op.build 26 _) _ _ _ _ :: _) _ _)); refine wpList_val rfl (exec_bld01 (.tmp 8) (.const (.int .i64 1)) rfl rfl rfl _) ?_)
    | ((with_reducible (show wpList _ _ _ (Oper.mk _ (Op.store 26 _ _) _ _ _ _ :: _) _ _)); refine wpList_store_mid rfl 26 (.tmp 11) (.tmp 9) rfl g 1 (pc (.slice (some ⟨W.heap.size, 0, none⟩) 1 1) 1 0 zs).toArray rfl rfl (by rw [HSZ.out]; exact TH.out) (by rw [i26, HSZ.out]) (pc_one _ _ _) ?_))
  have FV := Lib.hid ((F0.out.trans fA (by simp)).trans fs (fun i hi => .inr (by have := HGG.out; simp at hi; omega)))
  change NB ((W.alloc (.cells #[.int .i64 0, .int .i64 5] 46)).setCells g 1 (pc (.slice (some ⟨W.heap.size, 0, none⟩) 1 1) 1 0 zs).toArray.toList) _ _ _ at hNB
  change PtsV ((W.alloc (.cells #[.int .i64 0, .int .i64 5] 46)).setCells g 1 (pc (.slice (some ⟨W.heap.size, 0, none⟩) 1 1) 1 0 zs).toArray.toList) _ _ at hPS
  change Hid (Frm [] w ((W.alloc (.cells #[.int .i64 0, .int .i64 5] 46)).setCells g 1 (pc (.slice (some ⟨W.heap.size, 0, none⟩) 1 1) 1 0 zs).toArray.toList)) at FV
  clear fs hP5 oA fA TH hsz HSZ B0 F0
  generalize (W.alloc (.cells #[.int .i64 0, .int .i64 5] 46)).setCells g 1 (pc (.slice (some ⟨W.heap.size, 0, none⟩) 1 1) 1 0 zs).toArray.toList = V at *
  generalize (pc (.slice (some ⟨W.heap.size, 0, none⟩) 1 1) 1 0 zs).toArray = A5 at *
  have hv : NdV V (.agg (nc 2 (zAs.set 0 A5)).toArray) twoNd := ⟨_, rfl, hPS⟩
  have HV := Lib.hid hv
  have HNB := Lib.hid hNB
  clear hv hNB hPS
  have fz := Lib.hid (Frm.refl [] V)
  go_upto_region 4 with (first
    | ((with_reducible (show wpList _ _ _ (Oper.mk _ (Op.makeSlice 29 _ _) _ _ _ _ :: _) _ _)); refine wpList_make_g BT (by rfl) 256 (by omega) (.const (.int .i64 256)) (.const (.int .i64 256)) rfl rfl rfl rfl rfl ?_; intro w2 o2 f2)
    | (go_at_call 47; refine (hU.out _ _ _ o2.sl).mono ?_; rintro r w4 ⟨x4, rfl, ⟨As, rfl, hps⟩, f4⟩)
    | ((with_reducible (show wpList _ _ _ (Oper.mk _ (Op.alloc 51) _ _ _ _ :: _) _ _)); refine wpList_lay51 rfl rfl rfl (.tmp 2) (.tmp 15) rfl hps.1 hps.rows rfl rfl ?_))
  have F4 := Lib.hid (f2.trans (f4.alloc (.cells (nc zeroNd.lv As).toArray 51)) (by simp))
  generalize w4.alloc (.cells (nc zeroNd.lv As).toArray 51) = V4 at *
  clear f2 f4 o2 hps
  go_upto_region 5 with (first
    | ((with_reducible (show wpList _ _ _ (Oper.mk _ (Op.build 51 _) _ _ _ _ :: _) _ _)); refine wpList_val rfl (exec_bld51 (.const (.int .i64 1)) rfl rfl _) ?_)
    | ((with_reducible (show wpList _ _ _ (Oper.mk _ (Op.build 26 _) _ _ _ _ :: _) _ _)); refine wpList_val_g (by rfl) (exec_bld0 rfl _) ?_)
    | (go_at_call 43; refine (hS.out _).mono ?_; rintro r w6 ⟨x6, rfl, ⟨Bs, rfl, hps, -⟩, f6⟩)
    | ((with_reducible (show wpList _ _ _ (Oper.mk _ (Op.alloc 51) _ _ _ _ :: _) _ _)); refine wpList_lay51 rfl rfl rfl (.tmp 4) (.tmp 21) rfl hps.1 hps.rows rfl rfl ?_))
  have F6 := Lib.hid (F4.out.trans (f6.alloc (.cells (nc zeroNd.lv Bs).toArray 51)) (by simp))
  generalize w6.alloc (.cells (nc zeroNd.lv Bs).toArray 51) = V6 at *
  clear f6 hps fz
  have fz := Lib.hid (Frm.refl [] V6)
  go_wp2_with (first
    | (go_at_call 35; refine (nawake_any _).mono ?_; rintro r wn ⟨rfl, fn⟩; replace fz := Lib.hid (fz.out.trans fn (by simp)); clear fn)
    | ((with_reducible (show wpList _ _ _ (Oper.mk _ (Op.load 51 _) _ _ _ _ :: _) _ _)); refine wpList_load_g (by rfl) 51 _ rfl _ rfl (HNB.out.keep0 (F6.out.trans fz.out (by simp))).all ?_)
    | ((with_reducible (show wpList _ _ _ (Oper.mk _ (Op.build 51 _) _ _ _ _ :: _) _ _)); refine wpList_val_g (by rfl) (exec_bld51 (.const (.int .i64 4)) rfl rfl _) ?_)
    | (go_at_call 39; (first | with_reducible refine (hC4.out _).mono ?_ | with_reducible refine (hC2.out _ _ (HV.out.keep0 (F6.out.trans fz.out (by simp)))).mono ?_); rintro r wn ⟨rfl, fn⟩; replace fz := Lib.hid (fz.out.trans fn (by simp)); clear fn)
    | (go_at_call 41; refine (hE2.out _ _ (HV.out.keep0 (F6.out.trans fz.out (by simp)))).mono ?_; rintro r wn ⟨rfl, fn⟩; replace fz := Lib.hid (fz.out.trans fn (by simp)); clear fn))
  go_ret
  exact ⟨rfl, FV.out.trans (F6.out.trans fz.out (by simp)) (by simp)⟩
end Go.Proofs.Ytjjcjocomanohaa

namespace Go.Proofs.Ytjjcjocomanohaa
open Go.RowKit
set_option linter.unusedVariables false
set_option linter.unusedSimpArgs false
set_option maxRecDepth 100000

/-- Has a pointer more than twenty addresses? -/
def bigB (n : Nd) : Bool := n.ps.any (fun p => decide (20 < p.ads.length))
theorem big_yes {n : Nd} {i : Nat} {p : Pt} (h : n.ps[i]? = some p) (hs : 20 < p.ads.length) : bigB n = true := by
  unfold bigB
  rw [List.any_eq_true]
  exact ⟨p, List.mem_of_getElem? h, by simpa using hs⟩
theorem big_no {n : Nd} (h : ∀ (j : Nat) (p : Pt), j < 4 → n.ps[j]? = some p → p.ads.length ≤ 20) (h4 : n.ps.length = 4) : bigB n = false := by
  unfold bigB
  rw [List.any_eq_false]
  intro p hp
  obtain ⟨i, hi, rfl⟩ := List.getElem_of_mem hp
  have := h i _ (by omega) (List.getElem?_eq_getElem hi)
  simp
  omega
theorem big_ads {n : Nd} (h : bigB n = false) : ∀ p ∈ n.ps, p.ads.length ≤ 20 := fun p hp => by
  have := List.any_eq_false.1 h p hp
  simpa using this
def BigRel (ps : List Pt) (w0 : World) (cv : Value) (wr : World) : Prop := ∃ k : Nat, k ≤ 4 ∧ cv = .int .i64 k ∧ (∀ (j : Nat) (p : Pt), j < k → ps[j]? = some p → p.ads.length ≤ 20) ∧ Frm [] w0 wr
set_option maxHeartbeats 4000000 in
theorem Big_any (x : Value) (n : Nd) (w : World) (hn : NdV w x n) : Calls Try.prog 34 #[x] w fun e w' => e = .returned (.bool (bigB n)) ∧ Frm [] w w' := by
  obtain ⟨N, rfl, hN, As, hps, hb⟩ := hn.box
  have b0 := hb w
  have f0 : Frm [] w (w.alloc (.cells N 51)) := (Frm.refl [] w).alloc _
  have HPS := Lib.hid hps
  clear hb hn hps
  go_enter Try.func34, Try.ntmps34
  go_upto_region 1 with (fail)
  generalize w.alloc (.cells N 51) = W at *
  have B0 := Lib.hid b0
  have F0 := Lib.hid f0
  clear b0 f0
  go_wp2_with fail
  go_loopw [3] (BigRel n.ps W) (fun cv _ => 4 - (intOf cv).toNat)
  case atStart => exact ⟨0, by omega, rfl, fun j p hj => by omega, Frm.refl _ _⟩
  case round =>
    obtain ⟨k, hk, rfl, hst, f⟩ := hrel
    have HST := Lib.hid hst
    have Fk := Lib.hid f
    clear hst f
    by_cases hlt : k < 4
    · obtain ⟨A, p, hA, hp, hv⟩ := HPS.out.get hlt
      obtain ⟨a, cap, sp, h0, _⟩ := ptv_list hv
      have cc : wr.cell? ⟨w.heap.size, 1 + k * 35, none⟩ = some (.slice a p.ads.length cap) := by
        have h := (B0.out.keep0 Fk.out).2.range hA 0 _ (by simpa using h0)
        simpa using h
      have HP := Lib.hid hp
      clear hA hp hv h0
      by_cases h20 : 20 < p.ads.length
      · have H := Lib.hid (big_yes HP.out h20)
        go_wp2_with fail
        go_ret
        exact ⟨by rw [H.out]; rfl, F0.out.trans Fk.out (by simp)⟩
      · have H20 := Lib.hid (show p.ads.length ≤ 20 by omega)
        have h20' : ¬ (20 : Int) < (p.ads.length : Int) := by omega
        clear h20
        go_wp2_with fail
        go_roundw
        case rel => exact ⟨k + 1, by omega, by go_num, fun j p' hj hp' => by
          rcases Nat.lt_or_ge j k with h | h
          · exact HST.out j p' h hp'
          · obtain rfl : j = k := by omega
            rw [HP.out] at hp'
            cases hp'
            exact H20.out, Fk.out⟩
        case measure => simp [intOf]; omega
    · obtain rfl : k = 4 := by omega
      have H := Lib.hid (big_no (n := n) HST.out HPS.out.2.1)
      go_wp2_with fail
      go_ret
      exact ⟨by rw [H.out]; rfl, F0.out.trans Fk.out (by simp)⟩
def CntRel (w0 : World) (cv : Value) (wr : World) : Prop := ∃ k : Nat, k ≤ 4 ∧ cv = .int .i64 k ∧ Frm [] w0 wr
set_option maxHeartbeats 4000000 in
theorem SameNode_true (x y : Value) (n : Nd) (w : World) (hn : NdV w x n) (hm : NdV w y n) (hl : ∀ p ∈ n.ps, p.ads.length ≤ 1000000) : Calls Try.prog 45 #[x, y] w (Yes w) := by
  obtain ⟨N, rfl, hN, As, hps, hb⟩ := hn.box
  obtain ⟨M, rfl, hM, Bs, hqs, hc⟩ := hm.box
  have b0 : BoxN ((w.alloc (.cells N 51)).alloc (.cells M 51)) w.heap.size (.agg N) n.lv As := (hb w).keep0 ((Frm.refl [] _).alloc _)
  have b1 : BoxN ((w.alloc (.cells N 51)).alloc (.cells M 51)) (w.heap.size + 1) (.agg M) n.lv Bs := by have := hc (w.alloc (.cells N 51)); simpa using this
  have f0 : Frm [] w ((w.alloc (.cells N 51)).alloc (.cells M 51)) := ((Frm.refl [] w).alloc _).alloc _
  have HPS := Lib.hid hps
  have HQS := Lib.hid hqs
  have HL := Lib.hid hl
  clear hb hc hn hm hps hqs hl
  go_enter Try.func45, Try.ntmps45
  go_upto_region 1 with (fail)
  generalize (w.alloc (.cells N 51)).alloc (.cells M 51) = W at *
  have B0 := Lib.hid b0
  have B1 := Lib.hid b1
  have F0 := Lib.hid f0
  have c0 := b0.2.lev
  have c1 := b1.2.lev
  clear b0 b1 f0
  go_wp2_with fail
  go_loopw [5] (CntRel W) (fun cv _ => 4 - (intOf cv).toNat)
  case atStart => exact ⟨0, by omega, rfl, Frm.refl _ _⟩
  case round =>
    obtain ⟨k, hk, rfl, f⟩ := hrel
    have Fk := Lib.hid f
    have d0 := f.cell c0 (by simp)
    have d1 := f.cell c1 (by simp)
    clear f c0 c1
    by_cases hlt : k < 4
    · obtain ⟨A, p, hA, hp, hv⟩ := HPS.out.get hlt
      obtain ⟨B, q, hB, hq, hu⟩ := HQS.out.get hlt
      have hpl := HL.out p (List.mem_of_getElem? hp)
      rw [hp] at hq
      cases hq
      have HM := Lib.hid (fun W (f : Frm [] w W) => SamePointer_any (.agg A) (.agg B) p p W (hv.keep0 f) (hu.keep0 f) hpl)
      rw [same_refl] at HM
      have LA := Lib.hid hA
      have LB := Lib.hid hB
      clear hA hB hp hv hu hpl
      go_upto_region 4 with (fail)
      refine wp_region_held_drew (S := fun z => Frm [] wr z) (by kernel_rfl) ((Frm.refl [] wr).drew) (fun hHeld => ?_)
      refine wpAnyH_take (i := 0) (oi := { dst := some 10, op := Op.move (Operand.tmp 5), type := 3, pos := "nodes.go:8", after := #[], guard := none }) (v := ?_) rfl (by kernel_rfl) (by kernel_rfl) (by kernel_rfl) (fun _ _ _ h => h) (Or.inl ⟨by rfl, ?_⟩) hHeld ?_
      rotate_left
      focus (intro z hSw; clear hSw; go_simp; try with_reducible rfl)
      try simp only [Act.put, List.setIfInBounds_toArray, List.set_cons_zero, List.set_cons_succ]
      refine wpAnyH_take (i := 1) (oi := { dst := some 11, op := Op.fieldAddr 51 (Operand.tmp 2) 1, type := 0, pos := "nodes.go:8", after := #[], guard := none }) (v := ?_) rfl (by kernel_rfl) (by kernel_rfl) (by kernel_rfl) (fun _ _ _ h => h) (Or.inl ⟨by rfl, ?_⟩) hHeld ?_
      rotate_left
      focus (intro z hSw; clear hSw; go_simp; try with_reducible rfl)
      try simp only [Act.put, List.setIfInBounds_toArray, List.set_cons_zero, List.set_cons_succ]
      refine wpAnyH_take (i := 2) (oi := { dst := some 12, op := Op.indexAddr 49 (Operand.tmp 11) (Operand.tmp 10), type := 0, pos := "nodes.go:8", after := #[{ on := 1, ground := Ground.data }, { on := 0, ground := Ground.data }], guard := none }) (v := ?_) rfl (by kernel_rfl) (by kernel_rfl) (by kernel_rfl) (fun _ _ _ h => h) (Or.inl ⟨by rfl, ?_⟩) hHeld ?_
      rotate_left
      focus (intro z hSw; clear hSw; go_simp; try with_reducible rfl)
      try simp only [Act.put, List.setIfInBounds_toArray, List.set_cons_zero, List.set_cons_succ]
      refine wpAnyH_take (i := 3) (oi := { dst := some 13, op := Op.load 26 (Operand.tmp 12), type := 26, pos := "nodes.go:8", after := #[{ on := 2, ground := Ground.data }], guard := none }) rfl (by kernel_rfl) (by kernel_rfl) (by kernel_rfl) (fun _ _ _ h => h) (yieldsIf_ld (by rfl) 26 _ rfl _ rfl (fun z hSw => ((B0.out.keep0 Fk.out).keep0 hSw).2.load LA.out)) hHeld ?_
      try simp only [Act.put, List.setIfInBounds_toArray, List.set_cons_zero, List.set_cons_succ]
      refine wpAnyH_take (i := 4) (oi := { dst := some 14, op := Op.move (Operand.tmp 5), type := 3, pos := "nodes.go:8", after := #[], guard := none }) (v := ?_) rfl (by kernel_rfl) (by kernel_rfl) (by kernel_rfl) (fun _ _ _ h => h) (Or.inl ⟨by rfl, ?_⟩) hHeld ?_
      rotate_left
      focus (intro z hSw; clear hSw; go_simp; try with_reducible rfl)
      try simp only [Act.put, List.setIfInBounds_toArray, List.set_cons_zero, List.set_cons_succ]
      refine wpAnyH_take (i := 5) (oi := { dst := some 15, op := Op.fieldAddr 51 (Operand.tmp 3) 1, type := 0, pos := "nodes.go:8", after := #[], guard := none }) (v := ?_) rfl (by kernel_rfl) (by kernel_rfl) (by kernel_rfl) (fun _ _ _ h => h) (Or.inl ⟨by rfl, ?_⟩) hHeld ?_
      rotate_left
      focus (intro z hSw; clear hSw; go_simp; try with_reducible rfl)
      try simp only [Act.put, List.setIfInBounds_toArray, List.set_cons_zero, List.set_cons_succ]
      refine wpAnyH_take (i := 6) (oi := { dst := some 16, op := Op.indexAddr 49 (Operand.tmp 15) (Operand.tmp 14), type := 0, pos := "nodes.go:8", after := #[{ on := 5, ground := Ground.data }, { on := 4, ground := Ground.data }], guard := none }) (v := ?_) rfl (by kernel_rfl) (by kernel_rfl) (by kernel_rfl) (fun _ _ _ h => h) (Or.inl ⟨by rfl, ?_⟩) hHeld ?_
      rotate_left
      focus (intro z hSw; clear hSw; go_simp; try with_reducible rfl)
      try simp only [Act.put, List.setIfInBounds_toArray, List.set_cons_zero, List.set_cons_succ]
      refine wpAnyH_take (i := 7) (oi := { dst := some 17, op := Op.load 26 (Operand.tmp 16), type := 26, pos := "nodes.go:8", after := #[{ on := 6, ground := Ground.data }], guard := none }) rfl (by kernel_rfl) (by kernel_rfl) (by kernel_rfl) (fun _ _ _ h => h) (yieldsIf_ld (by rfl) 26 _ rfl _ rfl (fun z hSw => ((B1.out.keep0 Fk.out).keep0 hSw).2.load LB.out)) hHeld ?_
      try simp only [Act.put, List.setIfInBounds_toArray, List.set_cons_zero, List.set_cons_succ]
      refine wpAnyH_ready (rs := [8]) (by kernel_rfl) (by simp) ?_
      refine AllReadyH.cons (o := { dst := some 18, op := Op.call { callee := Callee.value (Operand.func 27), args := #[Operand.tmp 13, Operand.tmp 17], argTypes := #[26, 26] }, type := 4, pos := "nodes.go:8", after := #[{ on := 3, ground := Ground.data }, { on := 7, ground := Ground.data }], guard := none }) rfl (fun K hK => ?_) AllReadyH.nil
      go_simp
      refine (HM.out _ ((F0.out.trans Fk.out (by simp)).trans hHeld (by simp))).mono ?_
      rintro r wn ⟨rfl, fn⟩
      refine hK.out _ _ ?_ (fun hNext => ?_)
      · exact hHeld.trans fn (by simp)
      clear hK K hHeld
      have hHeld := hNext
      clear hNext
      try simp only [Act.put, List.setIfInBounds_toArray, List.set_cons_zero, List.set_cons_succ]
      refine wpAnyH_take (i := 9) (oi := { dst := some 19, op := Op.unOp UnOp.not 4 (Operand.tmp 18), type := 4, pos := "nodes.go:8", after := #[{ on := 8, ground := Ground.data }], guard := none }) (v := ?_) rfl (by kernel_rfl) (by kernel_rfl) (by kernel_rfl) (fun _ _ _ h => h) (Or.inl ⟨by rfl, ?_⟩) hHeld ?_
      rotate_left
      focus (intro z hSw; clear hSw; go_simp; try with_reducible rfl)
      try simp only [Act.put, List.setIfInBounds_toArray, List.set_cons_zero, List.set_cons_succ]
      refine wpAnyH_done (by kernel_rfl) ?_ _
      go_wp2_with fail
      go_roundw
      case rel => exact ⟨k + 1, by omega, by go_num, Fk.out.trans hHeld (by simp)⟩
      case measure => simp [intOf]; omega
    · obtain rfl : k = 4 := by omega
      go_wp2_with fail
      go_ret
      exact ⟨rfl, F0.out.trans Fk.out (by simp)⟩
end Go.Proofs.Ytjjcjocomanohaa

namespace Go.Proofs.Ytjjcjocomanohaa
open Go.RowKit
set_option linter.unusedVariables false
set_option linter.unusedSimpArgs false
set_option maxRecDepth 100000

theorem ptv_level {w : World} {A : Array Value} {p : Pt} (h0 : PtV w (.agg A) p) : A[2]? = some (.int .i64 p.l) := by
  obtain ⟨a0, cap0, sp0, e, h2, h3⟩ := h0
  have e' : A = (pc (.slice a0 p.ads.length cap0) p.b p.l p.s).toArray := by simpa [pv] using e
  subst e'
  rfl
set_option maxHeartbeats 8000000 in
theorem RefNodeCheck_any (x : Value) (n : Nd) (w : World) (hn : NdV w x n) (hl : ∀ p ∈ n.ps, p.ads.length ≤ 1000000) :
    Calls Try.prog 40 #[x] w fun e w' => e = .returned (.int .i64 (nchk n)) ∧ Frm [] w w' := by
  obtain ⟨N, rfl, hN, As, hps, hb⟩ := hn.box
  have b0 := hb w
  have f0 : Frm [] w (w.alloc (.cells N 51)) := (Frm.refl [] w).alloc _
  have HPS := Lib.hid hps
  have HL := Lib.hid hl
  clear hb hn hl hps
  go_enter Try.func40, Try.ntmps40
  go_upto_region 1 with (fail)
  generalize w.alloc (.cells N 51) = W at *
  have B0 := Lib.hid b0
  have F0 := Lib.hid f0
  have c0 := b0.2.lev
  clear b0 f0
  obtain ⟨lv, hlv⟩ : ∃ lv, lv = n.lv := ⟨_, rfl⟩
  rw [← hlv] at c0
  have HLV := Lib.hid hlv
  clear hlv
  by_cases h1 : 1 ≤ lv ∧ lv ≤ 3
  · go_upto_region 3 with (fail)
    go_wp2_with fail
    go_loopw [3] (StandRel n.ps lv W) (fun cv _ => 4 - (intOf cv).toNat)
    case atStart => exact ⟨0, by omega, rfl, fun j p hj => by omega, Frm.refl _ _⟩
    case round =>
      obtain ⟨k, hk, rfl, hst, f⟩ := hrel
      have HST := Lib.hid hst
      have Fk := Lib.hid f
      have CK := Lib.hid (f.cell c0 (by simp))
      clear hst f c0
      by_cases hlt : k < 4
      · obtain ⟨A, p, hA, hp, hv⟩ := HPS.out.get hlt
        have hpl := HL.out p (List.mem_of_getElem? hp)
        have HA := Lib.hid hA
        have HC := Lib.hid (fun W (f : Frm [] w W) => RefCheck_any (.agg A) p W (hv.keep0 f) hpl)
        have HH := Lib.hid (fun W (f : Frm [] w W) => RefHole_any (.agg A) p W (hv.keep0 f))
        have CP := Lib.hid (fun W' (f : Frm [] wr W') => show W'.cell? ⟨w.heap.size, 1 + k * 35 + 2, none⟩ = some (.int .i64 p.l) from by
          have h := ((B0.out.keep0 Fk.out).keep0 f).2.range hA 2 _ (by simpa using ptv_level hv)
          exact h)
        have HP := Lib.hid hp
        have FF := Lib.hid (F0.out.trans Fk.out (by simp))
        have hw1 : IntKind.i64.wrap (lv - 1) = lv - 1 := IntWalk.i64_in _ (by omega)
        have HSB := Lib.hid (show standB p lv = (hole p || (decide (chk p = 0) && p.l == lv - 1)) from rfl)
        have hcc : chk p = 0 ∨ chk p = 2 := by rcases chk_cases p with ⟨_, e, _⟩ | ⟨_, e, _⟩; exact .inl e; exact .inr e
        have hhc : hole p = true → chk p = 0 := fun h => by simp [chk, (mayB_iff p).2 (.inl h)]
        have HNO := Lib.hid (fun (h : standB p lv = false) => nchk_no HP.out (by rw [← HLV.out]; exact h))
        have HREL := Lib.hid (fun (h : standB p lv = true) => show ∀ (j : Nat) (p' : Pt), j < k + 1 → n.ps[j]? = some p' → standB p' lv = true from fun j p' hj hp' => by
          rcases Nat.lt_or_ge j k with h' | h'
          · exact HST.out j p' h' hp'
          · obtain rfl : j = k := by omega
            rw [HP.out] at hp'
            cases hp'
            exact h)
        clear hA hp hv hpl
        generalize p.l = pl at *
        generalize chk p = ck at *
        generalize hole p = hh at *
        go_upto_region 6 with (fail)
        rcases hcc with rfl | rfl
        · cases hh with
          | true =>
            clear hhc
            refine wp_region_held_drew (S := fun z => Frm [] wr z) (by kernel_rfl) ((Frm.refl [] wr).drew) (fun hHeld => ?_)
            refine wpAnyH_take (i := 0) (oi := { dst := some 16, op := Op.move (Operand.tmp 3), type := 3, pos := "ref.go:15", after := #[], guard := none }) (v := ?_) rfl (by kernel_rfl) (by kernel_rfl) (by kernel_rfl) (fun _ _ _ h => h) (Or.inl ⟨by rfl, ?_⟩) hHeld ?_
            rotate_left
            focus (intro z hSw; clear hSw; go_simp; try with_reducible rfl)
            try simp only [Act.put, List.setIfInBounds_toArray, List.set_cons_zero, List.set_cons_succ]
            refine wpAnyH_take (i := 1) (oi := { dst := some 17, op := Op.fieldAddr 51 (Operand.tmp 1) 1, type := 0, pos := "ref.go:15", after := #[], guard := none }) (v := ?_) rfl (by kernel_rfl) (by kernel_rfl) (by kernel_rfl) (fun _ _ _ h => h) (Or.inl ⟨by rfl, ?_⟩) hHeld ?_
            rotate_left
            focus (intro z hSw; clear hSw; go_simp; try with_reducible rfl)
            try simp only [Act.put, List.setIfInBounds_toArray, List.set_cons_zero, List.set_cons_succ]
            refine wpAnyH_take (i := 2) (oi := { dst := some 18, op := Op.indexAddr 49 (Operand.tmp 17) (Operand.tmp 16), type := 0, pos := "ref.go:15", after := #[{ on := 1, ground := Ground.data }, { on := 0, ground := Ground.data }], guard := none }) (v := ?_) rfl (by kernel_rfl) (by kernel_rfl) (by kernel_rfl) (fun _ _ _ h => h) (Or.inl ⟨by rfl, ?_⟩) hHeld ?_
            rotate_left
            focus (intro z hSw; clear hSw; go_simp; try with_reducible rfl)
            try simp only [Act.put, List.setIfInBounds_toArray, List.set_cons_zero, List.set_cons_succ]
            refine wpAnyH_take (i := 3) (oi := { dst := some 19, op := Op.load 26 (Operand.tmp 18), type := 26, pos := "ref.go:15", after := #[{ on := 2, ground := Ground.data }], guard := none }) rfl (by kernel_rfl) (by kernel_rfl) (by kernel_rfl) (fun _ _ _ h => h) (yieldsIf_ld (by rfl) 26 _ rfl _ rfl (fun z hSw => ((B0.out.keep0 Fk.out).keep0 hSw).2.load HA.out)) hHeld ?_
            try simp only [Act.put, List.setIfInBounds_toArray, List.set_cons_zero, List.set_cons_succ]
            refine wpAnyH_ready (rs := [4]) (by kernel_rfl) (by simp) ?_
            refine AllReadyH.cons (o := { dst := some 20, op := Op.call { callee := Callee.value (Operand.func 19), args := #[Operand.tmp 19], argTypes := #[26] }, type := 30, pos := "ref.go:15", after := #[{ on := 3, ground := Ground.data }], guard := none }) rfl (fun K hK => ?_) AllReadyH.nil
            go_simp
            refine (HC.out _ (FF.out.trans hHeld (by simp))).mono ?_
            rintro r wn ⟨rfl, fn⟩
            refine hK.out _ _ ?_ (fun hNext => ?_)
            · exact hHeld.trans fn (by simp)
            clear hK K hHeld
            have hHeld := hNext
            clear hNext
            try simp only [Act.put, List.setIfInBounds_toArray, List.set_cons_zero, List.set_cons_succ]
            refine wpAnyH_take (i := 5) (oi := { dst := some 21, op := Op.binOp BinOp.neq 30 (Operand.tmp 20) (Operand.const (Value.int IntKind.i64 0)) 30, type := 4, pos := "ref.go:15", after := #[{ on := 4, ground := Ground.data }], guard := none }) (v := ?_) rfl (by kernel_rfl) (by kernel_rfl) (by kernel_rfl) (fun _ _ _ h => h) (Or.inl ⟨by rfl, ?_⟩) hHeld ?_
            rotate_left
            focus (intro z hSw; clear hSw; go_simp; try with_reducible rfl)
            try simp only [Act.put, List.setIfInBounds_toArray, List.set_cons_zero, List.set_cons_succ]
            refine wpAnyH_take (i := 6) (oi := { dst := some 22, op := Op.move (Operand.tmp 21), type := 4, pos := "ref.go:15", after := #[{ on := 5, ground := Ground.data }, { on := 4, ground := Ground.chain }], guard := none }) (v := ?_) rfl (by kernel_rfl) (by kernel_rfl) (by kernel_rfl) (fun _ _ _ h => h) (Or.inl ⟨by rfl, ?_⟩) hHeld ?_
            rotate_left
            focus (intro z hSw; clear hSw; go_simp; try with_reducible rfl)
            try simp only [Act.put, List.setIfInBounds_toArray, List.set_cons_zero, List.set_cons_succ]
            refine wpAnyH_take (i := 7) (oi := { dst := some 23, op := Op.move (Operand.tmp 3), type := 3, pos := "ref.go:15", after := #[{ on := 6, ground := Ground.guard }], guard := some (6, false) }) (v := ?_) rfl (by kernel_rfl) (by kernel_rfl) (by kernel_rfl) (fun _ _ _ h => h) (Or.inl ⟨by rfl, ?_⟩) hHeld ?_
            rotate_left
            focus (intro z hSw; clear hSw; go_simp; try with_reducible rfl)
            try simp only [Act.put, List.setIfInBounds_toArray, List.set_cons_zero, List.set_cons_succ]
            refine wpAnyH_take (i := 8) (oi := { dst := some 24, op := Op.fieldAddr 51 (Operand.tmp 1) 1, type := 0, pos := "ref.go:15", after := #[{ on := 6, ground := Ground.guard }], guard := some (6, false) }) (v := ?_) rfl (by kernel_rfl) (by kernel_rfl) (by kernel_rfl) (fun _ _ _ h => h) (Or.inl ⟨by rfl, ?_⟩) hHeld ?_
            rotate_left
            focus (intro z hSw; clear hSw; go_simp; try with_reducible rfl)
            try simp only [Act.put, List.setIfInBounds_toArray, List.set_cons_zero, List.set_cons_succ]
            refine wpAnyH_take (i := 9) (oi := { dst := some 25, op := Op.indexAddr 49 (Operand.tmp 24) (Operand.tmp 23), type := 0, pos := "ref.go:15", after := #[{ on := 8, ground := Ground.data }, { on := 7, ground := Ground.data }, { on := 6, ground := Ground.guard }], guard := some (6, false) }) (v := ?_) rfl (by kernel_rfl) (by kernel_rfl) (by kernel_rfl) (fun _ _ _ h => h) (Or.inl ⟨by rfl, ?_⟩) hHeld ?_
            rotate_left
            focus (intro z hSw; clear hSw; go_simp; try with_reducible rfl)
            try simp only [Act.put, List.setIfInBounds_toArray, List.set_cons_zero, List.set_cons_succ]
            refine wpAnyH_take (i := 10) (oi := { dst := some 26, op := Op.load 26 (Operand.tmp 25), type := 26, pos := "ref.go:15", after := #[{ on := 9, ground := Ground.data }, { on := 6, ground := Ground.guard }], guard := some (6, false) }) rfl (by kernel_rfl) (by kernel_rfl) (by kernel_rfl) (fun _ _ _ h => h) (yieldsIf_ld (by rfl) 26 _ rfl _ rfl (fun z hSw => ((B0.out.keep0 Fk.out).keep0 hSw).2.load HA.out)) hHeld ?_
            try simp only [Act.put, List.setIfInBounds_toArray, List.set_cons_zero, List.set_cons_succ]
            refine wpAnyH_ready (rs := [11]) (by kernel_rfl) (by simp) ?_
            refine AllReadyH.cons (o := { dst := some 27, op := Op.call { callee := Callee.value (Operand.func 21), args := #[Operand.tmp 26], argTypes := #[26] }, type := 4, pos := "ref.go:15", after := #[{ on := 10, ground := Ground.data }, { on := 6, ground := Ground.chain }, { on := 6, ground := Ground.guard }], guard := some (6, false) }) rfl (fun K hK => ?_) AllReadyH.nil
            go_simp
            refine (HH.out _ (FF.out.trans hHeld (by simp))).mono ?_
            rintro r wn ⟨rfl, fn⟩
            refine hK.out _ _ ?_ (fun hNext => ?_)
            · exact hHeld.trans fn (by simp)
            clear hK K hHeld
            have hHeld := hNext
            clear hNext
            try simp only [Act.put, List.setIfInBounds_toArray, List.set_cons_zero, List.set_cons_succ]
            refine wpAnyH_take (i := 12) (oi := { dst := some 28, op := Op.unOp UnOp.not 4 (Operand.tmp 27), type := 4, pos := "ref.go:15", after := #[{ on := 11, ground := Ground.data }, { on := 6, ground := Ground.guard }], guard := some (6, false) }) (v := ?_) rfl (by kernel_rfl) (by kernel_rfl) (by kernel_rfl) (fun _ _ _ h => h) (Or.inl ⟨by rfl, ?_⟩) hHeld ?_
            rotate_left
            focus (intro z hSw; clear hSw; go_simp; try with_reducible rfl)
            try simp only [Act.put, List.setIfInBounds_toArray, List.set_cons_zero, List.set_cons_succ]
            refine wpAnyH_take (i := 13) (oi := { dst := some 29, op := Op.move (Operand.tmp 28), type := 4, pos := "ref.go:15", after := #[{ on := 12, ground := Ground.data }, { on := 11, ground := Ground.chain }, { on := 6, ground := Ground.guard }], guard := some (6, false) }) (v := ?_) rfl (by kernel_rfl) (by kernel_rfl) (by kernel_rfl) (fun _ _ _ h => h) (Or.inl ⟨by rfl, ?_⟩) hHeld ?_
            rotate_left
            focus (intro z hSw; clear hSw; go_simp; try with_reducible rfl)
            try simp only [Act.put, List.setIfInBounds_toArray, List.set_cons_zero, List.set_cons_succ]
            refine wpAnyH_take (i := 14) (oi := { dst := some 30, op := Op.move (Operand.tmp 3), type := 3, pos := "ref.go:15", after := #[{ on := 13, ground := Ground.guard }], guard := some (13, true) }) (v := undef) rfl (by kernel_rfl) (by kernel_rfl) (by kernel_rfl) (fun _ _ _ h => h) (Or.inr ⟨by rfl, rfl⟩) hHeld ?_
            try simp only [Act.put, List.setIfInBounds_toArray, List.set_cons_zero, List.set_cons_succ]
            refine wpAnyH_take (i := 15) (oi := { dst := some 31, op := Op.fieldAddr 51 (Operand.tmp 1) 1, type := 0, pos := "ref.go:15", after := #[{ on := 13, ground := Ground.guard }], guard := some (13, true) }) (v := undef) rfl (by kernel_rfl) (by kernel_rfl) (by kernel_rfl) (fun _ _ _ h => h) (Or.inr ⟨by rfl, rfl⟩) hHeld ?_
            try simp only [Act.put, List.setIfInBounds_toArray, List.set_cons_zero, List.set_cons_succ]
            refine wpAnyH_take (i := 16) (oi := { dst := some 32, op := Op.indexAddr 49 (Operand.tmp 31) (Operand.tmp 30), type := 0, pos := "ref.go:15", after := #[{ on := 15, ground := Ground.data }, { on := 14, ground := Ground.data }, { on := 13, ground := Ground.guard }], guard := some (13, true) }) (v := undef) rfl (by kernel_rfl) (by kernel_rfl) (by kernel_rfl) (fun _ _ _ h => h) (Or.inr ⟨by rfl, rfl⟩) hHeld ?_
            try simp only [Act.put, List.setIfInBounds_toArray, List.set_cons_zero, List.set_cons_succ]
            refine wpAnyH_take (i := 17) (oi := { dst := some 33, op := Op.fieldAddr 26 (Operand.tmp 32) 2, type := 0, pos := "ref.go:15", after := #[{ on := 16, ground := Ground.data }, { on := 13, ground := Ground.guard }], guard := some (13, true) }) (v := undef) rfl (by kernel_rfl) (by kernel_rfl) (by kernel_rfl) (fun _ _ _ h => h) (Or.inr ⟨by rfl, rfl⟩) hHeld ?_
            try simp only [Act.put, List.setIfInBounds_toArray, List.set_cons_zero, List.set_cons_succ]
            refine wpAnyH_take (i := 18) (oi := { dst := some 34, op := Op.load 3 (Operand.tmp 33), type := 3, pos := "ref.go:15", after := #[{ on := 17, ground := Ground.data }, { on := 13, ground := Ground.guard }], guard := some (13, true) }) (v := undef) rfl (by kernel_rfl) (by kernel_rfl) (by kernel_rfl) (fun _ _ _ h => h) (Or.inr ⟨by rfl, rfl⟩) hHeld ?_
            try simp only [Act.put, List.setIfInBounds_toArray, List.set_cons_zero, List.set_cons_succ]
            refine wpAnyH_take (i := 19) (oi := { dst := some 35, op := Op.fieldAddr 51 (Operand.tmp 1) 0, type := 0, pos := "ref.go:15", after := #[{ on := 13, ground := Ground.guard }], guard := some (13, true) }) (v := undef) rfl (by kernel_rfl) (by kernel_rfl) (by kernel_rfl) (fun _ _ _ h => h) (Or.inr ⟨by rfl, rfl⟩) hHeld ?_
            try simp only [Act.put, List.setIfInBounds_toArray, List.set_cons_zero, List.set_cons_succ]
            refine wpAnyH_take (i := 20) (oi := { dst := some 36, op := Op.load 3 (Operand.tmp 35), type := 3, pos := "ref.go:15", after := #[{ on := 19, ground := Ground.data }, { on := 13, ground := Ground.guard }], guard := some (13, true) }) (v := undef) rfl (by kernel_rfl) (by kernel_rfl) (by kernel_rfl) (fun _ _ _ h => h) (Or.inr ⟨by rfl, rfl⟩) hHeld ?_
            try simp only [Act.put, List.setIfInBounds_toArray, List.set_cons_zero, List.set_cons_succ]
            refine wpAnyH_take (i := 21) (oi := { dst := some 37, op := Op.binOp BinOp.sub 3 (Operand.tmp 36) (Operand.const (Value.int IntKind.i64 1)) 3, type := 3, pos := "ref.go:15", after := #[{ on := 20, ground := Ground.data }, { on := 13, ground := Ground.guard }], guard := some (13, true) }) (v := undef) rfl (by kernel_rfl) (by kernel_rfl) (by kernel_rfl) (fun _ _ _ h => h) (Or.inr ⟨by rfl, rfl⟩) hHeld ?_
            try simp only [Act.put, List.setIfInBounds_toArray, List.set_cons_zero, List.set_cons_succ]
            refine wpAnyH_take (i := 22) (oi := { dst := some 38, op := Op.binOp BinOp.neq 3 (Operand.tmp 34) (Operand.tmp 37) 3, type := 4, pos := "ref.go:15", after := #[{ on := 18, ground := Ground.data }, { on := 21, ground := Ground.data }, { on := 13, ground := Ground.guard }], guard := some (13, true) }) (v := undef) rfl (by kernel_rfl) (by kernel_rfl) (by kernel_rfl) (fun _ _ _ h => h) (Or.inr ⟨by rfl, rfl⟩) hHeld ?_
            try simp only [Act.put, List.setIfInBounds_toArray, List.set_cons_zero, List.set_cons_succ]
            refine wpAnyH_take (i := 23) (oi := { dst := some 39, op := Op.pick (Operand.tmp 29) (Operand.tmp 38) (Operand.const (Value.bool false)), type := 4, pos := "ref.go:15", after := #[{ on := 13, ground := Ground.data }, { on := 22, ground := Ground.data }, { on := 6, ground := Ground.guard }], guard := some (6, false) }) (v := ?_) rfl (by kernel_rfl) (by kernel_rfl) (by kernel_rfl) (fun _ _ _ h => h) (Or.inl ⟨by rfl, ?_⟩) hHeld ?_
            rotate_left
            focus (intro z hSw; clear hSw; go_simp; try with_reducible rfl)
            try simp only [Act.put, List.setIfInBounds_toArray, List.set_cons_zero, List.set_cons_succ]
            refine wpAnyH_take (i := 24) (oi := { dst := some 40, op := Op.pick (Operand.tmp 22) (Operand.const (Value.bool true)) (Operand.tmp 39), type := 4, pos := "ref.go:15", after := #[{ on := 6, ground := Ground.data }, { on := 23, ground := Ground.data }], guard := none }) (v := ?_) rfl (by kernel_rfl) (by kernel_rfl) (by kernel_rfl) (fun _ _ _ h => h) (Or.inl ⟨by rfl, ?_⟩) hHeld ?_
            rotate_left
            focus (intro z hSw; clear hSw; go_simp; try with_reducible rfl)
            try simp only [Act.put, List.setIfInBounds_toArray, List.set_cons_zero, List.set_cons_succ]
            refine wpAnyH_done (by kernel_rfl) ?_ _
            have H := Lib.hid (HREL.out (by rw [HSB.out]; rfl))
            go_wp2_with fail
            go_roundw
            case rel => exact ⟨k + 1, by omega, by go_num, H.out, Fk.out.trans hHeld (by simp)⟩
            case measure => simp [intOf]; omega
          | false =>
            clear hhc
            refine wp_region_held_drew (S := fun z => Frm [] wr z) (by kernel_rfl) ((Frm.refl [] wr).drew) (fun hHeld => ?_)
            refine wpAnyH_take (i := 0) (oi := { dst := some 16, op := Op.move (Operand.tmp 3), type := 3, pos := "ref.go:15", after := #[], guard := none }) (v := ?_) rfl (by kernel_rfl) (by kernel_rfl) (by kernel_rfl) (fun _ _ _ h => h) (Or.inl ⟨by rfl, ?_⟩) hHeld ?_
            rotate_left
            focus (intro z hSw; clear hSw; go_simp; try with_reducible rfl)
            try simp only [Act.put, List.setIfInBounds_toArray, List.set_cons_zero, List.set_cons_succ]
            refine wpAnyH_take (i := 1) (oi := { dst := some 17, op := Op.fieldAddr 51 (Operand.tmp 1) 1, type := 0, pos := "ref.go:15", after := #[], guard := none }) (v := ?_) rfl (by kernel_rfl) (by kernel_rfl) (by kernel_rfl) (fun _ _ _ h => h) (Or.inl ⟨by rfl, ?_⟩) hHeld ?_
            rotate_left
            focus (intro z hSw; clear hSw; go_simp; try with_reducible rfl)
            try simp only [Act.put, List.setIfInBounds_toArray, List.set_cons_zero, List.set_cons_succ]
            refine wpAnyH_take (i := 2) (oi := { dst := some 18, op := Op.indexAddr 49 (Operand.tmp 17) (Operand.tmp 16), type := 0, pos := "ref.go:15", after := #[{ on := 1, ground := Ground.data }, { on := 0, ground := Ground.data }], guard := none }) (v := ?_) rfl (by kernel_rfl) (by kernel_rfl) (by kernel_rfl) (fun _ _ _ h => h) (Or.inl ⟨by rfl, ?_⟩) hHeld ?_
            rotate_left
            focus (intro z hSw; clear hSw; go_simp; try with_reducible rfl)
            try simp only [Act.put, List.setIfInBounds_toArray, List.set_cons_zero, List.set_cons_succ]
            refine wpAnyH_take (i := 3) (oi := { dst := some 19, op := Op.load 26 (Operand.tmp 18), type := 26, pos := "ref.go:15", after := #[{ on := 2, ground := Ground.data }], guard := none }) rfl (by kernel_rfl) (by kernel_rfl) (by kernel_rfl) (fun _ _ _ h => h) (yieldsIf_ld (by rfl) 26 _ rfl _ rfl (fun z hSw => ((B0.out.keep0 Fk.out).keep0 hSw).2.load HA.out)) hHeld ?_
            try simp only [Act.put, List.setIfInBounds_toArray, List.set_cons_zero, List.set_cons_succ]
            refine wpAnyH_ready (rs := [4]) (by kernel_rfl) (by simp) ?_
            refine AllReadyH.cons (o := { dst := some 20, op := Op.call { callee := Callee.value (Operand.func 19), args := #[Operand.tmp 19], argTypes := #[26] }, type := 30, pos := "ref.go:15", after := #[{ on := 3, ground := Ground.data }], guard := none }) rfl (fun K hK => ?_) AllReadyH.nil
            go_simp
            refine (HC.out _ (FF.out.trans hHeld (by simp))).mono ?_
            rintro r wn ⟨rfl, fn⟩
            refine hK.out _ _ ?_ (fun hNext => ?_)
            · exact hHeld.trans fn (by simp)
            clear hK K hHeld
            have hHeld := hNext
            clear hNext
            try simp only [Act.put, List.setIfInBounds_toArray, List.set_cons_zero, List.set_cons_succ]
            refine wpAnyH_take (i := 5) (oi := { dst := some 21, op := Op.binOp BinOp.neq 30 (Operand.tmp 20) (Operand.const (Value.int IntKind.i64 0)) 30, type := 4, pos := "ref.go:15", after := #[{ on := 4, ground := Ground.data }], guard := none }) (v := ?_) rfl (by kernel_rfl) (by kernel_rfl) (by kernel_rfl) (fun _ _ _ h => h) (Or.inl ⟨by rfl, ?_⟩) hHeld ?_
            rotate_left
            focus (intro z hSw; clear hSw; go_simp; try with_reducible rfl)
            try simp only [Act.put, List.setIfInBounds_toArray, List.set_cons_zero, List.set_cons_succ]
            refine wpAnyH_take (i := 6) (oi := { dst := some 22, op := Op.move (Operand.tmp 21), type := 4, pos := "ref.go:15", after := #[{ on := 5, ground := Ground.data }, { on := 4, ground := Ground.chain }], guard := none }) (v := ?_) rfl (by kernel_rfl) (by kernel_rfl) (by kernel_rfl) (fun _ _ _ h => h) (Or.inl ⟨by rfl, ?_⟩) hHeld ?_
            rotate_left
            focus (intro z hSw; clear hSw; go_simp; try with_reducible rfl)
            try simp only [Act.put, List.setIfInBounds_toArray, List.set_cons_zero, List.set_cons_succ]
            refine wpAnyH_take (i := 7) (oi := { dst := some 23, op := Op.move (Operand.tmp 3), type := 3, pos := "ref.go:15", after := #[{ on := 6, ground := Ground.guard }], guard := some (6, false) }) (v := ?_) rfl (by kernel_rfl) (by kernel_rfl) (by kernel_rfl) (fun _ _ _ h => h) (Or.inl ⟨by rfl, ?_⟩) hHeld ?_
            rotate_left
            focus (intro z hSw; clear hSw; go_simp; try with_reducible rfl)
            try simp only [Act.put, List.setIfInBounds_toArray, List.set_cons_zero, List.set_cons_succ]
            refine wpAnyH_take (i := 8) (oi := { dst := some 24, op := Op.fieldAddr 51 (Operand.tmp 1) 1, type := 0, pos := "ref.go:15", after := #[{ on := 6, ground := Ground.guard }], guard := some (6, false) }) (v := ?_) rfl (by kernel_rfl) (by kernel_rfl) (by kernel_rfl) (fun _ _ _ h => h) (Or.inl ⟨by rfl, ?_⟩) hHeld ?_
            rotate_left
            focus (intro z hSw; clear hSw; go_simp; try with_reducible rfl)
            try simp only [Act.put, List.setIfInBounds_toArray, List.set_cons_zero, List.set_cons_succ]
            refine wpAnyH_take (i := 9) (oi := { dst := some 25, op := Op.indexAddr 49 (Operand.tmp 24) (Operand.tmp 23), type := 0, pos := "ref.go:15", after := #[{ on := 8, ground := Ground.data }, { on := 7, ground := Ground.data }, { on := 6, ground := Ground.guard }], guard := some (6, false) }) (v := ?_) rfl (by kernel_rfl) (by kernel_rfl) (by kernel_rfl) (fun _ _ _ h => h) (Or.inl ⟨by rfl, ?_⟩) hHeld ?_
            rotate_left
            focus (intro z hSw; clear hSw; go_simp; try with_reducible rfl)
            try simp only [Act.put, List.setIfInBounds_toArray, List.set_cons_zero, List.set_cons_succ]
            refine wpAnyH_take (i := 10) (oi := { dst := some 26, op := Op.load 26 (Operand.tmp 25), type := 26, pos := "ref.go:15", after := #[{ on := 9, ground := Ground.data }, { on := 6, ground := Ground.guard }], guard := some (6, false) }) rfl (by kernel_rfl) (by kernel_rfl) (by kernel_rfl) (fun _ _ _ h => h) (yieldsIf_ld (by rfl) 26 _ rfl _ rfl (fun z hSw => ((B0.out.keep0 Fk.out).keep0 hSw).2.load HA.out)) hHeld ?_
            try simp only [Act.put, List.setIfInBounds_toArray, List.set_cons_zero, List.set_cons_succ]
            refine wpAnyH_ready (rs := [11]) (by kernel_rfl) (by simp) ?_
            refine AllReadyH.cons (o := { dst := some 27, op := Op.call { callee := Callee.value (Operand.func 21), args := #[Operand.tmp 26], argTypes := #[26] }, type := 4, pos := "ref.go:15", after := #[{ on := 10, ground := Ground.data }, { on := 6, ground := Ground.chain }, { on := 6, ground := Ground.guard }], guard := some (6, false) }) rfl (fun K hK => ?_) AllReadyH.nil
            go_simp
            refine (HH.out _ (FF.out.trans hHeld (by simp))).mono ?_
            rintro r wn ⟨rfl, fn⟩
            refine hK.out _ _ ?_ (fun hNext => ?_)
            · exact hHeld.trans fn (by simp)
            clear hK K hHeld
            have hHeld := hNext
            clear hNext
            try simp only [Act.put, List.setIfInBounds_toArray, List.set_cons_zero, List.set_cons_succ]
            refine wpAnyH_take (i := 12) (oi := { dst := some 28, op := Op.unOp UnOp.not 4 (Operand.tmp 27), type := 4, pos := "ref.go:15", after := #[{ on := 11, ground := Ground.data }, { on := 6, ground := Ground.guard }], guard := some (6, false) }) (v := ?_) rfl (by kernel_rfl) (by kernel_rfl) (by kernel_rfl) (fun _ _ _ h => h) (Or.inl ⟨by rfl, ?_⟩) hHeld ?_
            rotate_left
            focus (intro z hSw; clear hSw; go_simp; try with_reducible rfl)
            try simp only [Act.put, List.setIfInBounds_toArray, List.set_cons_zero, List.set_cons_succ]
            refine wpAnyH_take (i := 13) (oi := { dst := some 29, op := Op.move (Operand.tmp 28), type := 4, pos := "ref.go:15", after := #[{ on := 12, ground := Ground.data }, { on := 11, ground := Ground.chain }, { on := 6, ground := Ground.guard }], guard := some (6, false) }) (v := ?_) rfl (by kernel_rfl) (by kernel_rfl) (by kernel_rfl) (fun _ _ _ h => h) (Or.inl ⟨by rfl, ?_⟩) hHeld ?_
            rotate_left
            focus (intro z hSw; clear hSw; go_simp; try with_reducible rfl)
            try simp only [Act.put, List.setIfInBounds_toArray, List.set_cons_zero, List.set_cons_succ]
            refine wpAnyH_take (i := 14) (oi := { dst := some 30, op := Op.move (Operand.tmp 3), type := 3, pos := "ref.go:15", after := #[{ on := 13, ground := Ground.guard }], guard := some (13, true) }) (v := ?_) rfl (by kernel_rfl) (by kernel_rfl) (by kernel_rfl) (fun _ _ _ h => h) (Or.inl ⟨by rfl, ?_⟩) hHeld ?_
            rotate_left
            focus (intro z hSw; clear hSw; go_simp; try with_reducible rfl)
            try simp only [Act.put, List.setIfInBounds_toArray, List.set_cons_zero, List.set_cons_succ]
            refine wpAnyH_take (i := 15) (oi := { dst := some 31, op := Op.fieldAddr 51 (Operand.tmp 1) 1, type := 0, pos := "ref.go:15", after := #[{ on := 13, ground := Ground.guard }], guard := some (13, true) }) (v := ?_) rfl (by kernel_rfl) (by kernel_rfl) (by kernel_rfl) (fun _ _ _ h => h) (Or.inl ⟨by rfl, ?_⟩) hHeld ?_
            rotate_left
            focus (intro z hSw; clear hSw; go_simp; try with_reducible rfl)
            try simp only [Act.put, List.setIfInBounds_toArray, List.set_cons_zero, List.set_cons_succ]
            refine wpAnyH_take (i := 16) (oi := { dst := some 32, op := Op.indexAddr 49 (Operand.tmp 31) (Operand.tmp 30), type := 0, pos := "ref.go:15", after := #[{ on := 15, ground := Ground.data }, { on := 14, ground := Ground.data }, { on := 13, ground := Ground.guard }], guard := some (13, true) }) (v := ?_) rfl (by kernel_rfl) (by kernel_rfl) (by kernel_rfl) (fun _ _ _ h => h) (Or.inl ⟨by rfl, ?_⟩) hHeld ?_
            rotate_left
            focus (intro z hSw; clear hSw; go_simp; try with_reducible rfl)
            try simp only [Act.put, List.setIfInBounds_toArray, List.set_cons_zero, List.set_cons_succ]
            refine wpAnyH_take (i := 17) (oi := { dst := some 33, op := Op.fieldAddr 26 (Operand.tmp 32) 2, type := 0, pos := "ref.go:15", after := #[{ on := 16, ground := Ground.data }, { on := 13, ground := Ground.guard }], guard := some (13, true) }) (v := ?_) rfl (by kernel_rfl) (by kernel_rfl) (by kernel_rfl) (fun _ _ _ h => h) (Or.inl ⟨by rfl, ?_⟩) hHeld ?_
            rotate_left
            focus (intro z hSw; clear hSw; go_simp; try with_reducible rfl)
            try simp only [Act.put, List.setIfInBounds_toArray, List.set_cons_zero, List.set_cons_succ]
            refine wpAnyH_take (i := 18) (oi := { dst := some 34, op := Op.load 3 (Operand.tmp 33), type := 3, pos := "ref.go:15", after := #[{ on := 17, ground := Ground.data }, { on := 13, ground := Ground.guard }], guard := some (13, true) }) (v := ?_) rfl (by kernel_rfl) (by kernel_rfl) (by kernel_rfl) (fun _ _ _ h => h) (Or.inl ⟨by rfl, ?_⟩) hHeld ?_
            rotate_left
            focus (intro z hSw; have d1 := CP.out z hSw; have d2 := hSw.cell CK.out (by simp); clear hSw; go_simp; try with_reducible rfl)
            try simp only [Act.put, List.setIfInBounds_toArray, List.set_cons_zero, List.set_cons_succ]
            refine wpAnyH_take (i := 19) (oi := { dst := some 35, op := Op.fieldAddr 51 (Operand.tmp 1) 0, type := 0, pos := "ref.go:15", after := #[{ on := 13, ground := Ground.guard }], guard := some (13, true) }) (v := ?_) rfl (by kernel_rfl) (by kernel_rfl) (by kernel_rfl) (fun _ _ _ h => h) (Or.inl ⟨by rfl, ?_⟩) hHeld ?_
            rotate_left
            focus (intro z hSw; clear hSw; go_simp; try with_reducible rfl)
            try simp only [Act.put, List.setIfInBounds_toArray, List.set_cons_zero, List.set_cons_succ]
            refine wpAnyH_take (i := 20) (oi := { dst := some 36, op := Op.load 3 (Operand.tmp 35), type := 3, pos := "ref.go:15", after := #[{ on := 19, ground := Ground.data }, { on := 13, ground := Ground.guard }], guard := some (13, true) }) (v := ?_) rfl (by kernel_rfl) (by kernel_rfl) (by kernel_rfl) (fun _ _ _ h => h) (Or.inl ⟨by rfl, ?_⟩) hHeld ?_
            rotate_left
            focus (intro z hSw; have d1 := CP.out z hSw; have d2 := hSw.cell CK.out (by simp); clear hSw; go_simp; try with_reducible rfl)
            try simp only [Act.put, List.setIfInBounds_toArray, List.set_cons_zero, List.set_cons_succ]
            refine wpAnyH_take (i := 21) (oi := { dst := some 37, op := Op.binOp BinOp.sub 3 (Operand.tmp 36) (Operand.const (Value.int IntKind.i64 1)) 3, type := 3, pos := "ref.go:15", after := #[{ on := 20, ground := Ground.data }, { on := 13, ground := Ground.guard }], guard := some (13, true) }) (v := ?_) rfl (by kernel_rfl) (by kernel_rfl) (by kernel_rfl) (fun _ _ _ h => h) (Or.inl ⟨by rfl, ?_⟩) hHeld ?_
            rotate_left
            focus (intro z hSw; clear hSw; go_simp; try with_reducible rfl)
            try simp only [Act.put, List.setIfInBounds_toArray, List.set_cons_zero, List.set_cons_succ]
            refine wpAnyH_take (i := 22) (oi := { dst := some 38, op := Op.binOp BinOp.neq 3 (Operand.tmp 34) (Operand.tmp 37) 3, type := 4, pos := "ref.go:15", after := #[{ on := 18, ground := Ground.data }, { on := 21, ground := Ground.data }, { on := 13, ground := Ground.guard }], guard := some (13, true) }) (v := ?_) rfl (by kernel_rfl) (by kernel_rfl) (by kernel_rfl) (fun _ _ _ h => h) (Or.inl ⟨by rfl, ?_⟩) hHeld ?_
            rotate_left
            focus (intro z hSw; clear hSw; go_simp; try with_reducible rfl)
            try simp only [Act.put, List.setIfInBounds_toArray, List.set_cons_zero, List.set_cons_succ]
            refine wpAnyH_take (i := 23) (oi := { dst := some 39, op := Op.pick (Operand.tmp 29) (Operand.tmp 38) (Operand.const (Value.bool false)), type := 4, pos := "ref.go:15", after := #[{ on := 13, ground := Ground.data }, { on := 22, ground := Ground.data }, { on := 6, ground := Ground.guard }], guard := some (6, false) }) (v := ?_) rfl (by kernel_rfl) (by kernel_rfl) (by kernel_rfl) (fun _ _ _ h => h) (Or.inl ⟨by rfl, ?_⟩) hHeld ?_
            rotate_left
            focus (intro z hSw; clear hSw; go_simp; try with_reducible rfl)
            try simp only [Act.put, List.setIfInBounds_toArray, List.set_cons_zero, List.set_cons_succ]
            refine wpAnyH_take (i := 24) (oi := { dst := some 40, op := Op.pick (Operand.tmp 22) (Operand.const (Value.bool true)) (Operand.tmp 39), type := 4, pos := "ref.go:15", after := #[{ on := 6, ground := Ground.data }, { on := 23, ground := Ground.data }], guard := none }) (v := ?_) rfl (by kernel_rfl) (by kernel_rfl) (by kernel_rfl) (fun _ _ _ h => h) (Or.inl ⟨by rfl, ?_⟩) hHeld ?_
            rotate_left
            focus (intro z hSw; clear hSw; go_simp; try with_reducible rfl)
            try simp only [Act.put, List.setIfInBounds_toArray, List.set_cons_zero, List.set_cons_succ]
            refine wpAnyH_done (by kernel_rfl) ?_ _
            by_cases hpe : pl = lv - 1
            · have H := Lib.hid (HREL.out (by rw [HSB.out]; simp [hpe]))
              subst hpe
              go_wp2_with fail
              go_roundw
              case rel => exact ⟨k + 1, by omega, by go_num, H.out, Fk.out.trans hHeld (by simp)⟩
              case measure => simp [intOf]; omega
            · have H := Lib.hid (HNO.out (by rw [HSB.out]; simp [hpe]))
              have hpn : (pl == lv - 1) = false := by simpa using hpe
              clear hpe
              go_wp2_with fail
              go_ret
              exact ⟨by rw [H.out]; rfl, FF.out.trans hHeld (by simp)⟩
        · have hhf : hh = false := by cases hh with | false => rfl | true => exact absurd (hhc rfl) (by decide)
          subst hhf
          have H := Lib.hid (HNO.out (by rw [HSB.out]; rfl))
          clear hhc
          refine wp_region_held_drew (S := fun z => Frm [] wr z) (by kernel_rfl) ((Frm.refl [] wr).drew) (fun hHeld => ?_)
          refine wpAnyH_take (i := 0) (oi := { dst := some 16, op := Op.move (Operand.tmp 3), type := 3, pos := "ref.go:15", after := #[], guard := none }) (v := ?_) rfl (by kernel_rfl) (by kernel_rfl) (by kernel_rfl) (fun _ _ _ h => h) (Or.inl ⟨by rfl, ?_⟩) hHeld ?_
          rotate_left
          focus (intro z hSw; clear hSw; go_simp; try with_reducible rfl)
          try simp only [Act.put, List.setIfInBounds_toArray, List.set_cons_zero, List.set_cons_succ]
          refine wpAnyH_take (i := 1) (oi := { dst := some 17, op := Op.fieldAddr 51 (Operand.tmp 1) 1, type := 0, pos := "ref.go:15", after := #[], guard := none }) (v := ?_) rfl (by kernel_rfl) (by kernel_rfl) (by kernel_rfl) (fun _ _ _ h => h) (Or.inl ⟨by rfl, ?_⟩) hHeld ?_
          rotate_left
          focus (intro z hSw; clear hSw; go_simp; try with_reducible rfl)
          try simp only [Act.put, List.setIfInBounds_toArray, List.set_cons_zero, List.set_cons_succ]
          refine wpAnyH_take (i := 2) (oi := { dst := some 18, op := Op.indexAddr 49 (Operand.tmp 17) (Operand.tmp 16), type := 0, pos := "ref.go:15", after := #[{ on := 1, ground := Ground.data }, { on := 0, ground := Ground.data }], guard := none }) (v := ?_) rfl (by kernel_rfl) (by kernel_rfl) (by kernel_rfl) (fun _ _ _ h => h) (Or.inl ⟨by rfl, ?_⟩) hHeld ?_
          rotate_left
          focus (intro z hSw; clear hSw; go_simp; try with_reducible rfl)
          try simp only [Act.put, List.setIfInBounds_toArray, List.set_cons_zero, List.set_cons_succ]
          refine wpAnyH_take (i := 3) (oi := { dst := some 19, op := Op.load 26 (Operand.tmp 18), type := 26, pos := "ref.go:15", after := #[{ on := 2, ground := Ground.data }], guard := none }) rfl (by kernel_rfl) (by kernel_rfl) (by kernel_rfl) (fun _ _ _ h => h) (yieldsIf_ld (by rfl) 26 _ rfl _ rfl (fun z hSw => ((B0.out.keep0 Fk.out).keep0 hSw).2.load HA.out)) hHeld ?_
          try simp only [Act.put, List.setIfInBounds_toArray, List.set_cons_zero, List.set_cons_succ]
          refine wpAnyH_ready (rs := [4]) (by kernel_rfl) (by simp) ?_
          refine AllReadyH.cons (o := { dst := some 20, op := Op.call { callee := Callee.value (Operand.func 19), args := #[Operand.tmp 19], argTypes := #[26] }, type := 30, pos := "ref.go:15", after := #[{ on := 3, ground := Ground.data }], guard := none }) rfl (fun K hK => ?_) AllReadyH.nil
          go_simp
          refine (HC.out _ (FF.out.trans hHeld (by simp))).mono ?_
          rintro r wn ⟨rfl, fn⟩
          refine hK.out _ _ ?_ (fun hNext => ?_)
          · exact hHeld.trans fn (by simp)
          clear hK K hHeld
          have hHeld := hNext
          clear hNext
          try simp only [Act.put, List.setIfInBounds_toArray, List.set_cons_zero, List.set_cons_succ]
          refine wpAnyH_take (i := 5) (oi := { dst := some 21, op := Op.binOp BinOp.neq 30 (Operand.tmp 20) (Operand.const (Value.int IntKind.i64 0)) 30, type := 4, pos := "ref.go:15", after := #[{ on := 4, ground := Ground.data }], guard := none }) (v := ?_) rfl (by kernel_rfl) (by kernel_rfl) (by kernel_rfl) (fun _ _ _ h => h) (Or.inl ⟨by rfl, ?_⟩) hHeld ?_
          rotate_left
          focus (intro z hSw; clear hSw; go_simp; try with_reducible rfl)
          try simp only [Act.put, List.setIfInBounds_toArray, List.set_cons_zero, List.set_cons_succ]
          refine wpAnyH_take (i := 6) (oi := { dst := some 22, op := Op.move (Operand.tmp 21), type := 4, pos := "ref.go:15", after := #[{ on := 5, ground := Ground.data }, { on := 4, ground := Ground.chain }], guard := none }) (v := ?_) rfl (by kernel_rfl) (by kernel_rfl) (by kernel_rfl) (fun _ _ _ h => h) (Or.inl ⟨by rfl, ?_⟩) hHeld ?_
          rotate_left
          focus (intro z hSw; clear hSw; go_simp; try with_reducible rfl)
          try simp only [Act.put, List.setIfInBounds_toArray, List.set_cons_zero, List.set_cons_succ]
          refine wpAnyH_take (i := 7) (oi := { dst := some 23, op := Op.move (Operand.tmp 3), type := 3, pos := "ref.go:15", after := #[{ on := 6, ground := Ground.guard }], guard := some (6, false) }) (v := undef) rfl (by kernel_rfl) (by kernel_rfl) (by kernel_rfl) (fun _ _ _ h => h) (Or.inr ⟨by rfl, rfl⟩) hHeld ?_
          try simp only [Act.put, List.setIfInBounds_toArray, List.set_cons_zero, List.set_cons_succ]
          refine wpAnyH_take (i := 8) (oi := { dst := some 24, op := Op.fieldAddr 51 (Operand.tmp 1) 1, type := 0, pos := "ref.go:15", after := #[{ on := 6, ground := Ground.guard }], guard := some (6, false) }) (v := undef) rfl (by kernel_rfl) (by kernel_rfl) (by kernel_rfl) (fun _ _ _ h => h) (Or.inr ⟨by rfl, rfl⟩) hHeld ?_
          try simp only [Act.put, List.setIfInBounds_toArray, List.set_cons_zero, List.set_cons_succ]
          refine wpAnyH_take (i := 9) (oi := { dst := some 25, op := Op.indexAddr 49 (Operand.tmp 24) (Operand.tmp 23), type := 0, pos := "ref.go:15", after := #[{ on := 8, ground := Ground.data }, { on := 7, ground := Ground.data }, { on := 6, ground := Ground.guard }], guard := some (6, false) }) (v := undef) rfl (by kernel_rfl) (by kernel_rfl) (by kernel_rfl) (fun _ _ _ h => h) (Or.inr ⟨by rfl, rfl⟩) hHeld ?_
          try simp only [Act.put, List.setIfInBounds_toArray, List.set_cons_zero, List.set_cons_succ]
          refine wpAnyH_take (i := 10) (oi := { dst := some 26, op := Op.load 26 (Operand.tmp 25), type := 26, pos := "ref.go:15", after := #[{ on := 9, ground := Ground.data }, { on := 6, ground := Ground.guard }], guard := some (6, false) }) (v := undef) rfl (by kernel_rfl) (by kernel_rfl) (by kernel_rfl) (fun _ _ _ h => h) (Or.inr ⟨by rfl, rfl⟩) hHeld ?_
          try simp only [Act.put, List.setIfInBounds_toArray, List.set_cons_zero, List.set_cons_succ]
          refine wpAnyH_take (i := 11) (oi := { dst := some 27, op := Op.call { callee := Callee.value (Operand.func 21), args := #[Operand.tmp 26], argTypes := #[26] }, type := 4, pos := "ref.go:15", after := #[{ on := 10, ground := Ground.data }, { on := 6, ground := Ground.chain }, { on := 6, ground := Ground.guard }], guard := some (6, false) }) (v := undef) rfl (by kernel_rfl) (by kernel_rfl) (by kernel_rfl) (fun _ _ _ h => h) (Or.inr ⟨by rfl, rfl⟩) hHeld ?_
          try simp only [Act.put, List.setIfInBounds_toArray, List.set_cons_zero, List.set_cons_succ]
          refine wpAnyH_take (i := 12) (oi := { dst := some 28, op := Op.unOp UnOp.not 4 (Operand.tmp 27), type := 4, pos := "ref.go:15", after := #[{ on := 11, ground := Ground.data }, { on := 6, ground := Ground.guard }], guard := some (6, false) }) (v := undef) rfl (by kernel_rfl) (by kernel_rfl) (by kernel_rfl) (fun _ _ _ h => h) (Or.inr ⟨by rfl, rfl⟩) hHeld ?_
          try simp only [Act.put, List.setIfInBounds_toArray, List.set_cons_zero, List.set_cons_succ]
          refine wpAnyH_take (i := 13) (oi := { dst := some 29, op := Op.move (Operand.tmp 28), type := 4, pos := "ref.go:15", after := #[{ on := 12, ground := Ground.data }, { on := 11, ground := Ground.chain }, { on := 6, ground := Ground.guard }], guard := some (6, false) }) (v := undef) rfl (by kernel_rfl) (by kernel_rfl) (by kernel_rfl) (fun _ _ _ h => h) (Or.inr ⟨by rfl, rfl⟩) hHeld ?_
          try simp only [Act.put, List.setIfInBounds_toArray, List.set_cons_zero, List.set_cons_succ]
          refine wpAnyH_take (i := 14) (oi := { dst := some 30, op := Op.move (Operand.tmp 3), type := 3, pos := "ref.go:15", after := #[{ on := 13, ground := Ground.guard }], guard := some (13, true) }) (v := undef) rfl (by kernel_rfl) (by kernel_rfl) (by kernel_rfl) (fun _ _ _ h => h) (Or.inr ⟨by rfl, rfl⟩) hHeld ?_
          try simp only [Act.put, List.setIfInBounds_toArray, List.set_cons_zero, List.set_cons_succ]
          refine wpAnyH_take (i := 15) (oi := { dst := some 31, op := Op.fieldAddr 51 (Operand.tmp 1) 1, type := 0, pos := "ref.go:15", after := #[{ on := 13, ground := Ground.guard }], guard := some (13, true) }) (v := undef) rfl (by kernel_rfl) (by kernel_rfl) (by kernel_rfl) (fun _ _ _ h => h) (Or.inr ⟨by rfl, rfl⟩) hHeld ?_
          try simp only [Act.put, List.setIfInBounds_toArray, List.set_cons_zero, List.set_cons_succ]
          refine wpAnyH_take (i := 16) (oi := { dst := some 32, op := Op.indexAddr 49 (Operand.tmp 31) (Operand.tmp 30), type := 0, pos := "ref.go:15", after := #[{ on := 15, ground := Ground.data }, { on := 14, ground := Ground.data }, { on := 13, ground := Ground.guard }], guard := some (13, true) }) (v := undef) rfl (by kernel_rfl) (by kernel_rfl) (by kernel_rfl) (fun _ _ _ h => h) (Or.inr ⟨by rfl, rfl⟩) hHeld ?_
          try simp only [Act.put, List.setIfInBounds_toArray, List.set_cons_zero, List.set_cons_succ]
          refine wpAnyH_take (i := 17) (oi := { dst := some 33, op := Op.fieldAddr 26 (Operand.tmp 32) 2, type := 0, pos := "ref.go:15", after := #[{ on := 16, ground := Ground.data }, { on := 13, ground := Ground.guard }], guard := some (13, true) }) (v := undef) rfl (by kernel_rfl) (by kernel_rfl) (by kernel_rfl) (fun _ _ _ h => h) (Or.inr ⟨by rfl, rfl⟩) hHeld ?_
          try simp only [Act.put, List.setIfInBounds_toArray, List.set_cons_zero, List.set_cons_succ]
          refine wpAnyH_take (i := 18) (oi := { dst := some 34, op := Op.load 3 (Operand.tmp 33), type := 3, pos := "ref.go:15", after := #[{ on := 17, ground := Ground.data }, { on := 13, ground := Ground.guard }], guard := some (13, true) }) (v := undef) rfl (by kernel_rfl) (by kernel_rfl) (by kernel_rfl) (fun _ _ _ h => h) (Or.inr ⟨by rfl, rfl⟩) hHeld ?_
          try simp only [Act.put, List.setIfInBounds_toArray, List.set_cons_zero, List.set_cons_succ]
          refine wpAnyH_take (i := 19) (oi := { dst := some 35, op := Op.fieldAddr 51 (Operand.tmp 1) 0, type := 0, pos := "ref.go:15", after := #[{ on := 13, ground := Ground.guard }], guard := some (13, true) }) (v := undef) rfl (by kernel_rfl) (by kernel_rfl) (by kernel_rfl) (fun _ _ _ h => h) (Or.inr ⟨by rfl, rfl⟩) hHeld ?_
          try simp only [Act.put, List.setIfInBounds_toArray, List.set_cons_zero, List.set_cons_succ]
          refine wpAnyH_take (i := 20) (oi := { dst := some 36, op := Op.load 3 (Operand.tmp 35), type := 3, pos := "ref.go:15", after := #[{ on := 19, ground := Ground.data }, { on := 13, ground := Ground.guard }], guard := some (13, true) }) (v := undef) rfl (by kernel_rfl) (by kernel_rfl) (by kernel_rfl) (fun _ _ _ h => h) (Or.inr ⟨by rfl, rfl⟩) hHeld ?_
          try simp only [Act.put, List.setIfInBounds_toArray, List.set_cons_zero, List.set_cons_succ]
          refine wpAnyH_take (i := 21) (oi := { dst := some 37, op := Op.binOp BinOp.sub 3 (Operand.tmp 36) (Operand.const (Value.int IntKind.i64 1)) 3, type := 3, pos := "ref.go:15", after := #[{ on := 20, ground := Ground.data }, { on := 13, ground := Ground.guard }], guard := some (13, true) }) (v := undef) rfl (by kernel_rfl) (by kernel_rfl) (by kernel_rfl) (fun _ _ _ h => h) (Or.inr ⟨by rfl, rfl⟩) hHeld ?_
          try simp only [Act.put, List.setIfInBounds_toArray, List.set_cons_zero, List.set_cons_succ]
          refine wpAnyH_take (i := 22) (oi := { dst := some 38, op := Op.binOp BinOp.neq 3 (Operand.tmp 34) (Operand.tmp 37) 3, type := 4, pos := "ref.go:15", after := #[{ on := 18, ground := Ground.data }, { on := 21, ground := Ground.data }, { on := 13, ground := Ground.guard }], guard := some (13, true) }) (v := undef) rfl (by kernel_rfl) (by kernel_rfl) (by kernel_rfl) (fun _ _ _ h => h) (Or.inr ⟨by rfl, rfl⟩) hHeld ?_
          try simp only [Act.put, List.setIfInBounds_toArray, List.set_cons_zero, List.set_cons_succ]
          refine wpAnyH_take (i := 23) (oi := { dst := some 39, op := Op.pick (Operand.tmp 29) (Operand.tmp 38) (Operand.const (Value.bool false)), type := 4, pos := "ref.go:15", after := #[{ on := 13, ground := Ground.data }, { on := 22, ground := Ground.data }, { on := 6, ground := Ground.guard }], guard := some (6, false) }) (v := undef) rfl (by kernel_rfl) (by kernel_rfl) (by kernel_rfl) (fun _ _ _ h => h) (Or.inr ⟨by rfl, rfl⟩) hHeld ?_
          try simp only [Act.put, List.setIfInBounds_toArray, List.set_cons_zero, List.set_cons_succ]
          refine wpAnyH_take (i := 24) (oi := { dst := some 40, op := Op.pick (Operand.tmp 22) (Operand.const (Value.bool true)) (Operand.tmp 39), type := 4, pos := "ref.go:15", after := #[{ on := 6, ground := Ground.data }, { on := 23, ground := Ground.data }], guard := none }) (v := ?_) rfl (by kernel_rfl) (by kernel_rfl) (by kernel_rfl) (fun _ _ _ h => h) (Or.inl ⟨by rfl, ?_⟩) hHeld ?_
          rotate_left
          focus (intro z hSw; clear hSw; go_simp; try with_reducible rfl)
          try simp only [Act.put, List.setIfInBounds_toArray, List.set_cons_zero, List.set_cons_succ]
          refine wpAnyH_done (by kernel_rfl) ?_ _
          go_wp2_with fail
          go_ret
          exact ⟨by rw [H.out]; rfl, FF.out.trans hHeld (by simp)⟩
      · obtain rfl : k = 4 := by omega
        have H := Lib.hid (nchk_yes (n := n) (by rw [← HLV.out]; omega) (by rw [← HLV.out]; omega) (fun j p hj hp => by rw [← HLV.out]; exact HST.out j p hj hp) HPS.out.2.1)
        go_wp2_with fail
        go_ret
        exact ⟨by rw [H.out]; rfl, F0.out.trans Fk.out (by simp)⟩
  · have H := Lib.hid (nchk_lev (n := n) (by rw [← HLV.out]; exact h1))
    have h1' : lv < 1 ∨ 3 < lv := by omega
    clear h1
    rcases h1' with h1 | h1
    all_goals
      go_wp2_with fail
      go_ret
      exact ⟨by rw [H.out]; rfl, F0.out⟩
end Go.Proofs.Ytjjcjocomanohaa

namespace Go.Proofs.Ytjjcjocomanohaa
open Go.RowKit
set_option linter.unusedVariables false
set_option linter.unusedSimpArgs false
set_option maxRecDepth 100000

def lenOf : Value → Nat
  | .slice _ n _ => n
  | _ => 0
def preK (b : UInt8) (ps : List Pt) (k : Nat) : List UInt8 := b :: (ps.take k).flatMap enc
theorem preK_step (b : UInt8) {ps : List Pt} {k : Nat} {p : Pt} (hp : ps[k]? = some p) : preK b ps k ++ enc p = preK b ps (k + 1) := by
  obtain ⟨hlt, he⟩ := List.getElem?_eq_some_iff.1 hp
  unfold preK
  rw [List.take_succ_eq_append_getElem hlt, List.flatMap_append, he]
  simp
theorem preK_len (b : UInt8) {ps : List Pt} (h : ∀ p ∈ ps, (enc p).length = 47) (h4 : ps.length = 4) {k : Nat} (hk : k ≤ 4) : (preK b ps k).length = 1 + 47 * k := by
  have := flat_enc (ps := ps.take k) (fun p hp => h p (List.mem_of_mem_take hp))
  simp only [preK, List.length_cons, this, List.length_take]
  omega
def PkRel (b : UInt8) (ps : List Pt) (W0 : World) (ov cv : Value) (wr : World) : Prop := ∃ (k : Nat) (a : Option Addr) (cap : Nat), k ≤ 4 ∧ cv = .int .i64 k ∧ ov = .slice a (1 + 47 * k) cap ∧ Inv W0 wr (.slice a (1 + 47 * k) cap) (preK b ps k) (1 + 47 * k)
def FlRel (l : List UInt8) (W0 : World) (ov : Value) (wr : World) : Prop := ∃ (m : Nat) (a : Option Addr) (cap : Nat), m ≤ 67 ∧ ov = .slice a (189 + m) cap ∧ Inv W0 wr (.slice a (189 + m) cap) (l ++ List.replicate m 0) (189 + m)
set_option maxHeartbeats 8000000 in
theorem RefPack_any (x : Value) (n : Nd) (w : World) (hn : NdV w x n) (hl : ∀ p ∈ n.ps, p.ads.length ≤ 1000000) : Calls Try.prog 38 #[x] w (PackP 5 n w) := by
  have HC := Lib.hid (fun W (f : Frm [] w W) => RefNodeCheck_any x n W (hn.keep0 f) hl)
  obtain ⟨N, rfl, hN, As, hps, hb⟩ := hn.box
  have b0 := hb w
  have f0 : Frm [] w (w.alloc (.cells N 51)) := (Frm.refl [] w).alloc _
  rcases nchk_cases n with ⟨hbn, hc⟩ | ⟨hbn, hc⟩
  · obtain ⟨n1, n3, hst⟩ := nodeB_parts hbn
    have henc : ∀ p ∈ n.ps, (enc p).length = 47 := fun p hp => enc_len (stand_may (hst p hp)) (hps.lens p hp)
    have HPB := Lib.hid (show packB n = preK (UInt8.ofNat n.lv.toNat) n.ps 4 ++ List.replicate 67 0 by
      simp only [packB, hbn, if_true, secB, preK]
      rw [List.take_of_length_le (by have := hps.2.1; omega)]
      rfl)
    have hw8 : IntKind.u8.wrap n.lv = ((UInt8.ofNat n.lv.toNat).toNat : Int) := by
      have : n.lv = 1 ∨ n.lv = 2 ∨ n.lv = 3 := by omega
      rcases this with e | e | e <;> rw [e] <;> rfl
    have HPS := Lib.hid hps
    have HST := Lib.hid hst
    have HENC := Lib.hid henc
    have HCC := Lib.hid hc
    have HL := Lib.hid hl
    have HLN := Lib.hid (fun k (hk : k ≤ 4) => preK_len (UInt8.ofNat n.lv.toNat) henc hps.2.1 hk)
    rw [hc] at HC
    generalize UInt8.ofNat n.lv.toNat = b8 at *
    obtain ⟨lv, hlv⟩ : ∃ lv, lv = n.lv := ⟨_, rfl⟩
    rw [← hlv] at hw8
    have c0 := b0.2.lev
    rw [← hlv] at c0
    clear hbn hc hst henc hps hl hb hn hlv n1 n3
    go_enter Try.func38, Try.ntmps38
    go_upto_region 1 with (fail)
    generalize w.alloc (.cells N 51) = W at *
    have B0 := Lib.hid b0
    have F0 := Lib.hid f0
    clear b0 f0
    go_upto_region 3 with (first
      | ((with_reducible (show wpList _ _ _ (Oper.mk _ (Op.load 51 _) _ _ _ _ :: _) _ _)); refine wpList_load_g (by rfl) 51 _ rfl _ rfl B0.out.load ?_)
      | (go_at_call 40; refine (HC.out _ F0.out).mono ?_; rintro r w1 ⟨rfl, f1⟩))
    have c1 := f1.cell c0 (by simp)
    have B1 := Lib.hid (B0.out.keep0 f1)
    have F1 := Lib.hid (F0.out.trans f1 (by simp))
    have hI : Inv w1 (w1.alloc (.cells #[.int .u8 (b8.toNat : Int)] 5)) (.slice (some ⟨w1.heap.size, 0, none⟩) 1 1) [b8] 1 := ⟨⟨[], OwnB.of_heap (by rw [heap_alloc_new]; rfl) rfl rfl (by simp [maxLen])⟩, (Frm.refl [] w1).alloc _, fun i hi => by simp [blk] at hi; omega, by simp⟩
    have HI := Lib.hid hI
    clear c0 f1 B0 F0 hI
    go_wp2_with fail
    go_loopw [4, 5] (PkRel b8 n.ps w1) (fun _ cv _ => 4 - (intOf cv).toNat)
    case atStart => exact ⟨0, _, _, by omega, rfl, rfl, HI.out⟩
    case round =>
      obtain ⟨k, a, cap, hk, rfl, rfl, hinv⟩ := hrel
      have IK := Lib.hid hinv
      clear hinv HI c1
      by_cases hlt : k < 4
      · obtain ⟨A, p, hA, hp, hv⟩ := HPS.out.get hlt
        have hpm := List.mem_of_getElem? hp
        have hm : may p := stand_may (HST.out p hpm)
        have hB := fun W (f : Frm [] w W) => RefBytes_any (.agg A) p W (hv.keep0 f) (HL.out p hpm)
        unfold BytesP at hB
        rw [show chk p = 0 by simp [chk, (mayB_iff p).2 hm], show outB p = enc p by simp [outB, (mayB_iff p).2 hm]] at hB
        have HB := Lib.hid hB
        have HA := Lib.hid hA
        have HE := Lib.hid (HENC.out p hpm)
        have HSTEP := Lib.hid (preK_step b8 hp)
        have HLK := Lib.hid (HLN.out (k + 1) (by omega))
        clear hA hp hpm hm hB hv
        go_upto_region 8 with (first
          | ((with_reducible (show wpList _ _ _ (Oper.mk _ (Op.load 26 _) _ _ _ _ :: _) _ _)); refine wpList_load_g (by rfl) 26 _ rfl _ rfl ((B1.out.keep0 IK.out.frm).2.load HA.out) ?_)
          | (go_at_call 16; refine (HB.out _ (F1.out.trans IK.out.frm (by simp))).mono ?_; rintro r w3 ⟨xa, xc, xsp, rfl, o3, f3, n3⟩))
        go_upto_region 6 with (at_builtin; refine wpList_app BT IK.out f3 o3.sl (by rw [HE.out]; omega) rfl (.tmp 27) (.tmp 28) rfl rfl rfl ?_; intro a1 cap1 w4 i4)
        have hlk : (preK b8 n.ps k ++ enc p).length = 1 + 47 * (k + 1) := by rw [HSTEP.out]; exact HLK.out
        rw [hlk, HSTEP.out, HE.out, show 1 + 47 * k + 47 = 1 + 47 * (k + 1) by omega] at i4
        rw [List.length_append] at hlk
        rw [hlk]
        have I4 := Lib.hid i4
        clear i4 hlk f3 o3 n3
        go_wp2_with fail
        go_roundw
        case rel => exact ⟨k + 1, a1, cap1, by omega, by go_num, rfl, I4.out⟩
        case measure => simp [intOf]; omega
      · obtain rfl : k = 4 := by omega
        go_wp2_with fail
        generalize (Value.int .i64 ((4 : Nat) : Int)) = v5
        go_loopw [4] (FlRel (preK b8 n.ps 4) w1) (fun ov _ => 256 - lenOf ov)
        case atStart => exact ⟨0, a, cap, by omega, rfl, by simpa using IK.out⟩
        case round =>
          obtain ⟨m, a2, cap2, hm, rfl, hinv2⟩ := hrel
          have IM := Lib.hid hinv2
          clear hinv2 IK
          have hL4 : (preK b8 n.ps 4).length = 189 := HLN.out 4 (by omega)
          have HL4 := Lib.hid hL4
          by_cases hm7 : m < 67
          · have l9 : ((189 : Int) + (m : Int)) < 256 := by omega
            have hLM : (preK b8 n.ps 4 ++ List.replicate m 0).length = 189 + m := by rw [List.length_append, hL4, List.length_replicate]
            have hnx : preK b8 n.ps 4 ++ List.replicate m 0 ++ [0] = preK b8 n.ps 4 ++ List.replicate (m + 1) 0 := by rw [List.append_assoc, ← List.replicate_succ']
            have HNX := Lib.hid hnx
            have HLM := Lib.hid hLM
            clear hL4 hLM hnx
            generalize preK b8 n.ps 4 ++ List.replicate m 0 = LM at *
            go_wp2_with (at_builtin; refine wpList_app BT IM.out ((Frm.refl [] wr).alloc _) (lst_slB (l := [(0 : UInt8)]) (n := 1) (heap_alloc_at rfl) rfl rfl (by simp)) (by simp; omega) rfl (.tmp 33) (.tmp 34) rfl rfl rfl ?_; intro a3 cap3 w4 i4)
            have hlk : (LM ++ [(0 : UInt8)]).length = 189 + (m + 1) := by rw [List.length_append, HLM.out]; rfl
            rw [hlk, HNX.out] at i4
            have I4 := Lib.hid (show Inv w1 w4 (.slice a3 (189 + (m + 1)) cap3) (preK b8 n.ps 4 ++ List.replicate (m + 1) 0) (189 + (m + 1)) from i4)
            rw [HLM.out]
            go_roundw
            case rel => exact ⟨m + 1, a3, cap3, by omega, rfl, I4.out⟩
            case measure => simp [lenOf]; omega
          · obtain rfl : m = 67 := by omega
            have hlm : (preK b8 n.ps 4 ++ List.replicate 67 0).length = 256 := by rw [List.length_append, hL4]; rfl
            obtain ⟨sp, hO⟩ := IM.out.own
            have hnew := IM.out.new
            have hfr := IM.out.frm
            have HO := Lib.hid hO
            have HNW := Lib.hid hnew
            have HFR := Lib.hid hfr
            have HLMM := Lib.hid hlm
            clear hO hnew hfr hlm hL4
            go_wp2_with fail
            go_ret2
            refine ⟨a2, cap2, sp, by rw [HPB.out, HLMM.out, HCC.out]; rfl, by rw [HPB.out, HLMM.out]; exact HO.out, F1.out.trans HFR.out (by simp), fun i hi => by rw [HPB.out, HLMM.out] at hi; exact Nat.le_trans F1.out.size (HNW.out i hi)⟩
  · have HPB := Lib.hid (show packB n = [] by simp [packB, hbn])
    have HCC := Lib.hid hc
    rw [hc] at HC
    clear hbn hc hl hps hb hn
    go_enter Try.func38, Try.ntmps38
    go_upto_region 1 with (fail)
    generalize w.alloc (.cells N 51) = W at *
    have B0 := Lib.hid b0
    have F0 := Lib.hid f0
    clear b0 f0
    go_wp2_with (first
      | ((with_reducible (show wpList _ _ _ (Oper.mk _ (Op.load 51 _) _ _ _ _ :: _) _ _)); refine wpList_load_g (by rfl) 51 _ rfl _ rfl B0.out.load ?_)
      | (go_at_call 40; refine (HC.out _ F0.out).mono ?_; rintro r w1 ⟨rfl, f1⟩))
    go_ret2
    exact ⟨none, 0, [], by rw [HPB.out, HCC.out]; rfl, by rw [HPB.out]; exact OwnB.nil 5 _, F0.out.trans f1 (by simp), fun i hi => by rw [HPB.out] at hi; simp [blk] at hi⟩
end Go.Proofs.Ytjjcjocomanohaa

namespace Go.Proofs.Ytjjcjocomanohaa
open Go.RowKit
set_option linter.unusedVariables false
set_option linter.unusedSimpArgs false
set_option maxRecDepth 100000

/-- A place from 0 to 3 that any number says. -/
def pick4 (x : Int) : Int := if x.tmod 4 < 0 then x.tmod 4 + 4 else x.tmod 4
theorem pick4_range (x : Int) : 0 ≤ pick4 x ∧ pick4 x < 4 := by
  unfold pick4
  have h1 := Int.tmod_lt_of_pos x (show (0 : Int) < 4 by decide)
  have h2 := Int.lt_tmod_of_pos x (show (0 : Int) < 4 by decide)
  split <;> omega
set_option maxHeartbeats 1000000 in
theorem Pick_any (x : Int) (hx : (Lit.int .i64 x).wf = true) (w : World) : Calls Try.prog 49 #[.int .i64 x, .int .i64 4] w fun e w' => e = .returned (.int .i64 (pick4 x)) ∧ w' = w := by
  have h1 := Int.tmod_lt_of_pos x (show (0 : Int) < 4 by decide)
  have h2 := Int.lt_tmod_of_pos x (show (0 : Int) < 4 by decide)
  have hw : IntKind.i64.wrap (x.tmod 4) = x.tmod 4 := IntWalk.i64_in _ (by omega)
  have hw4 : IntKind.i64.wrap (x.tmod 4 + 4) = x.tmod 4 + 4 := IntWalk.i64_in _ (by omega)
  have HP := Lib.hid (show pick4 x = if x.tmod 4 < 0 then x.tmod 4 + 4 else x.tmod 4 from rfl)
  go_enter Try.func49, Try.ntmps49
  go_wp2
  all_goals
    go_ret
    refine ⟨?_, rfl⟩
    rw [HP.out]
    simp
    intro h
    omega
def OverTRel (T : TypeId) (w : World) (g cap : Nat) (c : Value) (wr : World) : Prop :=
  ∃ k : Nat, ∃ L : List UInt8, k ≤ cap ∧ c = .int .i64 k ∧ L.length = cap ∧ OwnB T wr (.slice (some ⟨g, 0, none⟩) cap cap) L [] ∧ Frm [g] w wr
set_option maxHeartbeats 1000000 in
theorem OverT_all (T : TypeId) (v : Value) (l sp : List UInt8) (w : World) (hO : OwnB T w v l sp) :
    Calls Try.prog 22 #[v] w fun r w' => r = .returned (.tuple #[]) ∧ Frm (blk v) w w' := by
  have hO' := hO
  obtain ⟨h1, ⟨rfl, h2, h3⟩ | ⟨g, cap, rfl, h3, h4, h5, h6⟩⟩ := hO'
  · go_enter Try.func22, Try.ntmps22
    go_wp2
    go_loop [3] (fun c => c = .int .i64 0) (fun _ => 0)
    case atStart => rfl
    case round =>
      subst hrel
      go_wp2
      go_end0
      exact ⟨rfl, Frm.refl _ _⟩
  · obtain ⟨k1, k2, k3⟩ := hO.caps
    have o1 : OwnB T w (.slice (some ⟨g, 0, none⟩) cap cap) (l ++ sp) [] := OwnB.of_heap (by simpa using hO.heap) (by simp; omega) (by simp; omega) h4
    have hcap : (cap : Int) ≤ 9223372036854775807 := by simp [maxLen] at h4; omega
    have hlen : (l ++ sp).length = cap := by simp; omega
    have HL := Lib.hid hlen
    clear hO h1 h5 h6 k1 k2 k3 hlen
    go_enter Try.func22, Try.ntmps22
    go_wp2
    go_loopw [3] (OverTRel T w g cap) (fun c _ => cap - (intOf c).toNat)
    case atStart => exact ⟨0, _, Nat.zero_le _, rfl, HL.out, o1, Frm.refl _ _⟩
    case round =>
      obtain ⟨k, L, hk, rfl, hL, o2, f2⟩ := hrel
      have HL2 := Lib.hid hL
      by_cases hlt : k < cap
      · have hc := o2.cell k (by simp; omega)
        have hf := o2.frozen k
        unfold bv at hc
        generalize (L ++ [])[k]! = x at hc
        clear hL
        have hx := Go.bounds_u8 (Go.wf_bits .xor .u8 x.toNat 90)
        have HX := Lib.hid hx
        clear hx
        go_wp2
        refine ⟨⟨k + 1, _, by omega, by go_num, ?_, o2.store k (by rw [HL2.out]; exact hlt) (UInt8.ofNat (bits .xor .u8 x.toNat 90).toNat) ?_, f2.setCell _ _ (by simp)⟩, by simp [intOf]; omega⟩
        · rw [List.length_set, HL2.out]
        · have := HX.out; simp only [bv, UInt8.toNat_ofNat']; congr 1; omega
      · obtain rfl : k = cap := by omega
        clear hL
        go_wp2
        go_end0
        exact ⟨rfl, f2⟩
theorem eas_set : ∀ (l : List Ad) (i : Nat) (x : Ad), eas (l.set i x) = ((eas l).set (i * 2) (.int .i64 x.1)).set (i * 2 + 1) (.int .i64 x.2)
  | [], i, x => by simp [eas]
  | y :: r, 0, x => by simp [eas_cons]
  | y :: r, i + 1, x => by
    rw [List.set_cons_succ, eas_cons, eas_set r i x, eas_cons, show (i + 1) * 2 = i * 2 + 1 + 1 by omega]
    simp [List.set_cons_succ]
theorem OwnA.store {T : TypeId} {w : World} {g n cap : Nat} {l sp : List Ad} (h : OwnA T w (.slice (some ⟨g, 0, none⟩) n cap) l sp) (i : Nat) (hi : i < l.length) (x : Ad) :
    OwnA T ((w.setCell ⟨g, i * 2, none⟩ (.int .i64 x.1)).setCell ⟨g, i * 2 + 1, none⟩ (.int .i64 x.2)) (.slice (some ⟨g, 0, none⟩) n cap) (l.set i x) sp := by
  obtain ⟨h1, h2, h3⟩ := h.caps
  refine OwnA.of_heap ?_ (by simpa using h1) (by simpa using h2) h3
  rw [heap_setCell_same _ (heap_setCell_same _ h.heap)]
  congr 2
  apply Array.ext'
  simp only [Array.toList_setIfInBounds, eas_append, eas_set]
  have hl := eas_length l
  rw [List.set_append_left _ _ (by omega), List.set_append_left _ _ (by simp; omega)]
def OverARel (g n cap : Nat) (sp : List Ad) (w0 : World) (cv : Value) (wr : World) : Prop := ∃ (k : Nat) (m : List Ad), k ≤ n ∧ m.length = n ∧ cv = .int .i64 k ∧ OwnA 46 wr (.slice (some ⟨g, 0, none⟩) n cap) m sp ∧ Frm [g] w0 wr
set_option maxHeartbeats 1000000 in
theorem OverA_any (v : Value) (l sp : List Ad) (w : World) (hO : OwnA 46 w v l sp) (hl : l.length ≤ 1000000) :
    Calls Try.prog 67 #[v] w fun e w' => e = .returned (.tuple #[]) ∧ Frm (blk v) w w' := by
  obtain ⟨h1, ⟨rfl, h2, h3⟩ | ⟨g, cap, rfl, h3, h4, h5, h6⟩⟩ := id hO
  · clear hO h1 h3 hl h2
    go_enter Try.func67, Try.ntmps67
    go_wp2_with fail
    refine wp_loop_rounds 1 ?_
    rw [rounds_succ]
    go_wp2
    go_end0
    exact ⟨rfl, Frm.refl _ _⟩
  · have hl9 : ((l.length : Nat) : Int) ≤ 1000000 := by omega
    have HO := Lib.hid hO
    clear hO h1 h6 h5 h3 h4 hl
    go_enter Try.func67, Try.ntmps67
    go_wp2_with fail
    go_loopw [2] (OverARel g l.length cap sp w) (fun cv _ => l.length - (intOf cv).toNat)
    case atStart => exact ⟨0, l, by omega, rfl, rfl, HO.out, Frm.refl _ _⟩
    case round =>
      obtain ⟨k, m, hk, hm, rfl, o, f⟩ := hrel
      by_cases hlt : k < l.length
      · obtain ⟨c0, c1⟩ := o.sl.cells k (by omega)
        have z0 := frozen_of_heap o.heap (0 + k * 2)
        have z1 := frozen_of_heap o.heap (0 + k * 2 + 1)
        have hst := o.store k (by omega) (-7, -7)
        rw [Nat.zero_add] at c0 c1 z0 z1
        generalize m[k]'(by omega) = y at *
        have ST := Lib.hid hst
        have F := Lib.hid f
        have HM := Lib.hid hm
        clear hst o f hm
        go_wp2_with fail
        exact ⟨⟨k + 1, _, by omega, by simpa using HM.out, by go_num, ST.out, (F.out.setCell _ _ (.inl (by simp))).setCell _ _ (.inl (by simp))⟩, by simp [intOf]; omega⟩
      · obtain rfl : k = l.length := by omega
        have F := Lib.hid f
        clear f o hm
        go_wp2_with fail
        go_end0
        exact ⟨rfl, by simpa [blk] using F.out⟩
end Go.Proofs.Ytjjcjocomanohaa

namespace Go.Proofs.Ytjjcjocomanohaa
open Go.RowKit
set_option linter.unusedVariables false
set_option linter.unusedSimpArgs false
set_option maxRecDepth 100000

set_option maxHeartbeats 8000000 in
theorem own_any (x : Value) (n : Nd) (w : World) (hn : NdV w x n) (hl : ∀ p ∈ n.ps, p.ads.length ≤ 1000000) :
    Calls Try.prog 66 #[x] w fun e w' => ∃ y, e = .returned y ∧ NdO w.heap.size w' y n ∧ Frm [] w w' := by
  obtain ⟨N, rfl, hN, As, hps, hbx⟩ := hn.box
  have b0 : NB ((w.alloc (.cells N 51)).alloc (.cells (nc 0 zAs).toArray 51)) w.heap.size n.lv As := ((hbx w).2.keep0 ((Frm.refl [] _).alloc _))
  have f0 : Frm [] w ((w.alloc (.cells N 51)).alloc (.cells (nc 0 zAs).toArray 51)) := ((Frm.refl [] w).alloc _).alloc _
  have z0 : NB ((w.alloc (.cells N 51)).alloc (.cells (nc 0 zAs).toArray 51)) (w.heap.size + 1) 0 zAs := ⟨heap_alloc_at (by simp), zAs_len, zAs_rows⟩
  have HPS := Lib.hid hps
  have HL := Lib.hid hl
  clear hbx hn hps hl
  obtain ⟨lv, ps⟩ := n
  dsimp only at *
  go_enter Try.func66, Try.ntmps66
  go_upto_region 1 with ((with_reducible (show wpList _ _ _ (Oper.mk _ (Op.alloc 51) _ _ _ _ :: _) _ _)); refine wpList_val rfl (exec_alloc51 rfl _) ?_)
  try simp only [World.size_alloc]
  generalize (w.alloc (.cells N 51)).alloc (.cells (nc 0 zAs).toArray 51) = W at *
  have B0 := Lib.hid b0
  have F0 := Lib.hid f0
  have Z0 := Lib.hid z0
  clear b0 f0 z0
  go_wp2_with fail
  go_loopw [3] (ApRel lv As ps w.heap.size w) (fun cv _ => 4 - (intOf cv).toNat)
  case atStart => exact ⟨0, As, by omega, rfl, B0.out, Z0.out, fun j A p hj => by omega, fun j _ => rfl, F0.out⟩
  case round =>
    obtain ⟨k, Bs, hk, rfl, hb, hz, hd, hr, f⟩ := hrel
    have ZK := Lib.hid hz
    have BK := Lib.hid hb
    have DK := Lib.hid hd
    have RK := Lib.hid hr
    have Fk := Lib.hid f
    have FF := Lib.hid f
    clear hb hd hr f hz B0 Z0
    by_cases hlt : k < 4
    · obtain ⟨A, p, hA, hp, hv⟩ := HPS.out.get hlt
      have hBA : Bs[k]? = some A := by rw [RK.out k (Nat.le_refl _)]; exact hA
      have hpl := HL.out p (List.mem_of_getElem? hp)
      have HV := Lib.hid hv
      have HBA := Lib.hid hBA
      have HPL := Lib.hid hpl
      have HP := Lib.hid hp
      obtain ⟨a, cap, sp, h0, hS⟩ := ptv_list hv
      have H0 := Lib.hid h0
      have HSA := Lib.hid hS
      have f0 : Frm [] wr (wr.alloc (.cells #[] 46)) := (Frm.refl _ _).alloc _
      have o0 : OwnA 46 (wr.alloc (.cells #[] 46)) (.slice (some ⟨wr.heap.size, 0, none⟩) 0 0) [] [] := OwnA.of_heap (heap_alloc_new _ _) rfl rfl (by simp)
      have c14 : (wr.alloc (.cells #[] 46)).cell? ⟨w.heap.size, 1 + k * 35, none⟩ = some (.slice a p.ads.length cap) := by
        have h := (BK.out.keep0 f0).range HBA.out 0 _ (by simpa using H0.out)
        simpa using h
      have ZL := Lib.hid ZK.out.lt
      clear hA hBA hpl hv hp h0 hS
      go_upto_region 3 with (at_builtin; refine wpList_append_ads AT o0 (HSA.out.keep (FF.out.trans f0 (by simp)) (by simp)) (by have := HPL.out; simp; omega) rfl (.tmp 9) (.tmp 14) rfl rfl rfl ?_; intro a' cap' w' sp' o1 f1 n1; have F0k : Frm [] wr w' := f0.trans f1 (by simp [blk]); have bw := BK.out.keep0 F0k; have c20 : w'.cell? ⟨w.heap.size, 1 + k * 35, none⟩ = some (.slice a p.ads.length cap) := (by have h := bw.range HBA.out 0 _ (by simpa using H0.out); simpa using h); have z20 : w'.frozen? ⟨w.heap.size, 1 + k * 35, none⟩ = false := frozen_of_heap bw.1 _)
      have o2 : OwnA 46 w' (.slice a' p.ads.length cap') p.ads sp' := by simpa using o1
      have n2 : ∀ i ∈ blk (.slice a' p.ads.length cap'), w.heap.size + 2 ≤ i := fun i hi => by
        have h := n1 i (by simpa using hi)
        have := ZL.out
        rcases h with h | h
        · simp [blk] at h; omega
        · simp at h; omega
      have NB2 := bw.set0 HBA.out (.slice a' p.ads.length cap') rfl
      have fs : Frm [w.heap.size] w' (w'.setCell ⟨w.heap.size, 1 + k * 35, none⟩ (.slice a' p.ads.length cap')) := (Frm.refl _ w').setCell _ _ (by simp)
      have hblt : k < Bs.length := by have := BK.out.2.1; omega
      have own3 := (own_set0 (b := w.heap.size + 2) HV.out o2 n2).keep fs (by simp)
      have D2 : ∀ (j : Nat) (A' : Array Value) (p' : Pt), j < k + 1 → (Bs.set k (A.setIfInBounds 0 (.slice a' p.ads.length cap')))[j]? = some A' → ps[j]? = some p' → OwnE (w'.setCell ⟨w.heap.size, 1 + k * 35, none⟩ (.slice a' p.ads.length cap')) A' p' (w.heap.size + 2) := fun j A' p' hj h1 h2 => by
        by_cases e : k = j
        · subst e
          rw [List.getElem?_set_self hblt] at h1
          rw [HP.out] at h2
          cases h1
          cases h2
          exact own3
        · rw [List.getElem?_set_ne e] at h1
          exact ((DK.out j A' p' (by omega) h1 h2).keep F0k (by simp)).keep fs (by simp)
      have R2 : ∀ j, k + 1 ≤ j → (Bs.set k (A.setIfInBounds 0 (.slice a' p.ads.length cap')))[j]? = As[j]? := fun j hj => by
        rw [List.getElem?_set_ne (by omega)]
        exact RK.out j (by omega)
      have DD := Lib.hid D2
      have RR := Lib.hid R2
      have NN := Lib.hid NB2
      have ZN := Lib.hid ((ZK.out.keep0 F0k).keep fs (by simp))
      have F9 := Lib.hid ((FF.out.trans F0k (by simp)).setCell ⟨w.heap.size, 1 + k * 35, none⟩ (.slice a' p.ads.length cap') (.inr (Nat.le_refl _)))
      clear own3 D2 R2 NB2 fs o1 o2 n1 n2 f1 F0k c14 c20 z20 bw o0 f0
      generalize w'.setCell ⟨w.heap.size, 1 + k * 35, none⟩ (.slice a' p.ads.length cap') = V9 at *
      go_wp2_with fail
      go_roundw
      case rel => exact ⟨k + 1, _, by omega, by go_num, NN.out, ZN.out, DD.out, RR.out, F9.out⟩
      case measure => simp [intOf]; omega
    · obtain rfl : k = 4 := by omega
      have hO : ∀ (i : Nat) (A : Array Value) (p : Pt), Bs[i]? = some A → ps[i]? = some p → OwnE wr A p (w.heap.size + 2) := fun i A p h1 h2 => DK.out i A p (by have := (List.getElem?_eq_some_iff.1 h1).1; have := BK.out.2.1; omega) h1 h2
      have hP : PtsV wr Bs ps := ⟨BK.out.2.1, HPS.out.2.1, fun i A p h1 h2 => (hO i A p h1 h2).ptv⟩
      have HO := Lib.hid hO
      have HPP := Lib.hid hP
      have ZL := Lib.hid ZK.out.lt
      clear hP hO
      go_wp2_with (first
        | ((with_reducible (show wpList _ _ _ (Oper.mk _ (Op.load 51 _) _ _ _ _ :: _) _ _)); refine wpList_load_g (by rfl) 51 _ rfl _ rfl BK.out.all ?_)
        | ((with_reducible (show wpList _ _ _ (Oper.mk _ (Op.store 51 _ _) _ _ _ _ :: _) _ _)); refine wpList_store51 rfl (.tmp 2) (.tmp 19) rfl ZK.out BK.out.2.1 BK.out.2.2 rfl rfl ?_; intro V9 b9 f9))
      refine bodyPost_ret (v := .agg (nc lv Bs).toArray) (results_cell_row (p := 2) rfl _ _ (w.heap.size + 1) 51 _ (0, 0) _ rfl b9.1 Try.underlying51 rfl (by rw [i51]; simp [nc_length b9.2.2 b9.2.1])) rfl ⟨_, rfl, ⟨Bs, rfl, ?_, fun i A p h1 h2 => ((HO.out i A p h1 h2).keep f9 (by simp)).old (by omega)⟩, FF.out.trans f9 (fun i hi => .inr (by simp at hi; omega))⟩
      exact HPP.out.keep f9 (fun A hA i hi h => by have := NdO.all HPP.out HO.out A hA i hi; simp at h; omega)
end Go.Proofs.Ytjjcjocomanohaa

namespace Go.Proofs.Ytjjcjocomanohaa
open Go.RowKit
set_option linter.unusedVariables false
set_option linter.unusedSimpArgs false
set_option maxRecDepth 100000

/-- A node that may be, with another pointer, may be just if that may stand there. -/
theorem node_set {n : Nd} (hb : nodeB n = true) (h4 : n.ps.length = 4) {k : Nat} (hk : k < 4) {p : Pt} : nodeB ⟨n.lv, n.ps.set k p⟩ = standB p n.lv := by
  obtain ⟨n1, n3, hst⟩ := nodeB_parts hb
  cases hs : standB p n.lv with
  | true =>
    simp only [nodeB, Bool.and_eq_true, decide_eq_true_eq, List.all_eq_true]
    refine ⟨⟨n1, n3⟩, fun q hq => ?_⟩
    rcases List.mem_or_eq_of_mem_set hq with h | h
    · exact hst q h
    · subst h; exact hs
  | false =>
    have : (n.ps.set k p).all (fun q => standB q n.lv) = false := by
      rw [List.all_eq_false]
      exact ⟨p, List.mem_of_getElem? (List.getElem?_set_self (by omega)), by simp [hs]⟩
    simp [nodeB, this]
set_option maxHeartbeats 8000000 in
theorem RefSet_any (x : Value) (n : Nd) (i : Int) (y : Value) (p : Pt) (w : World) (hn : NdV w x n) (hl : ∀ p ∈ n.ps, p.ads.length ≤ 1000000) (hp : PtV w y p) (hpl : p.ads.length ≤ 1000000) :
    Calls Try.prog 44 #[x, .int .i64 i, y] w (SetP n i p w) := by
  have HC := Lib.hid (fun W (f : Frm [] w W) => RefNodeCheck_any x n W (hn.keep0 f) hl)
  have HNV := Lib.hid hn
  have HPV := Lib.hid hp
  obtain ⟨N, rfl, hN, As, hps, hbn⟩ := hn.box
  obtain ⟨A, rfl, hA, hbp⟩ := hp.box
  have b3 : BoxN (((w.alloc (.cells N 51)).alloc (.cells A 26)).alloc (.cells (nc 0 zAs).toArray 51)) w.heap.size (.agg N) n.lv As := (hbn w).keep0 (((Frm.refl [] _).alloc _).alloc _)
  have b5 : Boxed (((w.alloc (.cells N 51)).alloc (.cells A 26)).alloc (.cells (nc 0 zAs).toArray 51)) (w.heap.size + 1) (.agg A) p := by
    have h := (hbp (w.alloc (.cells N 51))).keep0 ((Frm.refl [] _).alloc (.cells (nc 0 zAs).toArray 51))
    simpa using h
  have b6 : NB (((w.alloc (.cells N 51)).alloc (.cells A 26)).alloc (.cells (nc 0 zAs).toArray 51)) (w.heap.size + 2) 0 zAs := ⟨heap_alloc_at (by simp), zAs_len, zAs_rows⟩
  have f0 : Frm [] w (((w.alloc (.cells N 51)).alloc (.cells A 26)).alloc (.cells (nc 0 zAs).toArray 51)) := (((Frm.refl [] w).alloc _).alloc _).alloc _
  have HPS := Lib.hid hps
  have HL := Lib.hid hl
  have HPL := Lib.hid hpl
  clear hbn hbp hn hp hps hl hpl
  go_enter Try.func44, Try.ntmps44
  go_upto_region 1 with ((with_reducible (show wpList _ _ _ (Oper.mk _ (Op.alloc 51) _ _ _ _ :: _) _ _)); refine wpList_val rfl (exec_alloc51 rfl _) ?_)
  try simp only [World.size_alloc]
  generalize (((w.alloc (.cells N 51)).alloc (.cells A 26)).alloc (.cells (nc 0 zAs).toArray 51)) = W at *
  have B3 := Lib.hid b3
  have B5 := Lib.hid b5
  have B6 := Lib.hid b6
  have F0 := Lib.hid f0
  clear b3 b5 b6 f0
  rcases nchk_cases n with ⟨hb, hc⟩ | ⟨hb, hc⟩
  · have HOK := Lib.hid (show setOk n i p = (decide (0 ≤ i ∧ i < 4) && standB p n.lv) by simp [setOk, hb])
    have HBM := Lib.hid (fun (k : Nat) (hk : k < 4) => node_set hb HPS.out.2.1 hk (p := p))
    rw [hc] at HC
    clear hb hc
    by_cases hi : 0 ≤ i ∧ i < 4
    · obtain ⟨k, rfl⟩ : ∃ k : Nat, i = (k : Int) := ⟨i.toNat, by omega⟩
      have hk : k < 4 := by omega
      have HOK2 := Lib.hid (show setOk n k p = standB p n.lv by rw [HOK.out]; simp; omega)
      have h9 : (k : Int) < 4 := hi.2
      have d0 : decide ((k : Int) < 0) = false := by simp
      have d1 : decide (4 ≤ (k : Int)) = false := by simp; omega
      have HA2 := Lib.hid (ptv_size HPV.out)
      have HBMK := Lib.hid (HBM.out k hk)
      clear hi HOK HBM
      go_upto_region 3 with (first
        | ((with_reducible (show wpList _ _ _ (Oper.mk _ (Op.load 51 _) _ _ _ _ :: _) _ _)); refine wpList_load_g (by rfl) 51 _ rfl _ rfl B3.out.load ?_)
        | (go_at_call 40; refine (HC.out _ F0.out).mono ?_; rintro r w1 ⟨rfl, f1⟩))
      have C3 := Lib.hid (B3.out.keep0 f1)
      have C5 := Lib.hid (B5.out.keep0 f1)
      have C6 := Lib.hid (B6.out.keep0 f1)
      have F1 := Lib.hid (F0.out.trans f1 (by simp))
      clear f1 B3 B5 B6 F0
      go_upto_region 4 with (first
        | ((with_reducible (show wpList _ _ _ (Oper.mk _ (Op.load 51 _) _ _ _ _ :: _) _ _)); refine wpList_load_g (by rfl) 51 _ rfl _ rfl C3.out.2.all ?_)
        | ((with_reducible (show wpList _ _ _ (Oper.mk _ (Op.alloc 51) _ _ _ _ :: _) _ _)); refine wpList_lay51 rfl rfl rfl (.tmp 8) (.tmp 21) rfl C3.out.2.2.1 C3.out.2.2.2 rfl rfl ?_))
      have hN8 : NB (w1.alloc (.cells (nc n.lv As).toArray 51)) w1.heap.size n.lv As := NB.new _ _ C3.out.2.2.1 C3.out.2.2.2
      have f8 : Frm [] w1 (w1.alloc (.cells (nc n.lv As).toArray 51)) := (Frm.refl [] w1).alloc _
      have D5 := Lib.hid (C5.out.keep0 f8)
      have h6 := C6.out.keep0 f8
      have h68 := C6.out.lt
      have fW := F1.out.trans f8 (by simp)
      generalize w1.alloc (.cells (nc n.lv As).toArray 51) = V at *
      generalize hg8 : w1.heap.size = g8 at *
      have TH := Lib.hid (hN8.there hk)
      go_upto_region 5 with (first
        | ((with_reducible (show wpList _ _ _ (Oper.mk _ (Op.load 26 _) _ _ _ _ :: _) _ _)); refine wpList_load_g (by rfl) 26 _ rfl _ rfl D5.out.load ?_)
        | ((with_reducible (show wpList _ _ _ (Oper.mk _ (Op.store 26 _ _) _ _ _ _ :: _) _ _)); refine wpList_store_mid rfl 26 (.tmp 25) (.tmp 23) rfl g8 (1 + k * 35) A rfl rfl (by rw [HA2.out.1]; exact TH.out) (by rw [i26, HA2.out.1]) HA2.out.2 ?_))
      have hNB := hN8.set hk A HA2.out.1 HA2.out.2
      have fs : Frm [g8] V (V.setCells g8 (1 + k * 35) A.toList) := Frm.setCells _ _ _ (Frm.refl _ V) (.inl (by simp))
      have D6 := Lib.hid (h6.keep fs (by simp; omega))
      have hge : w.heap.size ≤ g8 := by rw [← hg8]; exact F1.out.size
      have fU := fW.trans fs (fun i hi => .inr (by simp at hi; omega))
      have hPS := (HPS.out.set (i := k) HPV.out).keep0 fU
      generalize V.setCells g8 (1 + k * 35) A.toList = U at *
      have hv : NdV U (.agg (nc n.lv (As.set k A)).toArray) ⟨n.lv, n.ps.set k p⟩ := ⟨_, rfl, hPS⟩
      have hads : ∀ q ∈ n.ps.set k p, q.ads.length ≤ 1000000 := fun q hq => by
        rcases List.mem_or_eq_of_mem_set hq with h | h
        · exact HL.out q h
        · subst h; exact HPL.out
      have HC2 := Lib.hid (RefNodeCheck_any _ _ U hv hads)
      have HOW := Lib.hid (fun W (f : Frm [] U W) => own_any _ _ W (hv.keep0 f) hads)
      have HNB := Lib.hid hNB
      have FU := Lib.hid fU
      clear hNB fs fW fU hPS hv hads TH C3 C5 C6 F1 D5 h6 h68 hg8 hge hN8 f8
      rcases nchk_cases ⟨n.lv, n.ps.set k p⟩ with ⟨hb2, hc2⟩ | ⟨hb2, hc2⟩
      · have HYES := Lib.hid (show setOk n k p = true by rw [HOK2.out, ← HBMK.out, hb2])
        rw [hc2] at HC2
        clear hb2 hc2
        go_wp2_with (first
          | ((with_reducible (show wpList _ _ _ (Oper.mk (some 26) (Op.load 51 _) _ _ _ _ :: _) _ _)); refine wpList_load_g (by rfl) 51 _ rfl _ rfl HNB.out.all ?_)
          | ((with_reducible (show wpList _ _ _ (Oper.mk (some 30) (Op.load 51 _) _ _ _ _ :: _) _ _)); refine wpList_load_g (by rfl) 51 _ rfl _ rfl (HNB.out.keep0 f2).all ?_)
          | (go_at_call 40; refine HC2.out.mono ?_; rintro r w2 ⟨rfl, f2⟩)
          | (go_at_call 66; refine (HOW.out _ f2).mono ?_; rintro r w3 ⟨yv, rfl, ⟨Bs, rfl, hq, hnw⟩, f3⟩)
          | ((with_reducible (show wpList _ _ _ (Oper.mk _ (Op.store 51 _ _) _ _ _ _ :: _) _ _)); refine wpList_store51 rfl (.tmp 6) (.tmp 31) rfl (D6.out.keep0 (f2.trans f3 (by simp))) hq.1 hq.rows rfl rfl ?_; intro V9 b9 f9))
        refine bodyPost_ret (results_cell_slot (p := 6) (q := 7) rfl _ _ rfl rfl b9.var) rfl ?_
        have hl6 := (D6.out.keep0 f2).lt
        have hw2 : w.heap.size ≤ w2.heap.size := (FU.out.trans f2 (by simp)).size
        refine setP_yes HYES.out ⟨Bs, rfl, ?_, fun i A p h1 h2 => ((hnw i A p h1 h2).keep f9 (by simp; omega)).old (by omega)⟩ ((FU.out.trans (f2.trans f3 (by simp)) (by simp)).trans f9 (fun i hi => .inr (by simp at hi; omega)))
        exact hq.keep f9 (fun B hB i hi h => by have := NdO.all hq hnw B hB i hi; simp at h; omega)
      · have HNO := Lib.hid (show setOk n k p = false by rw [HOK2.out, ← HBMK.out, hb2])
        rw [hc2] at HC2
        clear hb2 hc2
        go_wp2_with (first
          | ((with_reducible (show wpList _ _ _ (Oper.mk (some 26) (Op.load 51 _) _ _ _ _ :: _) _ _)); refine wpList_load_g (by rfl) 51 _ rfl _ rfl HNB.out.all ?_)
          | (go_at_call 40; refine HC2.out.mono ?_; rintro r w2 ⟨rfl, f2⟩)
          | ((with_reducible (show wpList _ _ _ (Oper.mk _ (Op.build 51 _) _ _ _ _ :: _) _ _)); refine wpList_val rfl (exec_bld51z rfl _) ?_)
          | ((with_reducible (show wpList _ _ _ (Oper.mk _ (Op.store 51 _ _) _ _ _ _ :: _) _ _)); refine wpList_store51 rfl (.tmp 6) (.tmp 29) rfl (D6.out.keep0 f2) zAs_len zAs_rows rfl rfl ?_; intro V9 b9 f9))
        refine bodyPost_ret (results_cell_slot (p := 6) (q := 7) rfl _ _ rfl rfl b9.var) rfl ?_
        exact setP_no HNO.out ((FU.out.trans f2 (by simp)).trans f9 (fun i hi => .inr (by simp at hi; omega)))
    · have HNO := Lib.hid (show setOk n i p = false by rw [HOK.out]; simp [hi])
      have hi' : i < 0 ∨ 4 ≤ i := by omega
      clear hi HOK HBM
      rcases hi' with h | h
      all_goals
        go_wp2_with (first
          | ((with_reducible (show wpList _ _ _ (Oper.mk (some 9) (Op.load 51 _) _ _ _ _ :: _) _ _)); refine wpList_load_g (by rfl) 51 _ rfl _ rfl B3.out.load ?_)
          | (go_at_call 40; refine (HC.out _ F0.out).mono ?_; rintro r w1 ⟨rfl, f1⟩)
          | ((with_reducible (show wpList _ _ _ (Oper.mk _ (Op.build 51 _) _ _ _ _ :: _) _ _)); refine wpList_val rfl (exec_bld51z rfl _) ?_)
          | ((with_reducible (show wpList _ _ _ (Oper.mk _ (Op.store 51 _ _) _ _ _ _ :: _) _ _)); refine wpList_store51 rfl (.tmp 6) (.tmp 20) rfl (B6.out.keep0 f1) zAs_len zAs_rows rfl rfl ?_; intro V9 b9 f9))
        refine bodyPost_ret (results_cell_slot (p := 6) (q := 7) rfl _ _ rfl rfl b9.var) rfl ?_
        exact setP_no HNO.out ((F0.out.trans f1 (by simp)).trans f9 (fun i hi => .inr (by simp at hi; omega)))
  · have HNO := Lib.hid (show setOk n i p = false by simp [setOk, hb])
    rw [hc] at HC
    clear hb hc
    go_wp2_with (first
      | ((with_reducible (show wpList _ _ _ (Oper.mk (some 9) (Op.load 51 _) _ _ _ _ :: _) _ _)); refine wpList_load_g (by rfl) 51 _ rfl _ rfl B3.out.load ?_)
      | (go_at_call 40; refine (HC.out _ F0.out).mono ?_; rintro r w1 ⟨rfl, f1⟩)
      | ((with_reducible (show wpList _ _ _ (Oper.mk _ (Op.build 51 _) _ _ _ _ :: _) _ _)); refine wpList_val rfl (exec_bld51z rfl _) ?_)
      | ((with_reducible (show wpList _ _ _ (Oper.mk _ (Op.store 51 _ _) _ _ _ _ :: _) _ _)); refine wpList_store51 rfl (.tmp 6) (.tmp 20) rfl (B6.out.keep0 f1) zAs_len zAs_rows rfl rfl ?_; intro V9 b9 f9))
    refine bodyPost_ret (results_cell_slot (p := 6) (q := 7) rfl _ _ rfl rfl b9.var) rfl ?_
    exact setP_no HNO.out ((F0.out.trans f1 (by simp)).trans f9 (fun i hi => .inr (by simp at hi; omega)))
end Go.Proofs.Ytjjcjocomanohaa

namespace Go.Proofs.Ytjjcjocomanohaa
open Go.RowKit
set_option linter.unusedVariables false
set_option linter.unusedSimpArgs false
set_option maxRecDepth 100000

set_option maxHeartbeats 8000000 in
theorem CopyNode_any (x : Value) (n : Nd) (w : World) (hn : NdV w x n) (hl : ∀ p ∈ n.ps, p.ads.length ≤ 1000000) :
    Calls Try.prog 36 #[x] w fun e w' => ∃ y, e = .returned y ∧ NdO w.heap.size w' y n ∧ Frm [] w w' := by
  obtain ⟨N, rfl, hN, As, hps, hbx⟩ := hn.box
  have b0 : NB ((w.alloc (.cells N 51)).alloc (.cells (nc 0 zAs).toArray 51)) w.heap.size n.lv As := ((hbx w).2.keep0 ((Frm.refl [] _).alloc _))
  have f0 : Frm [] w ((w.alloc (.cells N 51)).alloc (.cells (nc 0 zAs).toArray 51)) := ((Frm.refl [] w).alloc _).alloc _
  have z0 : NB ((w.alloc (.cells N 51)).alloc (.cells (nc 0 zAs).toArray 51)) (w.heap.size + 1) 0 zAs := ⟨heap_alloc_at (by simp), zAs_len, zAs_rows⟩
  have HPS := Lib.hid hps
  have HL := Lib.hid hl
  clear hbx hn hps hl
  obtain ⟨lv, ps⟩ := n
  dsimp only at *
  go_enter Try.func36, Try.ntmps36
  go_upto_region 1 with ((with_reducible (show wpList _ _ _ (Oper.mk _ (Op.alloc 51) _ _ _ _ :: _) _ _)); refine wpList_val rfl (exec_alloc51 rfl _) ?_)
  try simp only [World.size_alloc]
  generalize (w.alloc (.cells N 51)).alloc (.cells (nc 0 zAs).toArray 51) = W at *
  have B0 := Lib.hid b0
  have F0 := Lib.hid f0
  have Z0 := Lib.hid z0
  clear b0 f0 z0
  go_wp2_with fail
  go_loopw [3] (ApRel lv As ps w.heap.size w) (fun cv _ => 4 - (intOf cv).toNat)
  case atStart => exact ⟨0, As, by omega, rfl, B0.out, Z0.out, fun j A p hj => by omega, fun j _ => rfl, F0.out⟩
  case round =>
    obtain ⟨k, Bs, hk, rfl, hb, hz, hd, hr, f⟩ := hrel
    have ZK := Lib.hid hz
    have BK := Lib.hid hb
    have DK := Lib.hid hd
    have RK := Lib.hid hr
    have Fk := Lib.hid f
    have FF := Lib.hid f
    clear hb hd hr f hz B0 Z0
    by_cases hlt : k < 4
    · obtain ⟨A, p, hA, hp, hv⟩ := HPS.out.get hlt
      have hBA : Bs[k]? = some A := by rw [RK.out k (Nat.le_refl _)]; exact hA
      have hpl := HL.out p (List.mem_of_getElem? hp)
      have HBA := Lib.hid hBA
      have HP := Lib.hid hp
      have HCP := Lib.hid (CopyP_any (.agg A) p wr (hv.keep0 FF.out) hpl)
      have HZ := Lib.hid hv.len
      have ZL := Lib.hid ZK.out.lt
      clear hA hBA hpl hv hp
      go_upto_region 3 with (first
        | ((with_reducible (show wpList _ _ _ (Oper.mk _ (Op.load 26 _) _ _ _ _ :: _) _ _)); refine wpList_load_g (by rfl) 26 _ rfl _ rfl (BK.out.load HBA.out) ?_)
        | (go_at_call 14; refine HCP.out.mono ?_; rintro r w' ⟨a', cap', sp', rfl, o2, F0k, n1⟩)
        | ((with_reducible (show wpList _ _ _ (Oper.mk _ (Op.store 26 _ _) _ _ _ _ :: _) _ _)); refine wpList_store_mid rfl 26 (.tmp 15) (.tmp 13) rfl w.heap.size (1 + k * 35) (pc (.slice a' p.ads.length cap') p.b p.l p.s).toArray rfl rfl (by rw [pc_size, HZ.out]; exact (BK.out.keep0 F0k).there hlt) (by rw [i26, pc_size, HZ.out]) (pc_one _ _ _) ?_))
      have bw := BK.out.keep0 F0k
      have n2 : ∀ i ∈ blk (.slice a' p.ads.length cap'), w.heap.size + 2 ≤ i := fun i hi => by have := n1 i hi; have := ZL.out; omega
      have NB2 := bw.set hlt (pc (.slice a' p.ads.length cap') p.b p.l p.s).toArray (by rw [pc_size, HZ.out]) (pc_one _ _ _)
      have fs : Frm [w.heap.size] w' (w'.setCells w.heap.size (1 + k * 35) (pc (.slice a' p.ads.length cap') p.b p.l p.s).toArray.toList) := Frm.setCells _ _ _ (Frm.refl _ w') (.inl (by simp))
      have hblt : k < Bs.length := by have := BK.out.2.1; omega
      have own3 : OwnE (w'.setCells w.heap.size (1 + k * 35) (pc (.slice a' p.ads.length cap') p.b p.l p.s).toArray.toList) (pc (.slice a' p.ads.length cap') p.b p.l p.s).toArray p (w.heap.size + 2) := OwnE.keep ⟨a', cap', sp', rfl, o2, HZ.out, n2⟩ fs (by simp)
      have ZN := Lib.hid ((ZK.out.keep0 F0k).keep fs (by simp))
      have F9 := Lib.hid ((FF.out.trans F0k (by simp)).trans fs (fun i hi => .inr (by simp at hi; omega)))
      have hDK : ∀ (j : Nat) (A' : Array Value) (p' : Pt), j < k → Bs[j]? = some A' → ps[j]? = some p' → OwnE (w'.setCells w.heap.size (1 + k * 35) (pc (.slice a' p.ads.length cap') p.b p.l p.s).toArray.toList) A' p' (w.heap.size + 2) := fun j A' p' hj h1 h2 => ((DK.out j A' p' hj h1 h2).keep F0k (by simp)).keep fs (by simp)
      clear fs bw o2 n1 F0k n2
      generalize w'.setCells w.heap.size (1 + k * 35) (pc (.slice a' p.ads.length cap') p.b p.l p.s).toArray.toList = V9 at *
      generalize (pc (.slice a' p.ads.length cap') p.b p.l p.s).toArray = A9 at *
      have D2 : ∀ (j : Nat) (A' : Array Value) (p' : Pt), j < k + 1 → (Bs.set k A9)[j]? = some A' → ps[j]? = some p' → OwnE V9 A' p' (w.heap.size + 2) := fun j A' p' hj h1 h2 => by
        by_cases e : k = j
        · subst e
          rw [List.getElem?_set_self hblt] at h1
          rw [HP.out] at h2
          cases h1
          cases h2
          exact own3
        · rw [List.getElem?_set_ne e] at h1
          exact hDK j A' p' (by omega) h1 h2
      have R2 : ∀ j, k + 1 ≤ j → (Bs.set k A9)[j]? = As[j]? := fun j hj => by
        rw [List.getElem?_set_ne (by omega)]
        exact RK.out j (by omega)
      have DD := Lib.hid D2
      have RR := Lib.hid R2
      have NN := Lib.hid NB2
      clear own3 D2 R2 NB2 hDK
      go_wp2_with fail
      go_roundw
      case rel => exact ⟨k + 1, _, by omega, by go_num, NN.out, ZN.out, DD.out, RR.out, F9.out⟩
      case measure => simp [intOf]; omega
    · obtain rfl : k = 4 := by omega
      have hO : ∀ (i : Nat) (A : Array Value) (p : Pt), Bs[i]? = some A → ps[i]? = some p → OwnE wr A p (w.heap.size + 2) := fun i A p h1 h2 => DK.out i A p (by have := (List.getElem?_eq_some_iff.1 h1).1; have := BK.out.2.1; omega) h1 h2
      have hP : PtsV wr Bs ps := ⟨BK.out.2.1, HPS.out.2.1, fun i A p h1 h2 => (hO i A p h1 h2).ptv⟩
      have HO := Lib.hid hO
      have HPP := Lib.hid hP
      have ZL := Lib.hid ZK.out.lt
      clear hP hO
      go_wp2_with (first
        | ((with_reducible (show wpList _ _ _ (Oper.mk _ (Op.load 51 _) _ _ _ _ :: _) _ _)); refine wpList_load_g (by rfl) 51 _ rfl _ rfl BK.out.all ?_)
        | ((with_reducible (show wpList _ _ _ (Oper.mk _ (Op.store 51 _ _) _ _ _ _ :: _) _ _)); refine wpList_store51 rfl (.tmp 2) (.tmp 16) rfl ZK.out BK.out.2.1 BK.out.2.2 rfl rfl ?_; intro V9 b9 f9))
      refine bodyPost_ret (v := .agg (nc lv Bs).toArray) (results_cell_row (p := 2) rfl _ _ (w.heap.size + 1) 51 _ (0, 0) _ rfl b9.1 Try.underlying51 rfl (by rw [i51]; simp [nc_length b9.2.2 b9.2.1])) rfl ⟨_, rfl, ⟨Bs, rfl, ?_, fun i A p h1 h2 => ((HO.out i A p h1 h2).keep f9 (by simp)).old (by omega)⟩, FF.out.trans f9 (fun i hi => .inr (by simp at hi; omega))⟩
      exact HPP.out.keep f9 (fun A hA i hi h => by have := NdO.all HPP.out HO.out A hA i hi; simp at h; omega)
end Go.Proofs.Ytjjcjocomanohaa

namespace Go.Proofs.Ytjjcjocomanohaa
open Go.RowKit
set_option linter.unusedVariables false
set_option linter.unusedSimpArgs false
set_option maxRecDepth 100000

/-- What is written over is still a list of its own. -/
theorem OverA_own (v : Value) (l sp : List Ad) (w : World) (hO : OwnA 46 w v l sp) (hl : l.length ≤ 1000000) :
    Calls Try.prog 67 #[v] w fun e w' => e = .returned (.tuple #[]) ∧ Frm (blk v) w w' ∧ ∃ m : List Ad, m.length = l.length ∧ OwnA 46 w' v m sp := by
  obtain ⟨h1, ⟨rfl, h2, h3⟩ | ⟨g, cap, rfl, h3, h4, h5, h6⟩⟩ := id hO
  · have HO := Lib.hid hO
    clear hO h1 h3 hl h2
    go_enter Try.func67, Try.ntmps67
    go_wp2_with fail
    refine wp_loop_rounds 1 ?_
    rw [rounds_succ]
    go_wp2
    go_end0
    exact ⟨rfl, Frm.refl _ _, l, rfl, HO.out⟩
  · have hl9 : ((l.length : Nat) : Int) ≤ 1000000 := by omega
    have HO := Lib.hid hO
    clear hO h1 h6 h5 h3 h4 hl
    go_enter Try.func67, Try.ntmps67
    go_wp2_with fail
    go_loopw [2] (OverARel g l.length cap sp w) (fun cv _ => l.length - (intOf cv).toNat)
    case atStart => exact ⟨0, l, by omega, rfl, rfl, HO.out, Frm.refl _ _⟩
    case round =>
      obtain ⟨k, m, hk, hm, rfl, o, f⟩ := hrel
      by_cases hlt : k < l.length
      · obtain ⟨c0, c1⟩ := o.sl.cells k (by omega)
        have z0 := frozen_of_heap o.heap (0 + k * 2)
        have z1 := frozen_of_heap o.heap (0 + k * 2 + 1)
        have hst := o.store k (by omega) (-7, -7)
        rw [Nat.zero_add] at c0 c1 z0 z1
        generalize m[k]'(by omega) = y at *
        have ST := Lib.hid hst
        have F := Lib.hid f
        have HM := Lib.hid hm
        clear hst o f hm
        go_wp2_with fail
        exact ⟨⟨k + 1, _, by omega, by simpa using HM.out, by go_num, ST.out, (F.out.setCell _ _ (.inl (by simp))).setCell _ _ (.inl (by simp))⟩, by simp [intOf]; omega⟩
      · obtain rfl : k = l.length := by omega
        have F := Lib.hid f
        have O := Lib.hid o
        have HM := Lib.hid hm
        clear f o hm
        go_wp2_with fail
        go_end0
        exact ⟨rfl, by simpa [blk] using F.out, m, HM.out, O.out⟩
/-- Two lists of their own: what is written over one leaves the other one a list of its own. -/
theorem own_other {w w' : World} {v v2 : Value} {l sp m l2 sp2 : List Ad} (h : OwnA 46 w v l sp) (h2 : OwnA 46 w v2 l2 sp2) (f : Frm (blk v) w w') (hm : m.length = l.length) (ho : OwnA 46 w' v m sp) : ∃ m2 sp2' : List Ad, m2.length = l2.length ∧ OwnA 46 w' v2 m2 sp2' := by
  obtain ⟨k1, ⟨rfl, k2, k3⟩ | ⟨g, cap, rfl, k3, k4, k5, k6⟩⟩ := id h
  · exact ⟨l2, sp2, rfl, h2.keep f (by simp [blk])⟩
  · obtain ⟨q1, ⟨rfl, q2, q3⟩ | ⟨g2, cap2, rfl, q3, q4, q5, q6⟩⟩ := id h2
    · exact ⟨l2, sp2, rfl, h2.keep f (by simp [blk])⟩
    · by_cases hg : g2 = g
      · subst hg
        obtain ⟨c1, c2, c3⟩ := h.caps
        obtain ⟨d1, d2, d3⟩ := h2.caps
        have e := h.heap.symm.trans h2.heap
        simp only [Option.some.injEq, Obj.cells.injEq, and_true] at e
        have e' := congrArg List.length (show eas (l ++ sp) = eas (l2 ++ sp2) from by simpa using e)
        simp only [eas_length, List.length_append] at e'
        have hlen : (m ++ sp).length = l2.length + sp2.length := by rw [List.length_append]; omega
        refine ⟨(m ++ sp).take l2.length, (m ++ sp).drop l2.length, by rw [List.length_take]; omega, OwnA.of_heap ?_ (by rw [List.length_take]; omega) (by rw [List.length_take, List.length_drop]; omega) d3⟩
        rw [List.take_append_drop]
        exact ho.heap
      · exact ⟨l2, sp2, rfl, h2.keep f (by simp [blk]; exact hg)⟩
def OvE (w : World) (A : Array Value) (p : Pt) (b e : Nat) : Prop := ∃ a cap m sp, A[0]? = some (.slice a p.ads.length cap) ∧ OwnA 46 w (.slice a p.ads.length cap) m sp ∧ m.length = p.ads.length ∧ ∀ i ∈ blk (.slice a p.ads.length cap), b ≤ i ∧ i < e
def OvRel (As : List (Array Value)) (ps : List Pt) (lv : Int) (b g : Nat) (w0 : World) (cv : Value) (wr : World) : Prop := ∃ k : Nat, k ≤ 4 ∧ cv = .int .i64 k ∧ NB wr g lv As ∧ (∀ (j : Nat) (A : Array Value) (p : Pt), As[j]? = some A → ps[j]? = some p → OvE wr A p b g) ∧ ∃ L : List Nat, Frm L w0 wr ∧ ∀ i ∈ L, b ≤ i
set_option maxHeartbeats 4000000 in
theorem OverNode_any (x : Value) (n : Nd) (b : Nat) (w : World) (hn : NdO b w x n) (hl : ∀ p ∈ n.ps, p.ads.length ≤ 1000000) :
    Calls Try.prog 46 #[x] w fun e w' => e = .returned (.tuple #[]) ∧ ∃ L : List Nat, Frm L w w' ∧ ∀ i ∈ L, b ≤ i := by
  obtain ⟨As, rfl, hps, ho⟩ := hn
  obtain ⟨lv, ps⟩ := n
  dsimp only at *
  have b0 : NB (w.alloc (.cells (nc lv As).toArray 51)) w.heap.size lv As := NB.new w lv hps.1 hps.rows
  have f0 : Frm [] w (w.alloc (.cells (nc lv As).toArray 51)) := (Frm.refl [] w).alloc _
  have e0 : ∀ (j : Nat) (A : Array Value) (p : Pt), As[j]? = some A → ps[j]? = some p → OvE (w.alloc (.cells (nc lv As).toArray 51)) A p b w.heap.size := fun j A p h1 h2 => by
    obtain ⟨a, cap, sp, rfl, h3, h4, h5⟩ := ho j A p h1 h2
    exact ⟨a, cap, p.ads, sp, rfl, h3.keep f0 (by simp), rfl, fun i hi => ⟨h5 i hi, h3.lt i hi⟩⟩
  have HPS := Lib.hid hps
  have HL := Lib.hid hl
  clear ho hps hl
  generalize hN : (nc lv As).toArray = N at *
  go_enter Try.func46, Try.ntmps46
  go_upto_region 1 with (fail)
  generalize w.alloc (.cells N 51) = W at *
  have B0 := Lib.hid b0
  have F0 := Lib.hid f0
  have E0 := Lib.hid e0
  clear b0 f0 e0 hN
  generalize hg : w.heap.size = g at *
  clear hg
  go_wp2_with fail
  go_loopw [2] (OvRel As ps lv b g w) (fun cv _ => 4 - (intOf cv).toNat)
  case atStart => exact ⟨0, by omega, rfl, B0.out, E0.out, [], F0.out, by simp⟩
  case round =>
    obtain ⟨k, hk, rfl, hb, he, L, f, hL⟩ := hrel
    have BK := Lib.hid hb
    have EK := Lib.hid he
    have Fk := Lib.hid f
    have LK := Lib.hid hL
    clear hb he f hL
    by_cases hlt : k < 4
    · obtain ⟨A, p, hA, hp, hv⟩ := HPS.out.get hlt
      obtain ⟨a, cap, m, sp, h0, h1, h2, h3⟩ := EK.out k A p hA hp
      have cc : wr.cell? ⟨g, 1 + k * 35, none⟩ = some (.slice a p.ads.length cap) := by
        have h := BK.out.range hA 0 _ (by simpa using h0)
        simpa using h
      have HO := Lib.hid (OverA_own (.slice a p.ads.length cap) m sp wr h1 (by have := HL.out p (List.mem_of_getElem? hp); omega))
      have H1 := Lib.hid h1
      have H3 := Lib.hid h3
      clear hA hp hv h0 h1 h2 h3
      go_upto_region 3 with (go_at_call 67; refine HO.out.mono ?_; rintro r w' ⟨rfl, f1, m', hm', ho'⟩)
      have B2 := Lib.hid (BK.out.keep f1 (fun h => by have := (H3.out g h).2; omega))
      have E2 := Lib.hid (show ∀ (j : Nat) (A : Array Value) (p : Pt), As[j]? = some A → ps[j]? = some p → OvE w' A p b g from fun j A' p' g1 g2 => by
        obtain ⟨a2, cap2, m2, sp2, t0, t1, t2, t3⟩ := EK.out j A' p' g1 g2
        obtain ⟨m3, sp3, t4, t5⟩ := own_other H1.out t1 f1 hm' ho'
        exact ⟨a2, cap2, m3, sp3, t0, t5, by omega, t3⟩)
      have F2 := Lib.hid ((Fk.out.mono (L' := L ++ blk (.slice a p.ads.length cap)) (fun i hi => .inl (by simp [hi]))).trans f1 (fun i hi => .inl (by simp [hi])))
      have L2 := Lib.hid (show ∀ i ∈ L ++ blk (.slice a p.ads.length cap), b ≤ i from fun i hi => by
        rcases List.mem_append.1 hi with h | h
        · exact LK.out i h
        · exact (H3.out i h).1)
      clear f1 hm' ho'
      go_wp2_with fail
      go_roundw
      case rel => exact ⟨k + 1, by omega, by go_num, B2.out, E2.out, _, F2.out, L2.out⟩
      case measure => simp [intOf]; omega
    · obtain rfl : k = 4 := by omega
      go_wp2_with fail
      go_end0
      exact ⟨rfl, L, Fk.out, LK.out⟩
end Go.Proofs.Ytjjcjocomanohaa

namespace Go.Proofs.Ytjjcjocomanohaa
open Go.RowKit
set_option linter.unusedVariables false
set_option linter.unusedSimpArgs false
set_option maxRecDepth 100000

theorem NdO.ndv {b : Nat} {w : World} {x : Value} {n : Nd} (h : NdO b w x n) : NdV w x n := by
  obtain ⟨As, e, h1, _⟩ := h
  exact ⟨As, e, h1⟩
theorem NdO.keep0 {b : Nat} {w w' : World} {x : Value} {n : Nd} (h : NdO b w x n) (f : Frm [] w w') : NdO b w' x n := by
  obtain ⟨As, e, h1, h2⟩ := h
  exact ⟨As, e, h1.keep0 f, fun i A p k1 k2 => (h2 i A p k1 k2).keep f (by simp)⟩
theorem setNd_ads {n : Nd} {i : Int} {p : Pt} (hn : ∀ q ∈ n.ps, q.ads.length ≤ 1000000) (hp : p.ads.length ≤ 1000000) : ∀ q ∈ (setNd n i p).ps, q.ads.length ≤ 1000000 := fun q hq => by
  unfold setNd at hq
  split at hq
  · rcases List.mem_or_eq_of_mem_set hq with h | h
    · exact hn q h
    · subst h; exact hp
  · exact zero_ads q hq
set_option maxHeartbeats 8000000 in
theorem ntells_any (x : Value) (n : Nd) (i : Int) (y : Value) (p : Pt) (w : World) (hn : NdV w x n) (hi : -9223372036854775808 ≤ i ∧ i ≤ 9223372036854775807) (hp : PtV w y p) : Calls Try.prog 8 #[x, .int .i64 i, y] w (Yes w) := by
  have zp := hp.len
  have HNV := Lib.hid hn
  have HPV := Lib.hid hp
  have HBig := Lib.hid (fun W (f : Frm [] w W) => Big_any x n W (hn.keep0 f))
  obtain ⟨N, rfl, hN, As, hps, hbx⟩ := hn.box
  obtain ⟨A, rfl, hA, hbp⟩ := hp.box
  have b3 : BoxN ((w.alloc (.cells N 51)).alloc (.cells A 26)) w.heap.size (.agg N) n.lv As := (hbx w).keep0 ((Frm.refl [] _).alloc _)
  have b5 : Boxed ((w.alloc (.cells N 51)).alloc (.cells A 26)) (w.heap.size + 1) (.agg A) p := by have h := hbp (w.alloc (.cells N 51)); simpa using h
  have f0 : Frm [] w ((w.alloc (.cells N 51)).alloc (.cells A 26)) := ((Frm.refl [] w).alloc _).alloc _
  clear hbx hbp hn hp hps
  go_enter Try.func8, Try.ntmps8
  go_upto_region 1 with (fail)
  generalize (w.alloc (.cells N 51)).alloc (.cells A 26) = W at *
  have B3 := Lib.hid b3
  have B5 := Lib.hid b5
  have F0 := Lib.hid f0
  clear b3 b5 f0
  cases hbig : bigB n with
  | true =>
    rw [hbig] at HBig
    clear hbig
    go_wp2_with (first
      | ((with_reducible (show wpList _ _ _ (Oper.mk _ (Op.load 51 _) _ _ _ _ :: _) _ _)); refine wpList_load_g (by rfl) 51 _ rfl _ rfl B3.out.load ?_)
      | (go_at_call 34; refine (HBig.out _ F0.out).mono ?_; rintro r w2 ⟨rfl, f2⟩)
      | (go_at_call 35; refine (nawake_any _).mono ?_; rintro r wn ⟨rfl, fn⟩))
    go_ret
    exact ⟨rfl, (F0.out.trans f2 (by simp)).trans fn (by simp)⟩
  | false =>
    have hads : ∀ q ∈ n.ps, q.ads.length ≤ 1000000 := fun q hq => by have := big_ads hbig q hq; omega
    rw [hbig] at HBig
    clear hbig
    obtain ⟨a5, cap5, k5⟩ := B5.out.c0
    by_cases h20 : p.ads.length ≤ 20
    · have hpl : p.ads.length ≤ 1000000 := by omega
      have HCN := Lib.hid (fun W (f : Frm [] w W) => CopyNode_any (.agg N) n W (HNV.out.keep0 f) hads)
      have HCP := Lib.hid (fun W (f : Frm [] w W) => CopyP_any (.agg A) p W (HPV.out.keep0 f) hpl)
      have HPK := Lib.hid (fun W v (h : NdV W v n) => Pack_any v n W h hads)
      have HRP := Lib.hid (fun W (f : Frm [] w W) => RefPack_any (.agg N) n W (HNV.out.keep0 f) hads)
      have K1 := Lib.hid (fun W v (h : NdV W v n) => nodeCheck_any v n W h hads)
      have K2 := Lib.hid (fun W (f : Frm [] w W) => RefNodeCheck_any (.agg N) n W (HNV.out.keep0 f) hads)
      have K3 := Lib.hid (fun W v (h : NdV W v n) => nodeEmpty_any v n W h hads)
      have K4 := Lib.hid (fun W (f : Frm [] w W) => RefEmpty_any (.agg N) n W (HNV.out.keep0 f))
      have HS1 := Lib.hid (fun W v v' (h : NdV W v n) (h' : PtV W v' p) => Set_any v n i v' p W h hads h' hpl)
      have HS2 := Lib.hid (fun W (f : Frm [] w W) => RefSet_any (.agg N) n i (.agg A) p W (HNV.out.keep0 f) hads (HPV.out.keep0 f) hpl)
      have HSN := Lib.hid (fun W v (h : NdV W v n) (f : Frm [] w W) => SameNode_true v (.agg N) n W h (HNV.out.keep0 f) hads)
      have HSP := Lib.hid (fun W v (h : PtV W v p) (f : Frm [] w W) => SamePointer_any v (.agg A) p p W h (HPV.out.keep0 f) hpl)
      have HSS := Lib.hid (fun W v v' (h : NdV W v (setNd n i p)) (h' : NdV W v' (setNd n i p)) => SameNode_true v v' (setNd n i p) W h h' (setNd_ads hads hpl))
      have HON := Lib.hid (fun W v b (h : NdO b W v (setNd n i p)) => OverNode_any v (setNd n i p) b W h (setNd_ads hads hpl))
      have HEQ := Lib.hid (show (packB n == packB n) = true by simp)
      rw [same_refl] at HSP
      unfold PackP at HPK HRP
      unfold SetP at HS1 HS2
      have h20' : ¬ (20 : Int) < (p.ads.length : Int) := by omega
      clear hads hpl
      generalize packB n = pb at *
      generalize nchk n = nk at *
      generalize emptyB n = em at *
      generalize setE n i p = se at *
      generalize setNd n i p = sn at *
      go_upto_region 3 with (first
        | ((with_reducible (show wpList _ _ _ (Oper.mk _ (Op.load 51 _) _ _ _ _ :: _) _ _)); refine wpList_load_g (by rfl) 51 _ rfl _ rfl B3.out.load ?_)
        | (go_at_call 34; refine (HBig.out _ F0.out).mono ?_; rintro r w2 ⟨rfl, f2⟩; replace k5 := f2.cell k5 (by simp)))
      have C3 := Lib.hid (B3.out.keep0 f2)
      have C5 := Lib.hid (B5.out.keep0 f2)
      have F2 := Lib.hid (F0.out.trans f2 (by simp))
      clear f2 B3 B5 F0 k5 h20 h20'
      go_upto_region 4 with (first
        | ((with_reducible (show wpList _ _ _ (Oper.mk _ (Op.load 51 _) _ _ _ _ :: _) _ _)); refine wpList_load_g (by rfl) 51 _ rfl _ rfl C3.out.load ?_)
        | (go_at_call 36; refine (HCN.out _ F2.out).mono ?_; rintro r w3 ⟨x7, rfl, ⟨A7, rfl, hp7, -⟩, f3⟩)
        | ((with_reducible (show wpList _ _ _ (Oper.mk _ (Op.alloc 51) _ _ _ _ :: _) _ _)); refine wpList_lay51 rfl rfl rfl (.tmp 7) (.tmp 28) rfl hp7.1 hp7.rows rfl rfl ?_))
      have h7 : NB (w3.alloc (.cells (nc n.lv A7).toArray 51)) w3.heap.size n.lv A7 := NB.new _ _ hp7.1 hp7.rows
      have hv7 : NdV (w3.alloc (.cells (nc n.lv A7).toArray 51)) (.agg (nc n.lv A7).toArray) n := ⟨A7, rfl, hp7.keep0 ((Frm.refl [] _).alloc _)⟩
      have g3 := f3.alloc (.cells (nc n.lv A7).toArray 51)
      generalize w3.alloc (.cells (nc n.lv A7).toArray 51) = V3 at *
      have D3 := Lib.hid (C3.out.keep0 g3)
      have D5 := Lib.hid (C5.out.keep0 g3)
      have F3 := Lib.hid (F2.out.trans g3 (by simp))
      clear f3 g3 hp7 C3 C5 F2
      go_upto_region 5 with (first
        | ((with_reducible (show wpList _ _ _ (Oper.mk _ (Op.load 26 _) _ _ _ _ :: _) _ _)); refine wpList_load_g (by rfl) 26 _ rfl _ rfl D5.out.load ?_)
        | (go_at_call 14; refine (HCP.out _ F3.out).mono ?_; rintro r w4 ⟨a8, c8, s8, rfl, o8, f4, n8⟩)
        | ((with_reducible (show wpList _ _ _ (Oper.mk _ (Op.alloc 26) _ _ _ _ :: _) _ _)); refine wpList_lay1 rfl rfl rfl (.tmp 8) (.tmp 30) rfl zp rfl rfl ?_))
      have h8 := Boxed.new w4 a8 c8 zp
      have f8 : Frm [] w4 (w4.alloc (.cells (pc (.slice a8 p.ads.length c8) p.b p.l p.s).toArray 26)) := (Frm.refl [] w4).alloc _
      have p8 := (o8.keep f8 (by simp)).pt zp
      have g4 := f4.trans f8 (by simp)
      generalize w4.alloc (.cells (pc (.slice a8 p.ads.length c8) p.b p.l p.s).toArray 26) = V at *
      generalize pv (.slice a8 p.ads.length c8) p.b p.l p.s = x8 at *
      generalize w4.heap.size = g8 at *
      generalize w3.heap.size = g7 at *
      have B7 := Lib.hid (h7.keep0 g4)
      have V7 := Lib.hid (hv7.keep0 g4)
      have B8 := Lib.hid h8
      have V8 := Lib.hid p8
      have E3 := Lib.hid (D3.out.keep0 g4)
      have E5 := Lib.hid (D5.out.keep0 g4)
      have FV := Lib.hid (F3.out.trans g4 (by simp))
      clear h7 hv7 h8 p8 f4 f8 g4 o8 n8 D3 D5 F3
      go_upto_region 6 with (first
        | ((with_reducible (show wpList _ _ _ (Oper.mk _ (Op.load 51 _) _ _ _ _ :: _) _ _)); refine wpList_load_g (by rfl) 51 _ rfl _ rfl B7.out.all ?_)
        | (go_at_call 37; refine (HPK.out _ _ V7.out).mono ?_; rintro r w5 ⟨a9, c9, s9, rfl, o9, f5, n9⟩))
      have e3 := E3.out.keep0 f5
      go_upto_region 7 with (first
        | ((with_reducible (show wpList _ _ _ (Oper.mk _ (Op.load 51 _) _ _ _ _ :: _) _ _)); refine wpList_load_g (by rfl) 51 _ rfl _ rfl e3.load ?_)
        | (go_at_call 38; refine (HRP.out _ (FV.out.trans f5 (by simp))).mono ?_; rintro r w6 ⟨a11, c11, s11, rfl, o11, f6, n11⟩))
      have F6 := Lib.hid (f5.trans f6 (by simp))
      have O9 := Lib.hid (o9.keep f6 (by simp))
      have O11 := Lib.hid o11.sl
      have N9 := Lib.hid n9
      clear o9 o11 f5 f6 n9 n11 e3
      generalize hx7 : Value.agg (nc n.lv A7).toArray = x7 at *
      have HX7 := Lib.hid hx7
      clear hx7
      have L7 := Lib.hid (fun W (f : Frm [] V W) => show (Instr.loadAt 51 (.pointer (some ⟨g7, 0, none⟩))).run Try.prog W = .ok x7 W from by rw [← HX7.out]; exact (B7.out.keep0 f).all)
      refine wp_region_held_drew (S := fun z => Frm [] w6 z) (by kernel_rfl) ((Frm.refl [] w6).drew) (fun hHeld => ?_)
      refine wpAnyH_take (i := 0) (oi := { dst := some 41, op := Op.move (Operand.tmp 9), type := 29, pos := "law.go:20", after := #[], guard := none }) (v := ?_) rfl (by kernel_rfl) (by kernel_rfl) (by kernel_rfl) (fun _ _ _ h => h) (Or.inl ⟨by rfl, ?_⟩) hHeld ?_
      rotate_left
      focus (intro z hSw; clear hSw; go_simp; try with_reducible rfl)
      try simp only [Act.put, List.setIfInBounds_toArray, List.set_cons_zero, List.set_cons_succ]
      refine wpAnyH_take (i := 1) (oi := { dst := some 42, op := Op.move (Operand.tmp 11), type := 29, pos := "law.go:20", after := #[], guard := none }) (v := ?_) rfl (by kernel_rfl) (by kernel_rfl) (by kernel_rfl) (fun _ _ _ h => h) (Or.inl ⟨by rfl, ?_⟩) hHeld ?_
      rotate_left
      focus (intro z hSw; clear hSw; go_simp; try with_reducible rfl)
      try simp only [Act.put, List.setIfInBounds_toArray, List.set_cons_zero, List.set_cons_succ]
      refine wpAnyH_ready (rs := [2]) (by kernel_rfl) (by simp) ?_
      refine AllReadyH.cons (o := { dst := some 43, op := Op.call { callee := Callee.value (Operand.func 17), args := #[Operand.tmp 41, Operand.tmp 42], argTypes := #[29, 29] }, type := 4, pos := "law.go:20", after := #[{ on := 0, ground := Ground.data }, { on := 1, ground := Ground.data }], guard := none }) rfl (fun K hK => ?_) AllReadyH.nil
      go_simp
      refine (SameBytes_any _ _ _ s9 _ s11 _ (O9.out.keep hHeld (by simp)).sl (O11.out.keep hHeld (by simp))).mono ?_
      rintro r wn ⟨rfl, rfl⟩
      rw [HEQ.out]
      refine hK.out _ _ ?_ (fun hNext => ?_)
      · exact hHeld
      clear hK K hHeld
      have hHeld := hNext
      clear hNext
      try simp only [Act.put, List.setIfInBounds_toArray, List.set_cons_zero, List.set_cons_succ]
      refine wpAnyH_take (i := 3) (oi := { dst := some 44, op := Op.move (Operand.tmp 43), type := 4, pos := "law.go:20", after := #[{ on := 2, ground := Ground.data }, { on := 2, ground := Ground.chain }], guard := none }) (v := ?_) rfl (by kernel_rfl) (by kernel_rfl) (by kernel_rfl) (fun _ _ _ h => h) (Or.inl ⟨by rfl, ?_⟩) hHeld ?_
      rotate_left
      focus (intro z hSw; clear hSw; go_simp; try with_reducible rfl)
      try simp only [Act.put, List.setIfInBounds_toArray, List.set_cons_zero, List.set_cons_succ]
      refine wpAnyH_take (i := 4) (oi := { dst := some 45, op := Op.move (Operand.tmp 10), type := 30, pos := "law.go:20", after := #[{ on := 3, ground := Ground.guard }], guard := some (3, true) }) (v := ?_) rfl (by kernel_rfl) (by kernel_rfl) (by kernel_rfl) (fun _ _ _ h => h) (Or.inl ⟨by rfl, ?_⟩) hHeld ?_
      rotate_left
      focus (intro z hSw; clear hSw; go_simp; try with_reducible rfl)
      try simp only [Act.put, List.setIfInBounds_toArray, List.set_cons_zero, List.set_cons_succ]
      refine wpAnyH_take (i := 5) (oi := { dst := some 46, op := Op.move (Operand.tmp 12), type := 30, pos := "law.go:20", after := #[{ on := 3, ground := Ground.guard }], guard := some (3, true) }) (v := ?_) rfl (by kernel_rfl) (by kernel_rfl) (by kernel_rfl) (fun _ _ _ h => h) (Or.inl ⟨by rfl, ?_⟩) hHeld ?_
      rotate_left
      focus (intro z hSw; clear hSw; go_simp; try with_reducible rfl)
      try simp only [Act.put, List.setIfInBounds_toArray, List.set_cons_zero, List.set_cons_succ]
      refine wpAnyH_take (i := 6) (oi := { dst := some 47, op := Op.binOp BinOp.eql 30 (Operand.tmp 45) (Operand.tmp 46) 30, type := 4, pos := "law.go:20", after := #[{ on := 4, ground := Ground.data }, { on := 5, ground := Ground.data }, { on := 3, ground := Ground.guard }], guard := some (3, true) }) (v := ?_) rfl (by kernel_rfl) (by kernel_rfl) (by kernel_rfl) (fun _ _ _ h => h) (Or.inl ⟨by rfl, ?_⟩) hHeld ?_
      rotate_left
      focus (intro z hSw; clear hSw; go_simp; try with_reducible rfl)
      try simp only [Act.put, List.setIfInBounds_toArray, List.set_cons_zero, List.set_cons_succ]
      refine wpAnyH_take (i := 7) (oi := { dst := some 48, op := Op.pick (Operand.tmp 44) (Operand.tmp 47) (Operand.const (Value.bool false)), type := 4, pos := "law.go:20", after := #[{ on := 3, ground := Ground.data }, { on := 6, ground := Ground.data }], guard := none }) (v := ?_) rfl (by kernel_rfl) (by kernel_rfl) (by kernel_rfl) (fun _ _ _ h => h) (Or.inl ⟨by rfl, ?_⟩) hHeld ?_
      rotate_left
      focus (intro z hSw; clear hSw; go_simp; try with_reducible rfl)
      try simp only [Act.put, List.setIfInBounds_toArray, List.set_cons_zero, List.set_cons_succ]
      refine wpAnyH_take (i := 8) (oi := { dst := some 49, op := Op.move (Operand.tmp 48), type := 4, pos := "law.go:20", after := #[{ on := 7, ground := Ground.data }, { on := 3, ground := Ground.chain }], guard := none }) (v := ?_) rfl (by kernel_rfl) (by kernel_rfl) (by kernel_rfl) (fun _ _ _ h => h) (Or.inl ⟨by rfl, ?_⟩) hHeld ?_
      rotate_left
      focus (intro z hSw; clear hSw; go_simp; try with_reducible rfl)
      try simp only [Act.put, List.setIfInBounds_toArray, List.set_cons_zero, List.set_cons_succ]
      refine wpAnyH_take (i := 9) (oi := { dst := some 50, op := Op.load 51 (Operand.tmp 7), type := 51, pos := "law.go:20", after := #[{ on := 8, ground := Ground.guard }], guard := some (8, true) }) rfl (by kernel_rfl) (by kernel_rfl) (by kernel_rfl) (fun _ _ _ h => h) (yieldsIf_ld (by rfl) 51 _ rfl _ rfl (fun z hSw => L7.out z (F6.out.trans hSw (by simp)))) hHeld ?_
      try simp only [Act.put, List.setIfInBounds_toArray, List.set_cons_zero, List.set_cons_succ]
      refine wpAnyH_take (i := 11) (oi := { dst := some 52, op := Op.load 51 (Operand.tmp 3), type := 51, pos := "law.go:20", after := #[{ on := 8, ground := Ground.guard }], guard := some (8, true) }) rfl (by kernel_rfl) (by kernel_rfl) (by kernel_rfl) (fun _ _ _ h => h) (yieldsIf_ld (by rfl) 51 _ rfl _ rfl (fun z hSw => ((E3.out.keep0 F6.out).keep0 hSw).load)) hHeld ?_
      try simp only [Act.put, List.setIfInBounds_toArray, List.set_cons_zero, List.set_cons_succ]
      refine wpAnyH_ready (rs := [10]) (by kernel_rfl) (by simp) ?_
      refine AllReadyH.cons (o := { dst := some 51, op := Op.call { callee := Callee.value (Operand.func 39), args := #[Operand.tmp 50], argTypes := #[51] }, type := 30, pos := "law.go:20", after := #[{ on := 9, ground := Ground.data }, { on := 8, ground := Ground.chain }, { on := 8, ground := Ground.guard }], guard := some (8, true) }) rfl (fun K hK => ?_) AllReadyH.nil
      go_simp
      refine (K1.out _ _ (V7.out.keep0 (F6.out.trans hHeld (by simp)))).mono ?_
      rintro r wn ⟨rfl, fn⟩
      refine hK.out _ _ ?_ (fun hNext => ?_)
      · exact hHeld.trans fn (by simp)
      clear hK K hHeld
      have hHeld := hNext
      clear hNext
      try simp only [Act.put, List.setIfInBounds_toArray, List.set_cons_zero, List.set_cons_succ]
      refine wpAnyH_ready (rs := [12]) (by kernel_rfl) (by simp) ?_
      refine AllReadyH.cons (o := { dst := some 53, op := Op.call { callee := Callee.value (Operand.func 40), args := #[Operand.tmp 52], argTypes := #[51] }, type := 30, pos := "law.go:20", after := #[{ on := 11, ground := Ground.data }, { on := 10, ground := Ground.chain }, { on := 8, ground := Ground.guard }], guard := some (8, true) }) rfl (fun K hK => ?_) AllReadyH.nil
      go_simp
      refine (K2.out _ ((FV.out.trans F6.out (by simp)).trans hHeld (by simp))).mono ?_
      rintro r wn ⟨rfl, fn⟩
      refine hK.out _ _ ?_ (fun hNext => ?_)
      · exact hHeld.trans fn (by simp)
      clear hK K hHeld
      have hHeld := hNext
      clear hNext
      try simp only [Act.put, List.setIfInBounds_toArray, List.set_cons_zero, List.set_cons_succ]
      refine wpAnyH_take (i := 13) (oi := { dst := some 54, op := Op.binOp BinOp.eql 30 (Operand.tmp 51) (Operand.tmp 53) 30, type := 4, pos := "law.go:20", after := #[{ on := 10, ground := Ground.data }, { on := 12, ground := Ground.data }, { on := 8, ground := Ground.guard }], guard := some (8, true) }) (v := ?_) rfl (by kernel_rfl) (by kernel_rfl) (by kernel_rfl) (fun _ _ _ h => h) (Or.inl ⟨by rfl, ?_⟩) hHeld ?_
      rotate_left
      focus (intro z hSw; clear hSw; go_simp; try with_reducible rfl)
      try simp only [Act.put, List.setIfInBounds_toArray, List.set_cons_zero, List.set_cons_succ]
      refine wpAnyH_take (i := 14) (oi := { dst := some 55, op := Op.pick (Operand.tmp 49) (Operand.tmp 54) (Operand.const (Value.bool false)), type := 4, pos := "law.go:20", after := #[{ on := 8, ground := Ground.data }, { on := 13, ground := Ground.data }], guard := none }) (v := ?_) rfl (by kernel_rfl) (by kernel_rfl) (by kernel_rfl) (fun _ _ _ h => h) (Or.inl ⟨by rfl, ?_⟩) hHeld ?_
      rotate_left
      focus (intro z hSw; clear hSw; go_simp; try with_reducible rfl)
      try simp only [Act.put, List.setIfInBounds_toArray, List.set_cons_zero, List.set_cons_succ]
      refine wpAnyH_take (i := 15) (oi := { dst := some 56, op := Op.move (Operand.tmp 55), type := 4, pos := "law.go:20", after := #[{ on := 14, ground := Ground.data }, { on := 12, ground := Ground.chain }], guard := none }) (v := ?_) rfl (by kernel_rfl) (by kernel_rfl) (by kernel_rfl) (fun _ _ _ h => h) (Or.inl ⟨by rfl, ?_⟩) hHeld ?_
      rotate_left
      focus (intro z hSw; clear hSw; go_simp; try with_reducible rfl)
      try simp only [Act.put, List.setIfInBounds_toArray, List.set_cons_zero, List.set_cons_succ]
      refine wpAnyH_take (i := 16) (oi := { dst := some 57, op := Op.load 51 (Operand.tmp 7), type := 51, pos := "law.go:20", after := #[{ on := 15, ground := Ground.guard }], guard := some (15, true) }) rfl (by kernel_rfl) (by kernel_rfl) (by kernel_rfl) (fun _ _ _ h => h) (yieldsIf_ld (by rfl) 51 _ rfl _ rfl (fun z hSw => L7.out z (F6.out.trans hSw (by simp)))) hHeld ?_
      try simp only [Act.put, List.setIfInBounds_toArray, List.set_cons_zero, List.set_cons_succ]
      refine wpAnyH_take (i := 18) (oi := { dst := some 59, op := Op.load 51 (Operand.tmp 3), type := 51, pos := "law.go:20", after := #[{ on := 15, ground := Ground.guard }], guard := some (15, true) }) rfl (by kernel_rfl) (by kernel_rfl) (by kernel_rfl) (fun _ _ _ h => h) (yieldsIf_ld (by rfl) 51 _ rfl _ rfl (fun z hSw => ((E3.out.keep0 F6.out).keep0 hSw).load)) hHeld ?_
      try simp only [Act.put, List.setIfInBounds_toArray, List.set_cons_zero, List.set_cons_succ]
      refine wpAnyH_ready (rs := [17]) (by kernel_rfl) (by simp) ?_
      refine AllReadyH.cons (o := { dst := some 58, op := Op.call { callee := Callee.value (Operand.func 41), args := #[Operand.tmp 57], argTypes := #[51] }, type := 4, pos := "law.go:20", after := #[{ on := 16, ground := Ground.data }, { on := 15, ground := Ground.chain }, { on := 15, ground := Ground.guard }], guard := some (15, true) }) rfl (fun K hK => ?_) AllReadyH.nil
      go_simp
      refine (K3.out _ _ (V7.out.keep0 (F6.out.trans hHeld (by simp)))).mono ?_
      rintro r wn ⟨rfl, fn⟩
      refine hK.out _ _ ?_ (fun hNext => ?_)
      · exact hHeld.trans fn (by simp)
      clear hK K hHeld
      have hHeld := hNext
      clear hNext
      try simp only [Act.put, List.setIfInBounds_toArray, List.set_cons_zero, List.set_cons_succ]
      refine wpAnyH_ready (rs := [19]) (by kernel_rfl) (by simp) ?_
      refine AllReadyH.cons (o := { dst := some 60, op := Op.call { callee := Callee.value (Operand.func 42), args := #[Operand.tmp 59], argTypes := #[51] }, type := 4, pos := "law.go:20", after := #[{ on := 18, ground := Ground.data }, { on := 17, ground := Ground.chain }, { on := 15, ground := Ground.guard }], guard := some (15, true) }) rfl (fun K hK => ?_) AllReadyH.nil
      go_simp
      refine (K4.out _ ((FV.out.trans F6.out (by simp)).trans hHeld (by simp))).mono ?_
      rintro r wn ⟨rfl, fn⟩
      refine hK.out _ _ ?_ (fun hNext => ?_)
      · exact hHeld.trans fn (by simp)
      clear hK K hHeld
      have hHeld := hNext
      clear hNext
      try simp only [Act.put, List.setIfInBounds_toArray, List.set_cons_zero, List.set_cons_succ]
      refine wpAnyH_take (i := 20) (oi := { dst := some 61, op := Op.binOp BinOp.eql 4 (Operand.tmp 58) (Operand.tmp 60) 4, type := 4, pos := "law.go:20", after := #[{ on := 17, ground := Ground.data }, { on := 19, ground := Ground.data }, { on := 15, ground := Ground.guard }], guard := some (15, true) }) (v := ?_) rfl (by kernel_rfl) (by kernel_rfl) (by kernel_rfl) (fun _ _ _ h => h) (Or.inl ⟨by rfl, ?_⟩) hHeld ?_
      rotate_left
      focus (intro z hSw; clear hSw; go_simp; try with_reducible rfl)
      try simp only [Act.put, List.setIfInBounds_toArray, List.set_cons_zero, List.set_cons_succ]
      refine wpAnyH_take (i := 21) (oi := { dst := some 62, op := Op.pick (Operand.tmp 56) (Operand.tmp 61) (Operand.const (Value.bool false)), type := 4, pos := "law.go:20", after := #[{ on := 15, ground := Ground.data }, { on := 20, ground := Ground.data }], guard := none }) (v := ?_) rfl (by kernel_rfl) (by kernel_rfl) (by kernel_rfl) (fun _ _ _ h => h) (Or.inl ⟨by rfl, ?_⟩) hHeld ?_
      rotate_left
      focus (intro z hSw; clear hSw; go_simp; try with_reducible rfl)
      try simp only [Act.put, List.setIfInBounds_toArray, List.set_cons_zero, List.set_cons_succ]
      refine wpAnyH_take (i := 22) (oi := { dst := some 13, op := Op.assign (Operand.tmp 62), type := 4, pos := "law.go:20", after := #[{ on := 21, ground := Ground.data }, { on := 19, ground := Ground.chain }, { on := 0, ground := Ground.phase }, { on := 1, ground := Ground.phase }, { on := 2, ground := Ground.phase }, { on := 3, ground := Ground.phase }, { on := 4, ground := Ground.phase }, { on := 5, ground := Ground.phase }, { on := 6, ground := Ground.phase }, { on := 7, ground := Ground.phase }, { on := 8, ground := Ground.phase }, { on := 9, ground := Ground.phase }, { on := 10, ground := Ground.phase }, { on := 11, ground := Ground.phase }, { on := 12, ground := Ground.phase }, { on := 13, ground := Ground.phase }, { on := 14, ground := Ground.phase }, { on := 15, ground := Ground.phase }, { on := 16, ground := Ground.phase }, { on := 17, ground := Ground.phase }, { on := 18, ground := Ground.phase }, { on := 19, ground := Ground.phase }, { on := 20, ground := Ground.phase }, { on := 21, ground := Ground.phase }], guard := none }) (v := ?_) rfl (by kernel_rfl) (by kernel_rfl) (by kernel_rfl) (fun _ _ _ h => h) (Or.inl ⟨by rfl, ?_⟩) hHeld ?_
      rotate_left
      focus (intro z hSw; clear hSw; go_simp; try with_reducible rfl)
      try simp only [Act.put, List.setIfInBounds_toArray, List.set_cons_zero, List.set_cons_succ]
      refine wpAnyH_done (by kernel_rfl) ?_ _
      have F7 := Lib.hid (F6.out.trans hHeld (by simp))
      have O97 := Lib.hid (O9.out.keep hHeld (by simp))
      clear hHeld O9 O11 F6 HPK HRP K1 K2 K3 K4 HEQ
      go_upto_region 9 with (go_at_call 22; refine (OverT_all _ _ _ _ _ O97.out).mono ?_; rintro r w7 ⟨rfl, f7⟩)
      have G7 := Lib.hid (F7.out.trans f7 (fun i hi => .inr (N9.out i hi)))
      clear f7 F7 O97 N9
      go_upto_region 10 with (first
        | ((with_reducible (show wpList _ _ _ (Oper.mk _ (Op.load 51 _) _ _ _ _ :: _) _ _)); first | (refine wpList_load_g (by rfl) 51 _ rfl _ rfl (L7.out _ G7.out) ?_))
        | ((with_reducible (show wpList _ _ _ (Oper.mk _ (Op.load 26 _) _ _ _ _ :: _) _ _)); first | (refine wpList_load_g (by rfl) 26 _ rfl _ rfl ((B8.out.keep0 G7.out).load) ?_))
        | (go_at_call 43; refine (HS1.out _ _ _ (V7.out.keep0 G7.out) (V8.out.keep0 G7.out)).mono ?_; rintro r w8 ⟨x14, rfl, ⟨A14, rfl, q14, h14⟩, f8⟩)
        | ((with_reducible (show wpList _ _ _ (Oper.mk _ (Op.alloc 51) _ _ _ _ :: _) _ _)); refine wpList_lay51 rfl rfl rfl (.tmp 14) (.tmp 70) rfl q14.1 q14.rows rfl rfl ?_))
      have b14 : NB (w8.alloc (.cells (nc sn.lv A14).toArray 51)) w8.heap.size sn.lv A14 := NB.new _ _ q14.1 q14.rows
      have a14 : Frm [] w8 (w8.alloc (.cells (nc sn.lv A14).toArray 51)) := (Frm.refl [] _).alloc _
      have o14 : NdO w7.heap.size (w8.alloc (.cells (nc sn.lv A14).toArray 51)) (.agg (nc sn.lv A14).toArray) sn := NdO.keep0 ⟨A14, rfl, q14, h14⟩ a14
      have F8 := Lib.hid ((G7.out.trans f8 (by simp)).trans a14 (by simp))
      have sz : V.heap.size ≤ w7.heap.size := G7.out.size
      generalize w8.alloc (.cells (nc sn.lv A14).toArray 51) = W8 at *
      generalize w8.heap.size = g14 at *
      generalize w7.heap.size = b7 at *
      clear f8 a14 q14 h14 G7
      have B14 := Lib.hid b14
      have O14 := Lib.hid o14
      have SZ := Lib.hid sz
      clear b14 o14 sz
      go_upto_region 11 with (first
        | ((with_reducible (show wpList _ _ _ (Oper.mk _ (Op.load 51 _) _ _ _ _ :: _) _ _)); first | (refine wpList_load_g (by rfl) 51 _ rfl _ rfl ((E3.out.keep0 F8.out).load) ?_))
        | ((with_reducible (show wpList _ _ _ (Oper.mk _ (Op.load 26 _) _ _ _ _ :: _) _ _)); first | (refine wpList_load_g (by rfl) 26 _ rfl _ rfl ((E5.out.keep0 F8.out).load) ?_))
        | (go_at_call 44; refine (HS2.out _ (FV.out.trans F8.out (by simp))).mono ?_; rintro r w9 ⟨x16, rfl, ⟨A16, rfl, q16, h16⟩, f9⟩)
        | ((with_reducible (show wpList _ _ _ (Oper.mk _ (Op.alloc 51) _ _ _ _ :: _) _ _)); refine wpList_lay51 rfl rfl rfl (.tmp 16) (.tmp 77) rfl q16.1 q16.rows rfl rfl ?_))
      have b16 : NB (w9.alloc (.cells (nc sn.lv A16).toArray 51)) w9.heap.size sn.lv A16 := NB.new _ _ q16.1 q16.rows
      have a16 : Frm [] w9 (w9.alloc (.cells (nc sn.lv A16).toArray 51)) := (Frm.refl [] _).alloc _
      have v16 : NdV (w9.alloc (.cells (nc sn.lv A16).toArray 51)) (.agg (nc sn.lv A16).toArray) sn := NdV.keep0 ⟨A16, rfl, q16⟩ a16
      have f89 := f9.trans a16 (by simp)
      generalize w9.alloc (.cells (nc sn.lv A16).toArray 51) = W9 at *
      generalize w9.heap.size = g16 at *
      have F9 := Lib.hid (F8.out.trans f89 (by simp))
      have P14 := Lib.hid (B14.out.keep0 f89)
      have Q14 := Lib.hid (O14.out.keep0 f89)
      have P16 := Lib.hid b16
      have Q16 := Lib.hid v16
      clear f9 a16 q16 h16 f89 b16 v16 B14 O14 F8
      go_upto_region 12 with (first
        | ((with_reducible (show wpList _ _ _ (Oper.mk _ (Op.load 51 _) _ _ _ _ :: _) _ _)); first | (refine wpList_load_g (by rfl) 51 _ rfl _ rfl (P14.out.all) ?_) | (refine wpList_load_g (by rfl) 51 _ rfl _ rfl (P16.out.all) ?_))
        | (go_at_call 45; refine (HSS.out _ _ _ Q14.out.ndv Q16.out).mono ?_; rintro r w10 ⟨rfl, f10⟩))
      have R14 := Lib.hid (P14.out.keep0 f10)
      have S14 := Lib.hid (Q14.out.keep0 f10)
      have F10 := Lib.hid (F9.out.trans f10 (by simp))
      clear f10 P14 Q14 P16 Q16 F9
      go_upto_region 13 with (first
        | ((with_reducible (show wpList _ _ _ (Oper.mk _ (Op.load 51 _) _ _ _ _ :: _) _ _)); first | (refine wpList_load_g (by rfl) 51 _ rfl _ rfl (R14.out.all) ?_))
        | (go_at_call 46; refine (HON.out _ _ _ S14.out).mono ?_; rintro r w11 ⟨rfl, Lo, f11, l11⟩))
      have G11 := Lib.hid (F10.out.trans f11 (fun i hi => .inr (Nat.le_trans SZ.out (l11 i hi))))
      clear f11 l11 R14 S14 F10
      go_wp2_with (first
        | ((with_reducible (show wpList _ _ _ (Oper.mk _ (Op.load 51 _) _ _ _ _ :: _) _ _)); first | (refine wpList_load_g (by rfl) 51 _ rfl _ rfl (L7.out _ G11.out) ?_) | (refine wpList_load_g (by rfl) 51 _ rfl _ rfl ((E3.out.keep0 G11.out).load) ?_))
        | (go_at_call 45; refine (HSN.out _ _ (V7.out.keep0 G11.out) (FV.out.trans G11.out (by simp))).mono ?_; rintro r w12 ⟨rfl, f12⟩)
        | ((with_reducible (show wpList _ _ _ (Oper.mk _ (Op.load 26 _) _ _ _ _ :: _) _ _)); first | (refine wpList_load_g (by rfl) 26 _ rfl _ rfl ((B8.out.keep0 (G11.out.trans f12 (by simp))).load) ?_) | (refine wpList_load_g (by rfl) 26 _ rfl _ rfl ((E5.out.keep0 (G11.out.trans f12 (by simp))).load) ?_))
        | (go_at_call 27; refine (HSP.out _ _ (V8.out.keep0 (G11.out.trans f12 (by simp))) (FV.out.trans (G11.out.trans f12 (by simp)) (by simp))).mono ?_; rintro r w13 ⟨rfl, f13⟩)
        | (go_at_call 35; refine (nawake_any _).mono ?_; rintro r wn ⟨rfl, fn⟩))
      go_ret
      exact ⟨rfl, (((FV.out.trans G11.out (by simp)).trans f12 (by simp)).trans f13 (by simp)).trans fn (by simp)⟩
    · have h20' : (20 : Int) < (p.ads.length : Int) := by omega
      go_wp2_with (first
        | ((with_reducible (show wpList _ _ _ (Oper.mk _ (Op.load 51 _) _ _ _ _ :: _) _ _)); refine wpList_load_g (by rfl) 51 _ rfl _ rfl B3.out.load ?_)
        | (go_at_call 34; refine (HBig.out _ F0.out).mono ?_; rintro r w2 ⟨rfl, f2⟩; replace k5 := f2.cell k5 (by simp))
        | (go_at_call 35; refine (nawake_any _).mono ?_; rintro r wn ⟨rfl, fn⟩))
      go_ret
      exact ⟨rfl, (F0.out.trans f2 (by simp)).trans fn (by simp)⟩
end Go.Proofs.Ytjjcjocomanohaa
