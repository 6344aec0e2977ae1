/-
  Nodes: what is known of them, Unpack beside the document's answer, and the walk of NodeUnpacks. No conditions but those that each theorem names.
-/
import Derived.Test.YtjjcjocomanohaaNL
import Derived.Test.YtjjcjocomanohaaNI
import Derived.Test.YtjjcjocomanohaaNJ
import Derived.Test.YtjjcjocomanohaaPQ
namespace Go.Proofs.Ytjjcjocomanohaa
open Go.RowKit
set_option linter.unusedVariables false
set_option linter.unusedSimpArgs false
set_option maxRecDepth 100000

def oneNd : Nd := ⟨1, List.replicate 4 zeroPt⟩
theorem one_node : nodeB oneNd = true := by decide
theorem one_chk : nchk oneNd = 0 := by decide
theorem one_empty : emptyB oneNd = true := by decide
theorem zero_nchk : nchk zeroNd = 2 := by decide
theorem one_pack : packB oneNd = (List.replicate 256 0).set 0 1 := by decide
theorem un_nil : unE [] = 4 := by decide
theorem unNd_nil : unNd [] = zeroNd := by rfl
theorem oneNd_v (W : World) : NdV W (.agg (nc 1 zAs).toArray) oneNd := ⟨zAs, rfl, ptsv_zero W⟩
theorem zero_ads : ∀ p ∈ List.replicate 4 zeroPt, p.ads.length ≤ 1000000 := fun p hp => by rw [List.eq_of_mem_replicate hp]; simp [zeroPt]
set_option maxHeartbeats 8000000 in
theorem nawake_any (w : World) : Calls Try.prog 35 #[] w (Yes w) := by
  have hP := Lib.hid (fun W => Pack_any _ oneNd W (oneNd_v W) zero_ads)
  unfold PackP at hP
  rw [one_chk, one_pack] at hP
  have h256 : ((List.replicate 256 (0 : UInt8)).set 0 1).length = 256 := by simp
  rw [h256] at hP
  generalize hz : (List.replicate 256 (0 : UInt8)).set 0 1 = z1 at hP h256
  have HEQ := Lib.hid (show (z1 == (List.replicate 256 0).set 0 1) = true by rw [hz]; simp)
  clear hz h256
  have hU := Lib.hid (fun W => Unpack_any (.slice none 0 0) [] [] W (SlB.nil W) (by simp))
  unfold UnP at hU
  rw [un_nil, unNd_nil] at hU
  have hE := Lib.hid (fun W => nodeEmpty_any _ oneNd W (oneNd_v W) zero_ads)
  rw [one_empty] at hE
  have hC := Lib.hid (fun W => nodeCheck_any _ zeroNd W (zeroNd_v W) zero_ads)
  rw [zero_nchk] at hC
  go_enter Try.func35, Try.ntmps35
  go_upto_region 2 with (first
    | ((with_reducible (show wpList _ _ _ (Oper.mk _ (Op.build 51 _) _ _ _ _ :: _) _ _)); refine wpList_val rfl (exec_bld51 (.const (.int .i64 1)) rfl rfl _) ?_)
    | (go_at_call 37; refine (hP.out _).mono ?_; rintro r w1 ⟨a1, c1, s1, rfl, o1, f1, n1⟩))
  go_upto_region 3 with ((with_reducible (show wpList _ _ _ (Oper.mk _ (Op.makeSlice 29 _ _) _ _ _ _ :: _) _ _)); refine wpList_make_g BT (by rfl) 256 (by omega) (.const (.int .i64 256)) (.const (.int .i64 256)) rfl rfl rfl rfl rfl ?_; intro w2 o2 f2)
  have q0 := o2.cell 0 (by simp)
  have r0 := o2.frozen 0
  have o3 := o2.store 0 (by simp) 1 (u := .int .u8 1) rfl
  have f3 : Frm [w1.heap.size] w1 (w2.setCell ⟨w1.heap.size, 0, none⟩ (.int .u8 1)) := (f2.mono (L' := [w1.heap.size]) (by simp)).setCell _ _ (by simp)
  unfold bv at q0
  go_upto_region 4 with (fail)
  generalize w2.setCell ⟨w1.heap.size, 0, none⟩ (.int .u8 1) = w3 at *
  have P1 := Lib.hid (o1.sl.keep f3 (fun i hi => by have := o1.lt i hi; simp; omega))
  have P3 := Lib.hid o3.sl
  have F3 := Lib.hid (f1.trans f3 (fun i hi => .inr (by have := f1.size; simp at hi; omega)))
  clear o1 o2 o3 f1 f2 f3 q0 r0 n1
  go_upto_region 5 with (first
    | (go_at_call 47; refine (hU.out _).mono ?_; rintro r w4 ⟨x4, rfl, ⟨As, rfl, hps⟩, f4⟩)
    | ((with_reducible (show wpList _ _ _ (Oper.mk _ (Op.alloc 51) _ _ _ _ :: _) _ _)); refine wpList_lay51 rfl rfl rfl (.tmp 4) (.tmp 16) rfl hps.1 hps.rows rfl rfl ?_))
  have F4 := Lib.hid (f4.alloc (.cells (nc zeroNd.lv As).toArray 51))
  generalize w4.alloc (.cells (nc zeroNd.lv As).toArray 51) = V at *
  have fz := Lib.hid (Frm.refl [] V)
  clear f4 hps
  go_wp2_with (first
    | (go_at_call 17; refine (SameBytes_any _ _ _ s1 _ _ _ (P1.out.keep (F4.out.trans fz.out (by simp)) (by simp)) (P3.out.keep (F4.out.trans fz.out (by simp)) (by simp))).mono ?_; rw [HEQ.out]; rintro r wn ⟨rfl, rfl⟩)
    | ((with_reducible (show wpList _ _ _ (Oper.mk (some 26) (Op.build 51 _) _ _ _ _ :: _) _ _)); refine wpList_val_g (by rfl) (exec_bld51 (.const (.int .i64 1)) rfl rfl _) ?_)
    | ((with_reducible (show wpList _ _ _ (Oper.mk (some 34) (Op.build 51 _) _ _ _ _ :: _) _ _)); refine wpList_val_g (by rfl) (exec_bld51z rfl _) ?_)
    | (go_at_call 41; refine (hE.out _).mono ?_; rintro r wn ⟨rfl, fn⟩; replace fz := Lib.hid (fz.out.trans fn (by simp)); clear fn)
    | (go_at_call 39; refine (hC.out _).mono ?_; rintro r wn ⟨rfl, fn⟩; replace fz := Lib.hid (fz.out.trans fn (by simp)); clear fn))
  go_ret
  exact ⟨rfl, F3.out.trans (F4.out.trans fz.out (by simp)) (by simp)⟩
end Go.Proofs.Ytjjcjocomanohaa

namespace Go.Proofs.Ytjjcjocomanohaa
open Go.RowKit
set_option linter.unusedVariables false
set_option linter.unusedSimpArgs false
set_option maxRecDepth 100000

theorem bld01 (a : Option Addr) (n c : Nat) (x : Int) (W : World) : (Instr.build 26 #[(0, .slice a n c), (1, .int .i64 x)]).run Try.prog W = .ok (pv (.slice a n c) x 0 zs) W := by kernel_rfl
theorem exec_bld01 {o : Oper} {ac : Act} {a : Option Addr} {n c : Nat} {x : Int} (r s : Operand) (hop : o.op = Op.build 26 #[(0, r), (1, s)]) (h0 : ac.eval r = .slice a n c) (h1 : ac.eval s = .int .i64 x) (W : World) : (execOp ac.eval o).run Try.prog W = .ok (.value (pv (.slice a n c) x 0 zs)) W := by
  have hb := bld01 a n c x W
  have hm : (#[(0, r), (1, s)].map fun ((i, x) : Nat × Operand) => (i, ac.eval x)) = #[(0, .slice a n c), (1, .int .i64 x)] := by simp [h0, h1]
  simp only [execOp, hop, hm, Sem.run_bind, Sem.run_pure, hb, Result.andThen_ok]
def pt5 : Pt := ⟨[(0, 5)], 1, 0, zs⟩
def twoNd : Nd := ⟨2, (List.replicate 4 zeroPt).set 0 pt5⟩
def fourNd : Nd := ⟨4, List.replicate 4 zeroPt⟩
theorem two_chk : nchk twoNd = 2 := by decide
theorem two_empty : emptyB twoNd = false := by decide
theorem four_chk : nchk fourNd = 2 := by decide
theorem un_zero : goodN (List.replicate 256 0) = false := by decide
theorem unE_zero : unE (List.replicate 256 0) = 2 := by rw [unE, un_zero]; rfl
theorem unNd_zero : unNd (List.replicate 256 0) = zeroNd := by rw [unNd, un_zero]; rfl
theorem set_four : setOk oneNd 4 zeroPt = false := by decide
theorem two_ads : ∀ p ∈ twoNd.ps, p.ads.length ≤ 1000000 := by decide
theorem four_v (W : World) : NdV W (.agg (nc 4 zAs).toArray) fourNd := ⟨zAs, rfl, ptsv_zero W⟩
set_option maxHeartbeats 8000000 in
theorem nknown_any (w : World) : Calls Try.prog 10 #[] w (Yes w) := by
  have hU := Lib.hid (fun W v sp (h : SlB W v (List.replicate 256 0) sp) => Unpack_any v (List.replicate 256 0) sp W h (by simp))
  unfold UnP at hU
  rw [unE_zero, unNd_zero] at hU
  have hS := Lib.hid (fun W => Set_any _ oneNd 4 _ zeroPt W (oneNd_v W) zero_ads (ptv_zero W) (by simp [zeroPt]))
  unfold SetP at hS
  rw [show setE oneNd 4 zeroPt = 2 by rw [setE, set_four]; rfl, show setNd oneNd 4 zeroPt = zeroNd by rw [setNd, set_four]; rfl] at hS
  have hC4 := Lib.hid (fun W => nodeCheck_any _ fourNd W (four_v W) zero_ads)
  rw [four_chk] at hC4
  have hC2 := Lib.hid (fun W x (h : NdV W x twoNd) => nodeCheck_any x twoNd W h two_ads)
  rw [two_chk] at hC2
  have hE2 := Lib.hid (fun W x (h : NdV W x twoNd) => nodeEmpty_any x twoNd W h two_ads)
  rw [two_empty] at hE2
  have hB0 : NB (w.alloc (.cells (nc 2 zAs).toArray 51)) w.heap.size 2 zAs := NB.new w 2 zAs_len zAs_rows
  have f0 : Frm [] w (w.alloc (.cells (nc 2 zAs).toArray 51)) := (Frm.refl [] w).alloc _
  go_enter Try.func10, Try.ntmps10
  go_upto_region 2 with (first
    | ((with_reducible (show wpList _ _ _ (Oper.mk _ (Op.build 51 _) _ _ _ _ :: _) _ _)); refine wpList_val rfl (exec_bld51 (.const (.int .i64 2)) rfl rfl _) ?_)
    | ((with_reducible (show wpList _ _ _ (Oper.mk _ (Op.alloc 51) _ _ _ _ :: _) _ _)); refine wpList_lay51 rfl rfl rfl (.tmp 1) (.tmp 6) rfl zAs_len zAs_rows rfl rfl ?_))
  generalize w.alloc (.cells (nc 2 zAs).toArray 51) = W at *
  generalize hgg : w.heap.size = g at *
  have HGG := Lib.hid hgg
  clear hgg
  have B0 := Lib.hid hB0
  have F0 := Lib.hid f0
  clear hB0 f0
  have oA : OwnA 46 (W.alloc (.cells #[.int .i64 0, .int .i64 5] 46)) (.slice (some ⟨W.heap.size, 0, none⟩) 1 1) [(0, 5)] [] := OwnA.of_heap (by rw [heap_alloc_new]; rfl) rfl rfl (by simp [maxLen])
  have fA : Frm [] W (W.alloc (.cells #[.int .i64 0, .int .i64 5] 46)) := (Frm.refl [] W).alloc _
  have hgl := B0.out.lt
  have TH := Lib.hid ((B0.out.keep0 fA).there (i := 0) (by omega))
  have hsz : (pc (.slice (some ⟨W.heap.size, 0, none⟩) 1 1) 1 0 zs).toArray.size = 35 := by rw [pc_size]; rfl
  have HSZ := Lib.hid hsz
  have hNB := (B0.out.keep0 fA).set (i := 0) (by omega) (pc (.slice (some ⟨W.heap.size, 0, none⟩) 1 1) 1 0 zs).toArray hsz (pc_one _ _ _)
  have fs : Frm [g] (W.alloc (.cells #[.int .i64 0, .int .i64 5] 46)) ((W.alloc (.cells #[.int .i64 0, .int .i64 5] 46)).setCells g (1 + 0 * 35) (pc (.slice (some ⟨W.heap.size, 0, none⟩) 1 1) 1 0 zs).toArray.toList) := Frm.setCells _ _ _ (Frm.refl _ _) (.inl (by simp))
  have hP5 : PtV (W.alloc (.cells #[.int .i64 0, .int .i64 5] 46)) (.agg (pc (.slice (some ⟨W.heap.size, 0, none⟩) 1 1) 1 0 zs).toArray) pt5 := oA.ptv zs_len
  have hPS := ((ptsv_zero (W.alloc (.cells #[.int .i64 0, .int .i64 5] 46))).set (i := 0) hP5).keep fs (fun A hA i hi h => by
    rcases List.mem_or_eq_of_mem_set hA with h2 | h2
    · rw [List.eq_of_mem_replicate h2] at hi; simp [zA, ptBlk, pc, blk] at hi
    · subst h2; rw [show ptBlk (.agg (pc (.slice (some ⟨W.heap.size, 0, none⟩) 1 1) 1 0 zs).toArray) = blk (.slice (some ⟨W.heap.size, 0, none⟩) 1 1) from ptBlk_pv _ _ _ _] at hi; simp [blk] at hi h; omega)
  go_upto_region 3 with (first
    | ((with_reducible (show wpList _ _ _ (Oper.mk _ (Op.build 26 _) _ _ _ _ :: _) _ _)); refine wpList_val rfl (exec_bld01 (.tmp 8) (.const (.int .i64 1)) rfl rfl rfl _) ?_)
    | ((with_reducible (show wpList _ _ _ (Oper.mk _ (Op.store 26 _ _) _ _ _ _ :: _) _ _)); refine wpList_store_mid rfl 26 (.tmp 11) (.tmp 9) rfl g 1 (pc (.slice (some ⟨W.heap.size, 0, none⟩) 1 1) 1 0 zs).toArray rfl rfl (by rw [HSZ.out]; exact TH.out) (by rw [i26, HSZ.out]) (pc_one _ _ _) ?_))
  have FV := Lib.hid ((F0.out.trans fA (by simp)).trans fs (fun i hi => .inr (by have := HGG.out; simp at hi; omega)))
  change NB ((W.alloc (.cells #[.int .i64 0, .int .i64 5] 46)).setCells g 1 (pc (.slice (some ⟨W.heap.size, 0, none⟩) 1 1) 1 0 zs).toArray.toList) _ _ _ at hNB
  change PtsV ((W.alloc (.cells #[.int .i64 0, .int .i64 5] 46)).setCells g 1 (pc (.slice (some ⟨W.heap.size, 0, none⟩) 1 1) 1 0 zs).toArray.toList) _ _ at hPS
  change Hid (Frm [] w ((W.alloc (.cells #[.int .i64 0, .int .i64 5] 46)).setCells g 1 (pc (.slice (some ⟨W.heap.size, 0, none⟩) 1 1) 1 0 zs).toArray.toList)) at FV
  clear fs hP5 oA fA TH hsz HSZ B0 F0
  generalize (W.alloc (.cells #[.int .i64 0, .int .i64 5] 46)).setCells g 1 (pc (.slice (some ⟨W.heap.size, 0, none⟩) 1 1) 1 0 zs).toArray.toList = V at *
  generalize (pc (.slice (some ⟨W.heap.size, 0, none⟩) 1 1) 1 0 zs).toArray = A5 at *
  have hv : NdV V (.agg (nc 2 (zAs.set 0 A5)).toArray) twoNd := ⟨_, rfl, hPS⟩
  have HV := Lib.hid hv
  have HNB := Lib.hid hNB
  clear hv hNB hPS
  have fz := Lib.hid (Frm.refl [] V)
  go_upto_region 4 with (first
    | ((with_reducible (show wpList _ _ _ (Oper.mk _ (Op.makeSlice 29 _ _) _ _ _ _ :: _) _ _)); refine wpList_make_g BT (by rfl) 256 (by omega) (.const (.int .i64 256)) (.const (.int .i64 256)) rfl rfl rfl rfl rfl ?_; intro w2 o2 f2)
    | (go_at_call 47; refine (hU.out _ _ _ o2.sl).mono ?_; rintro r w4 ⟨x4, rfl, ⟨As, rfl, hps⟩, f4⟩)
    | ((with_reducible (show wpList _ _ _ (Oper.mk _ (Op.alloc 51) _ _ _ _ :: _) _ _)); refine wpList_lay51 rfl rfl rfl (.tmp 2) (.tmp 15) rfl hps.1 hps.rows rfl rfl ?_))
  have F4 := Lib.hid (f2.trans (f4.alloc (.cells (nc zeroNd.lv As).toArray 51)) (by simp))
  generalize w4.alloc (.cells (nc zeroNd.lv As).toArray 51) = V4 at *
  clear f2 f4 o2 hps
  go_upto_region 5 with (first
    | ((with_reducible (show wpList _ _ _ (Oper.mk _ (Op.build 51 _) _ _ _ _ :: _) _ _)); refine wpList_val rfl (exec_bld51 (.const (.int .i64 1)) rfl rfl _) ?_)
    | ((with_reducible (show wpList _ _ _ (Oper.mk _ (Op.build 26 _) _ _ _ _ :: _) _ _)); refine wpList_val_g (by rfl) (exec_bld0 rfl _) ?_)
    | (go_at_call 43; refine (hS.out _).mono ?_; rintro r w6 ⟨x6, rfl, ⟨Bs, rfl, hps, -⟩, f6⟩)
    | ((with_reducible (show wpList _ _ _ (Oper.mk _ (Op.alloc 51) _ _ _ _ :: _) _ _)); refine wpList_lay51 rfl rfl rfl (.tmp 4) (.tmp 21) rfl hps.1 hps.rows rfl rfl ?_))
  have F6 := Lib.hid (F4.out.trans (f6.alloc (.cells (nc zeroNd.lv Bs).toArray 51)) (by simp))
  generalize w6.alloc (.cells (nc zeroNd.lv Bs).toArray 51) = V6 at *
  clear f6 hps fz
  have fz := Lib.hid (Frm.refl [] V6)
  go_wp2_with (first
    | (go_at_call 35; refine (nawake_any _).mono ?_; rintro r wn ⟨rfl, fn⟩; replace fz := Lib.hid (fz.out.trans fn (by simp)); clear fn)
    | ((with_reducible (show wpList _ _ _ (Oper.mk _ (Op.load 51 _) _ _ _ _ :: _) _ _)); refine wpList_load_g (by rfl) 51 _ rfl _ rfl (HNB.out.keep0 (F6.out.trans fz.out (by simp))).all ?_)
    | ((with_reducible (show wpList _ _ _ (Oper.mk _ (Op.build 51 _) _ _ _ _ :: _) _ _)); refine wpList_val_g (by rfl) (exec_bld51 (.const (.int .i64 4)) rfl rfl _) ?_)
    | (go_at_call 39; (first | with_reducible refine (hC4.out _).mono ?_ | with_reducible refine (hC2.out _ _ (HV.out.keep0 (F6.out.trans fz.out (by simp)))).mono ?_); rintro r wn ⟨rfl, fn⟩; replace fz := Lib.hid (fz.out.trans fn (by simp)); clear fn)
    | (go_at_call 41; refine (hE2.out _ _ (HV.out.keep0 (F6.out.trans fz.out (by simp)))).mono ?_; rintro r wn ⟨rfl, fn⟩; replace fz := Lib.hid (fz.out.trans fn (by simp)); clear fn))
  go_ret
  exact ⟨rfl, FV.out.trans (F6.out.trans fz.out (by simp)) (by simp)⟩
end Go.Proofs.Ytjjcjocomanohaa

namespace Go.Proofs.Ytjjcjocomanohaa
open Go.RowKit
set_option linter.unusedVariables false
set_option linter.unusedSimpArgs false
set_option maxRecDepth 100000

/-- Has a pointer more than twenty addresses? -/
def bigB (n : Nd) : Bool := n.ps.any (fun p => decide (20 < p.ads.length))
theorem big_yes {n : Nd} {i : Nat} {p : Pt} (h : n.ps[i]? = some p) (hs : 20 < p.ads.length) : bigB n = true := by
  unfold bigB
  rw [List.any_eq_true]
  exact ⟨p, List.mem_of_getElem? h, by simpa using hs⟩
theorem big_no {n : Nd} (h : ∀ (j : Nat) (p : Pt), j < 4 → n.ps[j]? = some p → p.ads.length ≤ 20) (h4 : n.ps.length = 4) : bigB n = false := by
  unfold bigB
  rw [List.any_eq_false]
  intro p hp
  obtain ⟨i, hi, rfl⟩ := List.getElem_of_mem hp
  have := h i _ (by omega) (List.getElem?_eq_getElem hi)
  simp
  omega
theorem big_ads {n : Nd} (h : bigB n = false) : ∀ p ∈ n.ps, p.ads.length ≤ 20 := fun p hp => by
  have := List.any_eq_false.1 h p hp
  simpa using this
def BigRel (ps : List Pt) (w0 : World) (cv : Value) (wr : World) : Prop := ∃ k : Nat, k ≤ 4 ∧ cv = .int .i64 k ∧ (∀ (j : Nat) (p : Pt), j < k → ps[j]? = some p → p.ads.length ≤ 20) ∧ Frm [] w0 wr
set_option maxHeartbeats 4000000 in
theorem Big_any (x : Value) (n : Nd) (w : World) (hn : NdV w x n) : Calls Try.prog 34 #[x] w fun e w' => e = .returned (.bool (bigB n)) ∧ Frm [] w w' := by
  obtain ⟨N, rfl, hN, As, hps, hb⟩ := hn.box
  have b0 := hb w
  have f0 : Frm [] w (w.alloc (.cells N 51)) := (Frm.refl [] w).alloc _
  have HPS := Lib.hid hps
  clear hb hn hps
  go_enter Try.func34, Try.ntmps34
  go_upto_region 1 with (fail)
  generalize w.alloc (.cells N 51) = W at *
  have B0 := Lib.hid b0
  have F0 := Lib.hid f0
  clear b0 f0
  go_wp2_with fail
  go_loopw [3] (BigRel n.ps W) (fun cv _ => 4 - (intOf cv).toNat)
  case atStart => exact ⟨0, by omega, rfl, fun j p hj => by omega, Frm.refl _ _⟩
  case round =>
    obtain ⟨k, hk, rfl, hst, f⟩ := hrel
    have HST := Lib.hid hst
    have Fk := Lib.hid f
    clear hst f
    by_cases hlt : k < 4
    · obtain ⟨A, p, hA, hp, hv⟩ := HPS.out.get hlt
      obtain ⟨a, cap, sp, h0, _⟩ := ptv_list hv
      have cc : wr.cell? ⟨w.heap.size, 1 + k * 35, none⟩ = some (.slice a p.ads.length cap) := by
        have h := (B0.out.keep0 Fk.out).2.range hA 0 _ (by simpa using h0)
        simpa using h
      have HP := Lib.hid hp
      clear hA hp hv h0
      by_cases h20 : 20 < p.ads.length
      · have H := Lib.hid (big_yes HP.out h20)
        go_wp2_with fail
        go_ret
        exact ⟨by rw [H.out]; rfl, F0.out.trans Fk.out (by simp)⟩
      · have H20 := Lib.hid (show p.ads.length ≤ 20 by omega)
        have h20' : ¬ (20 : Int) < (p.ads.length : Int) := by omega
        clear h20
        go_wp2_with fail
        go_roundw
        case rel => exact ⟨k + 1, by omega, by go_num, fun j p' hj hp' => by
          rcases Nat.lt_or_ge j k with h | h
          · exact HST.out j p' h hp'
          · obtain rfl : j = k := by omega
            rw [HP.out] at hp'
            cases hp'
            exact H20.out, Fk.out⟩
        case measure => simp [intOf]; omega
    · obtain rfl : k = 4 := by omega
      have H := Lib.hid (big_no (n := n) HST.out HPS.out.2.1)
      go_wp2_with fail
      go_ret
      exact ⟨by rw [H.out]; rfl, F0.out.trans Fk.out (by simp)⟩
def CntRel (w0 : World) (cv : Value) (wr : World) : Prop := ∃ k : Nat, k ≤ 4 ∧ cv = .int .i64 k ∧ Frm [] w0 wr
set_option maxHeartbeats 4000000 in
theorem SameNode_true (x y : Value) (n : Nd) (w : World) (hn : NdV w x n) (hm : NdV w y n) (hl : ∀ p ∈ n.ps, p.ads.length ≤ 1000000) : Calls Try.prog 45 #[x, y] w (Yes w) := by
  obtain ⟨N, rfl, hN, As, hps, hb⟩ := hn.box
  obtain ⟨M, rfl, hM, Bs, hqs, hc⟩ := hm.box
  have b0 : BoxN ((w.alloc (.cells N 51)).alloc (.cells M 51)) w.heap.size (.agg N) n.lv As := (hb w).keep0 ((Frm.refl [] _).alloc _)
  have b1 : BoxN ((w.alloc (.cells N 51)).alloc (.cells M 51)) (w.heap.size + 1) (.agg M) n.lv Bs := by have := hc (w.alloc (.cells N 51)); simpa using this
  have f0 : Frm [] w ((w.alloc (.cells N 51)).alloc (.cells M 51)) := ((Frm.refl [] w).alloc _).alloc _
  have HPS := Lib.hid hps
  have HQS := Lib.hid hqs
  have HL := Lib.hid hl
  clear hb hc hn hm hps hqs hl
  go_enter Try.func45, Try.ntmps45
  go_upto_region 1 with (fail)
  generalize (w.alloc (.cells N 51)).alloc (.cells M 51) = W at *
  have B0 := Lib.hid b0
  have B1 := Lib.hid b1
  have F0 := Lib.hid f0
  have c0 := b0.2.lev
  have c1 := b1.2.lev
  clear b0 b1 f0
  go_wp2_with fail
  go_loopw [5] (CntRel W) (fun cv _ => 4 - (intOf cv).toNat)
  case atStart => exact ⟨0, by omega, rfl, Frm.refl _ _⟩
  case round =>
    obtain ⟨k, hk, rfl, f⟩ := hrel
    have Fk := Lib.hid f
    have d0 := f.cell c0 (by simp)
    have d1 := f.cell c1 (by simp)
    clear f c0 c1
    by_cases hlt : k < 4
    · obtain ⟨A, p, hA, hp, hv⟩ := HPS.out.get hlt
      obtain ⟨B, q, hB, hq, hu⟩ := HQS.out.get hlt
      have hpl := HL.out p (List.mem_of_getElem? hp)
      rw [hp] at hq
      cases hq
      have HM := Lib.hid (fun W (f : Frm [] w W) => SamePointer_any (.agg A) (.agg B) p p W (hv.keep0 f) (hu.keep0 f) hpl)
      rw [same_refl] at HM
      have LA := Lib.hid hA
      have LB := Lib.hid hB
      clear hA hB hp hv hu hpl
      go_upto_region 4 with (fail)
      refine wp_region_held_drew (S := fun z => Frm [] wr z) (by kernel_rfl) ((Frm.refl [] wr).drew) (fun hHeld => ?_)
      refine wpAnyH_take (i := 0) (oi := { dst := some 10, op := Op.move (Operand.tmp 5), type := 3, pos := "nodes.go:8", after := #[], guard := none }) (v := ?_) rfl (by kernel_rfl) (by kernel_rfl) (by kernel_rfl) (fun _ _ _ h => h) (Or.inl ⟨by rfl, ?_⟩) hHeld ?_
      rotate_left
      focus (intro z hSw; clear hSw; go_simp; try with_reducible rfl)
      try simp only [Act.put, List.setIfInBounds_toArray, List.set_cons_zero, List.set_cons_succ]
      refine wpAnyH_take (i := 1) (oi := { dst := some 11, op := Op.fieldAddr 51 (Operand.tmp 2) 1, type := 0, pos := "nodes.go:8", after := #[], guard := none }) (v := ?_) rfl (by kernel_rfl) (by kernel_rfl) (by kernel_rfl) (fun _ _ _ h => h) (Or.inl ⟨by rfl, ?_⟩) hHeld ?_
      rotate_left
      focus (intro z hSw; clear hSw; go_simp; try with_reducible rfl)
      try simp only [Act.put, List.setIfInBounds_toArray, List.set_cons_zero, List.set_cons_succ]
      refine wpAnyH_take (i := 2) (oi := { dst := some 12, op := Op.indexAddr 49 (Operand.tmp 11) (Operand.tmp 10), type := 0, pos := "nodes.go:8", after := #[{ on := 1, ground := Ground.data }, { on := 0, ground := Ground.data }], guard := none }) (v := ?_) rfl (by kernel_rfl) (by kernel_rfl) (by kernel_rfl) (fun _ _ _ h => h) (Or.inl ⟨by rfl, ?_⟩) hHeld ?_
      rotate_left
      focus (intro z hSw; clear hSw; go_simp; try with_reducible rfl)
      try simp only [Act.put, List.setIfInBounds_toArray, List.set_cons_zero, List.set_cons_succ]
      refine wpAnyH_take (i := 3) (oi := { dst := some 13, op := Op.load 26 (Operand.tmp 12), type := 26, pos := "nodes.go:8", after := #[{ on := 2, ground := Ground.data }], guard := none }) rfl (by kernel_rfl) (by kernel_rfl) (by kernel_rfl) (fun _ _ _ h => h) (yieldsIf_ld (by rfl) 26 _ rfl _ rfl (fun z hSw => ((B0.out.keep0 Fk.out).keep0 hSw).2.load LA.out)) hHeld ?_
      try simp only [Act.put, List.setIfInBounds_toArray, List.set_cons_zero, List.set_cons_succ]
      refine wpAnyH_take (i := 4) (oi := { dst := some 14, op := Op.move (Operand.tmp 5), type := 3, pos := "nodes.go:8", after := #[], guard := none }) (v := ?_) rfl (by kernel_rfl) (by kernel_rfl) (by kernel_rfl) (fun _ _ _ h => h) (Or.inl ⟨by rfl, ?_⟩) hHeld ?_
      rotate_left
      focus (intro z hSw; clear hSw; go_simp; try with_reducible rfl)
      try simp only [Act.put, List.setIfInBounds_toArray, List.set_cons_zero, List.set_cons_succ]
      refine wpAnyH_take (i := 5) (oi := { dst := some 15, op := Op.fieldAddr 51 (Operand.tmp 3) 1, type := 0, pos := "nodes.go:8", after := #[], guard := none }) (v := ?_) rfl (by kernel_rfl) (by kernel_rfl) (by kernel_rfl) (fun _ _ _ h => h) (Or.inl ⟨by rfl, ?_⟩) hHeld ?_
      rotate_left
      focus (intro z hSw; clear hSw; go_simp; try with_reducible rfl)
      try simp only [Act.put, List.setIfInBounds_toArray, List.set_cons_zero, List.set_cons_succ]
      refine wpAnyH_take (i := 6) (oi := { dst := some 16, op := Op.indexAddr 49 (Operand.tmp 15) (Operand.tmp 14), type := 0, pos := "nodes.go:8", after := #[{ on := 5, ground := Ground.data }, { on := 4, ground := Ground.data }], guard := none }) (v := ?_) rfl (by kernel_rfl) (by kernel_rfl) (by kernel_rfl) (fun _ _ _ h => h) (Or.inl ⟨by rfl, ?_⟩) hHeld ?_
      rotate_left
      focus (intro z hSw; clear hSw; go_simp; try with_reducible rfl)
      try simp only [Act.put, List.setIfInBounds_toArray, List.set_cons_zero, List.set_cons_succ]
      refine wpAnyH_take (i := 7) (oi := { dst := some 17, op := Op.load 26 (Operand.tmp 16), type := 26, pos := "nodes.go:8", after := #[{ on := 6, ground := Ground.data }], guard := none }) rfl (by kernel_rfl) (by kernel_rfl) (by kernel_rfl) (fun _ _ _ h => h) (yieldsIf_ld (by rfl) 26 _ rfl _ rfl (fun z hSw => ((B1.out.keep0 Fk.out).keep0 hSw).2.load LB.out)) hHeld ?_
      try simp only [Act.put, List.setIfInBounds_toArray, List.set_cons_zero, List.set_cons_succ]
      refine wpAnyH_ready (rs := [8]) (by kernel_rfl) (by simp) ?_
      refine AllReadyH.cons (o := { dst := some 18, op := Op.call { callee := Callee.value (Operand.func 27), args := #[Operand.tmp 13, Operand.tmp 17], argTypes := #[26, 26] }, type := 4, pos := "nodes.go:8", after := #[{ on := 3, ground := Ground.data }, { on := 7, ground := Ground.data }], guard := none }) rfl (fun K hK => ?_) AllReadyH.nil
      go_simp
      refine (HM.out _ ((F0.out.trans Fk.out (by simp)).trans hHeld (by simp))).mono ?_
      rintro r wn ⟨rfl, fn⟩
      refine hK.out _ _ ?_ (fun hNext => ?_)
      · exact hHeld.trans fn (by simp)
      clear hK K hHeld
      have hHeld := hNext
      clear hNext
      try simp only [Act.put, List.setIfInBounds_toArray, List.set_cons_zero, List.set_cons_succ]
      refine wpAnyH_take (i := 9) (oi := { dst := some 19, op := Op.unOp UnOp.not 4 (Operand.tmp 18), type := 4, pos := "nodes.go:8", after := #[{ on := 8, ground := Ground.data }], guard := none }) (v := ?_) rfl (by kernel_rfl) (by kernel_rfl) (by kernel_rfl) (fun _ _ _ h => h) (Or.inl ⟨by rfl, ?_⟩) hHeld ?_
      rotate_left
      focus (intro z hSw; clear hSw; go_simp; try with_reducible rfl)
      try simp only [Act.put, List.setIfInBounds_toArray, List.set_cons_zero, List.set_cons_succ]
      refine wpAnyH_done (by kernel_rfl) ?_ _
      go_wp2_with fail
      go_roundw
      case rel => exact ⟨k + 1, by omega, by go_num, Fk.out.trans hHeld (by simp)⟩
      case measure => simp [intOf]; omega
    · obtain rfl : k = 4 := by omega
      go_wp2_with fail
      go_ret
      exact ⟨rfl, F0.out.trans Fk.out (by simp)⟩
end Go.Proofs.Ytjjcjocomanohaa

namespace Go.Proofs.Ytjjcjocomanohaa
set_option linter.unusedVariables false
set_option linter.unusedSimpArgs false
set_option maxRecDepth 100000

theorem flat_chunk : ∀ {ps : List Pt} (k : Nat) {p : Pt} (r : List UInt8), (∀ q ∈ ps, (enc q).length = 47) → ps[k]? = some p → ((ps.flatMap enc ++ r).drop (k * 47)).take 47 = enc p
  | [], k, p, r, h, hp => by simp at hp
  | q :: t, 0, p, r, h, hp => by
    simp only [List.getElem?_cons_zero, Option.some.injEq] at hp
    subst hp
    simp only [List.flatMap_cons, Nat.zero_mul, List.drop_zero, List.append_assoc]
    exact List.take_left' (h q (by simp))
  | q :: t, k + 1, p, r, h, hp => by
    simp only [List.getElem?_cons_succ] at hp
    have ih := flat_chunk k r (fun x hx => h x (by simp [hx])) hp
    simp only [List.flatMap_cons, List.append_assoc]
    rw [show (k + 1) * 47 = 47 + k * 47 by omega, ← List.drop_drop, List.drop_left' (h q (by simp))]
    exact ih
/-- What is packed is unpacked. -/
theorem pack_good {n : Nd} (hb : nodeB n = true) (h4 : n.ps.length = 4) (hs : ∀ p ∈ n.ps, p.s.length = 32) : goodN (secB n) = true ∧ ndOf (secB n) = n := by
  obtain ⟨n1, n3, hst⟩ := nodeB_parts hb
  have henc : ∀ p ∈ n.ps, (enc p).length = 47 := fun p hp => enc_len (stand_may (hst p hp)) (hs p hp)
  have hlen : (secB n).length = 256 := by rw [← secK_four h4]; exact secK_length henc h4 4 (by omega)
  have hch : ∀ k, k < 4 → ∀ p, n.ps[k]? = some p → chunk (secB n) k = enc p := fun k hk p hp => by
    unfold chunk secB
    rw [show 1 + k * 47 = k * 47 + 1 by omega, List.drop_succ_cons]
    exact flat_chunk k _ henc hp
  have hnd : ndOf (secB n) = n := by
    obtain ⟨lv, ps⟩ := n
    unfold ndOf
    congr 1
    · simp only [secB, List.headD_cons]
      have : lv = 1 ∨ lv = 2 ∨ lv = 3 := by simp only at n1 n3; omega
      rcases this with e | e | e <;> rw [e] <;> rfl
    · refine List.ext_getElem (by simpa using h4.symm) fun j h1 h2 => ?_
      have hj : j < 4 := by simpa using h1
      simp only [List.getElem_map, List.getElem_range]
      have hp : ps[j]? = some ps[j] := List.getElem?_eq_getElem h2
      rw [hch j hj _ hp]
      exact (read_enc (stand_may (hst _ (List.getElem_mem h2))) (hs _ (List.getElem_mem h2))).2.2
  refine ⟨?_, hnd⟩
  have hok : okB (secB n) = true := okB_yes (fun j hj => by
    have hp : n.ps[j]? = some n.ps[j] := List.getElem?_eq_getElem (by omega)
    rw [hch j hj _ hp]
    exact (read_enc (stand_may (hst _ (List.getElem_mem (by omega)))) (hs _ (List.getElem_mem (by omega)))).1)
  unfold goodN
  rw [hnd, hok, hb, hlen]
  simp
/-- What is unpacked is packed. -/
theorem unpack_cases (S : List UInt8) : (unE S = 0 ∧ nchk (unNd S) = 0 ∧ packB (unNd S) = S) ∨ (unE S ≠ 0 ∧ unNd S = zeroNd) := by
  cases hg : goodN S with
  | true =>
    have h := hg
    simp only [goodN, Bool.and_eq_true, beq_iff_eq] at h
    obtain ⟨h1, h2, h3, h4⟩ := h
    exact .inl ⟨by simp [unE, hg], by simp [unNd, hg, nchk, h3], by simp [unNd, hg, packB, h3, h4]⟩
  | false =>
    refine .inr ⟨?_, by simp [unNd, hg]⟩
    simp only [unE, hg, Bool.false_eq_true, if_false]
    split <;> decide
theorem unNd_ads (S : List UInt8) : ∀ p ∈ (unNd S).ps, p.ads.length ≤ 1000000 := by
  unfold unNd
  split
  · exact ndOf_ads S
  · exact zero_ads
end Go.Proofs.Ytjjcjocomanohaa

namespace Go.Proofs.Ytjjcjocomanohaa
open Go.RowKit
set_option linter.unusedVariables false
set_option linter.unusedSimpArgs false
set_option maxRecDepth 100000

theorem ptv_level {w : World} {A : Array Value} {p : Pt} (h0 : PtV w (.agg A) p) : A[2]? = some (.int .i64 p.l) := by
  obtain ⟨a0, cap0, sp0, e, h2, h3⟩ := h0
  have e' : A = (pc (.slice a0 p.ads.length cap0) p.b p.l p.s).toArray := by simpa [pv] using e
  subst e'
  rfl
set_option maxHeartbeats 8000000 in
theorem RefNodeCheck_any (x : Value) (n : Nd) (w : World) (hn : NdV w x n) (hl : ∀ p ∈ n.ps, p.ads.length ≤ 1000000) :
    Calls Try.prog 40 #[x] w fun e w' => e = .returned (.int .i64 (nchk n)) ∧ Frm [] w w' := by
  obtain ⟨N, rfl, hN, As, hps, hb⟩ := hn.box
  have b0 := hb w
  have f0 : Frm [] w (w.alloc (.cells N 51)) := (Frm.refl [] w).alloc _
  have HPS := Lib.hid hps
  have HL := Lib.hid hl
  clear hb hn hl hps
  go_enter Try.func40, Try.ntmps40
  go_upto_region 1 with (fail)
  generalize w.alloc (.cells N 51) = W at *
  have B0 := Lib.hid b0
  have F0 := Lib.hid f0
  have c0 := b0.2.lev
  clear b0 f0
  obtain ⟨lv, hlv⟩ : ∃ lv, lv = n.lv := ⟨_, rfl⟩
  rw [← hlv] at c0
  have HLV := Lib.hid hlv
  clear hlv
  by_cases h1 : 1 ≤ lv ∧ lv ≤ 3
  · go_upto_region 3 with (fail)
    go_wp2_with fail
    go_loopw [3] (StandRel n.ps lv W) (fun cv _ => 4 - (intOf cv).toNat)
    case atStart => exact ⟨0, by omega, rfl, fun j p hj => by omega, Frm.refl _ _⟩
    case round =>
      obtain ⟨k, hk, rfl, hst, f⟩ := hrel
      have HST := Lib.hid hst
      have Fk := Lib.hid f
      have CK := Lib.hid (f.cell c0 (by simp))
      clear hst f c0
      by_cases hlt : k < 4
      · obtain ⟨A, p, hA, hp, hv⟩ := HPS.out.get hlt
        have hpl := HL.out p (List.mem_of_getElem? hp)
        have HA := Lib.hid hA
        have HC := Lib.hid (fun W (f : Frm [] w W) => RefCheck_any (.agg A) p W (hv.keep0 f) hpl)
        have HH := Lib.hid (fun W (f : Frm [] w W) => RefHole_any (.agg A) p W (hv.keep0 f))
        have CP := Lib.hid (fun W' (f : Frm [] wr W') => show W'.cell? ⟨w.heap.size, 1 + k * 35 + 2, none⟩ = some (.int .i64 p.l) from by
          have h := ((B0.out.keep0 Fk.out).keep0 f).2.range hA 2 _ (by simpa using ptv_level hv)
          exact h)
        have HP := Lib.hid hp
        have FF := Lib.hid (F0.out.trans Fk.out (by simp))
        have hw1 : IntKind.i64.wrap (lv - 1) = lv - 1 := IntWalk.i64_in _ (by omega)
        have HSB := Lib.hid (show standB p lv = (hole p || (decide (chk p = 0) && p.l == lv - 1)) from rfl)
        have hcc : chk p = 0 ∨ chk p = 2 := by rcases chk_cases p with ⟨_, e, _⟩ | ⟨_, e, _⟩; exact .inl e; exact .inr e
        have hhc : hole p = true → chk p = 0 := fun h => by simp [chk, (mayB_iff p).2 (.inl h)]
        have HNO := Lib.hid (fun (h : standB p lv = false) => nchk_no HP.out (by rw [← HLV.out]; exact h))
        have HREL := Lib.hid (fun (h : standB p lv = true) => show ∀ (j : Nat) (p' : Pt), j < k + 1 → n.ps[j]? = some p' → standB p' lv = true from fun j p' hj hp' => by
          rcases Nat.lt_or_ge j k with h' | h'
          · exact HST.out j p' h' hp'
          · obtain rfl : j = k := by omega
            rw [HP.out] at hp'
            cases hp'
            exact h)
        clear hA hp hv hpl
        generalize p.l = pl at *
        generalize chk p = ck at *
        generalize hole p = hh at *
        go_upto_region 6 with (fail)
        rcases hcc with rfl | rfl
        · cases hh with
          | true =>
            clear hhc
            refine wp_region_held_drew (S := fun z => Frm [] wr z) (by kernel_rfl) ((Frm.refl [] wr).drew) (fun hHeld => ?_)
            refine wpAnyH_take (i := 0) (oi := { dst := some 16, op := Op.move (Operand.tmp 3), type := 3, pos := "ref.go:15", after := #[], guard := none }) (v := ?_) rfl (by kernel_rfl) (by kernel_rfl) (by kernel_rfl) (fun _ _ _ h => h) (Or.inl ⟨by rfl, ?_⟩) hHeld ?_
            rotate_left
            focus (intro z hSw; clear hSw; go_simp; try with_reducible rfl)
            try simp only [Act.put, List.setIfInBounds_toArray, List.set_cons_zero, List.set_cons_succ]
            refine wpAnyH_take (i := 1) (oi := { dst := some 17, op := Op.fieldAddr 51 (Operand.tmp 1) 1, type := 0, pos := "ref.go:15", after := #[], guard := none }) (v := ?_) rfl (by kernel_rfl) (by kernel_rfl) (by kernel_rfl) (fun _ _ _ h => h) (Or.inl ⟨by rfl, ?_⟩) hHeld ?_
            rotate_left
            focus (intro z hSw; clear hSw; go_simp; try with_reducible rfl)
            try simp only [Act.put, List.setIfInBounds_toArray, List.set_cons_zero, List.set_cons_succ]
            refine wpAnyH_take (i := 2) (oi := { dst := some 18, op := Op.indexAddr 49 (Operand.tmp 17) (Operand.tmp 16), type := 0, pos := "ref.go:15", after := #[{ on := 1, ground := Ground.data }, { on := 0, ground := Ground.data }], guard := none }) (v := ?_) rfl (by kernel_rfl) (by kernel_rfl) (by kernel_rfl) (fun _ _ _ h => h) (Or.inl ⟨by rfl, ?_⟩) hHeld ?_
            rotate_left
            focus (intro z hSw; clear hSw; go_simp; try with_reducible rfl)
            try simp only [Act.put, List.setIfInBounds_toArray, List.set_cons_zero, List.set_cons_succ]
            refine wpAnyH_take (i := 3) (oi := { dst := some 19, op := Op.load 26 (Operand.tmp 18), type := 26, pos := "ref.go:15", after := #[{ on := 2, ground := Ground.data }], guard := none }) rfl (by kernel_rfl) (by kernel_rfl) (by kernel_rfl) (fun _ _ _ h => h) (yieldsIf_ld (by rfl) 26 _ rfl _ rfl (fun z hSw => ((B0.out.keep0 Fk.out).keep0 hSw).2.load HA.out)) hHeld ?_
            try simp only [Act.put, List.setIfInBounds_toArray, List.set_cons_zero, List.set_cons_succ]
            refine wpAnyH_ready (rs := [4]) (by kernel_rfl) (by simp) ?_
            refine AllReadyH.cons (o := { dst := some 20, op := Op.call { callee := Callee.value (Operand.func 19), args := #[Operand.tmp 19], argTypes := #[26] }, type := 30, pos := "ref.go:15", after := #[{ on := 3, ground := Ground.data }], guard := none }) rfl (fun K hK => ?_) AllReadyH.nil
            go_simp
            refine (HC.out _ (FF.out.trans hHeld (by simp))).mono ?_
            rintro r wn ⟨rfl, fn⟩
            refine hK.out _ _ ?_ (fun hNext => ?_)
            · exact hHeld.trans fn (by simp)
            clear hK K hHeld
            have hHeld := hNext
            clear hNext
            try simp only [Act.put, List.setIfInBounds_toArray, List.set_cons_zero, List.set_cons_succ]
            refine wpAnyH_take (i := 5) (oi := { dst := some 21, op := Op.binOp BinOp.neq 30 (Operand.tmp 20) (Operand.const (Value.int IntKind.i64 0)) 30, type := 4, pos := "ref.go:15", after := #[{ on := 4, ground := Ground.data }], guard := none }) (v := ?_) rfl (by kernel_rfl) (by kernel_rfl) (by kernel_rfl) (fun _ _ _ h => h) (Or.inl ⟨by rfl, ?_⟩) hHeld ?_
            rotate_left
            focus (intro z hSw; clear hSw; go_simp; try with_reducible rfl)
            try simp only [Act.put, List.setIfInBounds_toArray, List.set_cons_zero, List.set_cons_succ]
            refine wpAnyH_take (i := 6) (oi := { dst := some 22, op := Op.move (Operand.tmp 21), type := 4, pos := "ref.go:15", after := #[{ on := 5, ground := Ground.data }, { on := 4, ground := Ground.chain }], guard := none }) (v := ?_) rfl (by kernel_rfl) (by kernel_rfl) (by kernel_rfl) (fun _ _ _ h => h) (Or.inl ⟨by rfl, ?_⟩) hHeld ?_
            rotate_left
            focus (intro z hSw; clear hSw; go_simp; try with_reducible rfl)
            try simp only [Act.put, List.setIfInBounds_toArray, List.set_cons_zero, List.set_cons_succ]
            refine wpAnyH_take (i := 7) (oi := { dst := some 23, op := Op.move (Operand.tmp 3), type := 3, pos := "ref.go:15", after := #[{ on := 6, ground := Ground.guard }], guard := some (6, false) }) (v := ?_) rfl (by kernel_rfl) (by kernel_rfl) (by kernel_rfl) (fun _ _ _ h => h) (Or.inl ⟨by rfl, ?_⟩) hHeld ?_
            rotate_left
            focus (intro z hSw; clear hSw; go_simp; try with_reducible rfl)
            try simp only [Act.put, List.setIfInBounds_toArray, List.set_cons_zero, List.set_cons_succ]
            refine wpAnyH_take (i := 8) (oi := { dst := some 24, op := Op.fieldAddr 51 (Operand.tmp 1) 1, type := 0, pos := "ref.go:15", after := #[{ on := 6, ground := Ground.guard }], guard := some (6, false) }) (v := ?_) rfl (by kernel_rfl) (by kernel_rfl) (by kernel_rfl) (fun _ _ _ h => h) (Or.inl ⟨by rfl, ?_⟩) hHeld ?_
            rotate_left
            focus (intro z hSw; clear hSw; go_simp; try with_reducible rfl)
            try simp only [Act.put, List.setIfInBounds_toArray, List.set_cons_zero, List.set_cons_succ]
            refine wpAnyH_take (i := 9) (oi := { dst := some 25, op := Op.indexAddr 49 (Operand.tmp 24) (Operand.tmp 23), type := 0, pos := "ref.go:15", after := #[{ on := 8, ground := Ground.data }, { on := 7, ground := Ground.data }, { on := 6, ground := Ground.guard }], guard := some (6, false) }) (v := ?_) rfl (by kernel_rfl) (by kernel_rfl) (by kernel_rfl) (fun _ _ _ h => h) (Or.inl ⟨by rfl, ?_⟩) hHeld ?_
            rotate_left
            focus (intro z hSw; clear hSw; go_simp; try with_reducible rfl)
            try simp only [Act.put, List.setIfInBounds_toArray, List.set_cons_zero, List.set_cons_succ]
            refine wpAnyH_take (i := 10) (oi := { dst := some 26, op := Op.load 26 (Operand.tmp 25), type := 26, pos := "ref.go:15", after := #[{ on := 9, ground := Ground.data }, { on := 6, ground := Ground.guard }], guard := some (6, false) }) rfl (by kernel_rfl) (by kernel_rfl) (by kernel_rfl) (fun _ _ _ h => h) (yieldsIf_ld (by rfl) 26 _ rfl _ rfl (fun z hSw => ((B0.out.keep0 Fk.out).keep0 hSw).2.load HA.out)) hHeld ?_
            try simp only [Act.put, List.setIfInBounds_toArray, List.set_cons_zero, List.set_cons_succ]
            refine wpAnyH_ready (rs := [11]) (by kernel_rfl) (by simp) ?_
            refine AllReadyH.cons (o := { dst := some 27, op := Op.call { callee := Callee.value (Operand.func 21), args := #[Operand.tmp 26], argTypes := #[26] }, type := 4, pos := "ref.go:15", after := #[{ on := 10, ground := Ground.data }, { on := 6, ground := Ground.chain }, { on := 6, ground := Ground.guard }], guard := some (6, false) }) rfl (fun K hK => ?_) AllReadyH.nil
            go_simp
            refine (HH.out _ (FF.out.trans hHeld (by simp))).mono ?_
            rintro r wn ⟨rfl, fn⟩
            refine hK.out _ _ ?_ (fun hNext => ?_)
            · exact hHeld.trans fn (by simp)
            clear hK K hHeld
            have hHeld := hNext
            clear hNext
            try simp only [Act.put, List.setIfInBounds_toArray, List.set_cons_zero, List.set_cons_succ]
            refine wpAnyH_take (i := 12) (oi := { dst := some 28, op := Op.unOp UnOp.not 4 (Operand.tmp 27), type := 4, pos := "ref.go:15", after := #[{ on := 11, ground := Ground.data }, { on := 6, ground := Ground.guard }], guard := some (6, false) }) (v := ?_) rfl (by kernel_rfl) (by kernel_rfl) (by kernel_rfl) (fun _ _ _ h => h) (Or.inl ⟨by rfl, ?_⟩) hHeld ?_
            rotate_left
            focus (intro z hSw; clear hSw; go_simp; try with_reducible rfl)
            try simp only [Act.put, List.setIfInBounds_toArray, List.set_cons_zero, List.set_cons_succ]
            refine wpAnyH_take (i := 13) (oi := { dst := some 29, op := Op.move (Operand.tmp 28), type := 4, pos := "ref.go:15", after := #[{ on := 12, ground := Ground.data }, { on := 11, ground := Ground.chain }, { on := 6, ground := Ground.guard }], guard := some (6, false) }) (v := ?_) rfl (by kernel_rfl) (by kernel_rfl) (by kernel_rfl) (fun _ _ _ h => h) (Or.inl ⟨by rfl, ?_⟩) hHeld ?_
            rotate_left
            focus (intro z hSw; clear hSw; go_simp; try with_reducible rfl)
            try simp only [Act.put, List.setIfInBounds_toArray, List.set_cons_zero, List.set_cons_succ]
            refine wpAnyH_take (i := 14) (oi := { dst := some 30, op := Op.move (Operand.tmp 3), type := 3, pos := "ref.go:15", after := #[{ on := 13, ground := Ground.guard }], guard := some (13, true) }) (v := undef) rfl (by kernel_rfl) (by kernel_rfl) (by kernel_rfl) (fun _ _ _ h => h) (Or.inr ⟨by rfl, rfl⟩) hHeld ?_
            try simp only [Act.put, List.setIfInBounds_toArray, List.set_cons_zero, List.set_cons_succ]
            refine wpAnyH_take (i := 15) (oi := { dst := some 31, op := Op.fieldAddr 51 (Operand.tmp 1) 1, type := 0, pos := "ref.go:15", after := #[{ on := 13, ground := Ground.guard }], guard := some (13, true) }) (v := undef) rfl (by kernel_rfl) (by kernel_rfl) (by kernel_rfl) (fun _ _ _ h => h) (Or.inr ⟨by rfl, rfl⟩) hHeld ?_
            try simp only [Act.put, List.setIfInBounds_toArray, List.set_cons_zero, List.set_cons_succ]
            refine wpAnyH_take (i := 16) (oi := { dst := some 32, op := Op.indexAddr 49 (Operand.tmp 31) (Operand.tmp 30), type := 0, pos := "ref.go:15", after := #[{ on := 15, ground := Ground.data }, { on := 14, ground := Ground.data }, { on := 13, ground := Ground.guard }], guard := some (13, true) }) (v := undef) rfl (by kernel_rfl) (by kernel_rfl) (by kernel_rfl) (fun _ _ _ h => h) (Or.inr ⟨by rfl, rfl⟩) hHeld ?_
            try simp only [Act.put, List.setIfInBounds_toArray, List.set_cons_zero, List.set_cons_succ]
            refine wpAnyH_take (i := 17) (oi := { dst := some 33, op := Op.fieldAddr 26 (Operand.tmp 32) 2, type := 0, pos := "ref.go:15", after := #[{ on := 16, ground := Ground.data }, { on := 13, ground := Ground.guard }], guard := some (13, true) }) (v := undef) rfl (by kernel_rfl) (by kernel_rfl) (by kernel_rfl) (fun _ _ _ h => h) (Or.inr ⟨by rfl, rfl⟩) hHeld ?_
            try simp only [Act.put, List.setIfInBounds_toArray, List.set_cons_zero, List.set_cons_succ]
            refine wpAnyH_take (i := 18) (oi := { dst := some 34, op := Op.load 3 (Operand.tmp 33), type := 3, pos := "ref.go:15", after := #[{ on := 17, ground := Ground.data }, { on := 13, ground := Ground.guard }], guard := some (13, true) }) (v := undef) rfl (by kernel_rfl) (by kernel_rfl) (by kernel_rfl) (fun _ _ _ h => h) (Or.inr ⟨by rfl, rfl⟩) hHeld ?_
            try simp only [Act.put, List.setIfInBounds_toArray, List.set_cons_zero, List.set_cons_succ]
            refine wpAnyH_take (i := 19) (oi := { dst := some 35, op := Op.fieldAddr 51 (Operand.tmp 1) 0, type := 0, pos := "ref.go:15", after := #[{ on := 13, ground := Ground.guard }], guard := some (13, true) }) (v := undef) rfl (by kernel_rfl) (by kernel_rfl) (by kernel_rfl) (fun _ _ _ h => h) (Or.inr ⟨by rfl, rfl⟩) hHeld ?_
            try simp only [Act.put, List.setIfInBounds_toArray, List.set_cons_zero, List.set_cons_succ]
            refine wpAnyH_take (i := 20) (oi := { dst := some 36, op := Op.load 3 (Operand.tmp 35), type := 3, pos := "ref.go:15", after := #[{ on := 19, ground := Ground.data }, { on := 13, ground := Ground.guard }], guard := some (13, true) }) (v := undef) rfl (by kernel_rfl) (by kernel_rfl) (by kernel_rfl) (fun _ _ _ h => h) (Or.inr ⟨by rfl, rfl⟩) hHeld ?_
            try simp only [Act.put, List.setIfInBounds_toArray, List.set_cons_zero, List.set_cons_succ]
            refine wpAnyH_take (i := 21) (oi := { dst := some 37, op := Op.binOp BinOp.sub 3 (Operand.tmp 36) (Operand.const (Value.int IntKind.i64 1)) 3, type := 3, pos := "ref.go:15", after := #[{ on := 20, ground := Ground.data }, { on := 13, ground := Ground.guard }], guard := some (13, true) }) (v := undef) rfl (by kernel_rfl) (by kernel_rfl) (by kernel_rfl) (fun _ _ _ h => h) (Or.inr ⟨by rfl, rfl⟩) hHeld ?_
            try simp only [Act.put, List.setIfInBounds_toArray, List.set_cons_zero, List.set_cons_succ]
            refine wpAnyH_take (i := 22) (oi := { dst := some 38, op := Op.binOp BinOp.neq 3 (Operand.tmp 34) (Operand.tmp 37) 3, type := 4, pos := "ref.go:15", after := #[{ on := 18, ground := Ground.data }, { on := 21, ground := Ground.data }, { on := 13, ground := Ground.guard }], guard := some (13, true) }) (v := undef) rfl (by kernel_rfl) (by kernel_rfl) (by kernel_rfl) (fun _ _ _ h => h) (Or.inr ⟨by rfl, rfl⟩) hHeld ?_
            try simp only [Act.put, List.setIfInBounds_toArray, List.set_cons_zero, List.set_cons_succ]
            refine wpAnyH_take (i := 23) (oi := { dst := some 39, op := Op.pick (Operand.tmp 29) (Operand.tmp 38) (Operand.const (Value.bool false)), type := 4, pos := "ref.go:15", after := #[{ on := 13, ground := Ground.data }, { on := 22, ground := Ground.data }, { on := 6, ground := Ground.guard }], guard := some (6, false) }) (v := ?_) rfl (by kernel_rfl) (by kernel_rfl) (by kernel_rfl) (fun _ _ _ h => h) (Or.inl ⟨by rfl, ?_⟩) hHeld ?_
            rotate_left
            focus (intro z hSw; clear hSw; go_simp; try with_reducible rfl)
            try simp only [Act.put, List.setIfInBounds_toArray, List.set_cons_zero, List.set_cons_succ]
            refine wpAnyH_take (i := 24) (oi := { dst := some 40, op := Op.pick (Operand.tmp 22) (Operand.const (Value.bool true)) (Operand.tmp 39), type := 4, pos := "ref.go:15", after := #[{ on := 6, ground := Ground.data }, { on := 23, ground := Ground.data }], guard := none }) (v := ?_) rfl (by kernel_rfl) (by kernel_rfl) (by kernel_rfl) (fun _ _ _ h => h) (Or.inl ⟨by rfl, ?_⟩) hHeld ?_
            rotate_left
            focus (intro z hSw; clear hSw; go_simp; try with_reducible rfl)
            try simp only [Act.put, List.setIfInBounds_toArray, List.set_cons_zero, List.set_cons_succ]
            refine wpAnyH_done (by kernel_rfl) ?_ _
            have H := Lib.hid (HREL.out (by rw [HSB.out]; rfl))
            go_wp2_with fail
            go_roundw
            case rel => exact ⟨k + 1, by omega, by go_num, H.out, Fk.out.trans hHeld (by simp)⟩
            case measure => simp [intOf]; omega
          | false =>
            clear hhc
            refine wp_region_held_drew (S := fun z => Frm [] wr z) (by kernel_rfl) ((Frm.refl [] wr).drew) (fun hHeld => ?_)
            refine wpAnyH_take (i := 0) (oi := { dst := some 16, op := Op.move (Operand.tmp 3), type := 3, pos := "ref.go:15", after := #[], guard := none }) (v := ?_) rfl (by kernel_rfl) (by kernel_rfl) (by kernel_rfl) (fun _ _ _ h => h) (Or.inl ⟨by rfl, ?_⟩) hHeld ?_
            rotate_left
            focus (intro z hSw; clear hSw; go_simp; try with_reducible rfl)
            try simp only [Act.put, List.setIfInBounds_toArray, List.set_cons_zero, List.set_cons_succ]
            refine wpAnyH_take (i := 1) (oi := { dst := some 17, op := Op.fieldAddr 51 (Operand.tmp 1) 1, type := 0, pos := "ref.go:15", after := #[], guard := none }) (v := ?_) rfl (by kernel_rfl) (by kernel_rfl) (by kernel_rfl) (fun _ _ _ h => h) (Or.inl ⟨by rfl, ?_⟩) hHeld ?_
            rotate_left
            focus (intro z hSw; clear hSw; go_simp; try with_reducible rfl)
            try simp only [Act.put, List.setIfInBounds_toArray, List.set_cons_zero, List.set_cons_succ]
            refine wpAnyH_take (i := 2) (oi := { dst := some 18, op := Op.indexAddr 49 (Operand.tmp 17) (Operand.tmp 16), type := 0, pos := "ref.go:15", after := #[{ on := 1, ground := Ground.data }, { on := 0, ground := Ground.data }], guard := none }) (v := ?_) rfl (by kernel_rfl) (by kernel_rfl) (by kernel_rfl) (fun _ _ _ h => h) (Or.inl ⟨by rfl, ?_⟩) hHeld ?_
            rotate_left
            focus (intro z hSw; clear hSw; go_simp; try with_reducible rfl)
            try simp only [Act.put, List.setIfInBounds_toArray, List.set_cons_zero, List.set_cons_succ]
            refine wpAnyH_take (i := 3) (oi := { dst := some 19, op := Op.load 26 (Operand.tmp 18), type := 26, pos := "ref.go:15", after := #[{ on := 2, ground := Ground.data }], guard := none }) rfl (by kernel_rfl) (by kernel_rfl) (by kernel_rfl) (fun _ _ _ h => h) (yieldsIf_ld (by rfl) 26 _ rfl _ rfl (fun z hSw => ((B0.out.keep0 Fk.out).keep0 hSw).2.load HA.out)) hHeld ?_
            try simp only [Act.put, List.setIfInBounds_toArray, List.set_cons_zero, List.set_cons_succ]
            refine wpAnyH_ready (rs := [4]) (by kernel_rfl) (by simp) ?_
            refine AllReadyH.cons (o := { dst := some 20, op := Op.call { callee := Callee.value (Operand.func 19), args := #[Operand.tmp 19], argTypes := #[26] }, type := 30, pos := "ref.go:15", after := #[{ on := 3, ground := Ground.data }], guard := none }) rfl (fun K hK => ?_) AllReadyH.nil
            go_simp
            refine (HC.out _ (FF.out.trans hHeld (by simp))).mono ?_
            rintro r wn ⟨rfl, fn⟩
            refine hK.out _ _ ?_ (fun hNext => ?_)
            · exact hHeld.trans fn (by simp)
            clear hK K hHeld
            have hHeld := hNext
            clear hNext
            try simp only [Act.put, List.setIfInBounds_toArray, List.set_cons_zero, List.set_cons_succ]
            refine wpAnyH_take (i := 5) (oi := { dst := some 21, op := Op.binOp BinOp.neq 30 (Operand.tmp 20) (Operand.const (Value.int IntKind.i64 0)) 30, type := 4, pos := "ref.go:15", after := #[{ on := 4, ground := Ground.data }], guard := none }) (v := ?_) rfl (by kernel_rfl) (by kernel_rfl) (by kernel_rfl) (fun _ _ _ h => h) (Or.inl ⟨by rfl, ?_⟩) hHeld ?_
            rotate_left
            focus (intro z hSw; clear hSw; go_simp; try with_reducible rfl)
            try simp only [Act.put, List.setIfInBounds_toArray, List.set_cons_zero, List.set_cons_succ]
            refine wpAnyH_take (i := 6) (oi := { dst := some 22, op := Op.move (Operand.tmp 21), type := 4, pos := "ref.go:15", after := #[{ on := 5, ground := Ground.data }, { on := 4, ground := Ground.chain }], guard := none }) (v := ?_) rfl (by kernel_rfl) (by kernel_rfl) (by kernel_rfl) (fun _ _ _ h => h) (Or.inl ⟨by rfl, ?_⟩) hHeld ?_
            rotate_left
            focus (intro z hSw; clear hSw; go_simp; try with_reducible rfl)
            try simp only [Act.put, List.setIfInBounds_toArray, List.set_cons_zero, List.set_cons_succ]
            refine wpAnyH_take (i := 7) (oi := { dst := some 23, op := Op.move (Operand.tmp 3), type := 3, pos := "ref.go:15", after := #[{ on := 6, ground := Ground.guard }], guard := some (6, false) }) (v := ?_) rfl (by kernel_rfl) (by kernel_rfl) (by kernel_rfl) (fun _ _ _ h => h) (Or.inl ⟨by rfl, ?_⟩) hHeld ?_
            rotate_left
            focus (intro z hSw; clear hSw; go_simp; try with_reducible rfl)
            try simp only [Act.put, List.setIfInBounds_toArray, List.set_cons_zero, List.set_cons_succ]
            refine wpAnyH_take (i := 8) (oi := { dst := some 24, op := Op.fieldAddr 51 (Operand.tmp 1) 1, type := 0, pos := "ref.go:15", after := #[{ on := 6, ground := Ground.guard }], guard := some (6, false) }) (v := ?_) rfl (by kernel_rfl) (by kernel_rfl) (by kernel_rfl) (fun _ _ _ h => h) (Or.inl ⟨by rfl, ?_⟩) hHeld ?_
            rotate_left
            focus (intro z hSw; clear hSw; go_simp; try with_reducible rfl)
            try simp only [Act.put, List.setIfInBounds_toArray, List.set_cons_zero, List.set_cons_succ]
            refine wpAnyH_take (i := 9) (oi := { dst := some 25, op := Op.indexAddr 49 (Operand.tmp 24) (Operand.tmp 23), type := 0, pos := "ref.go:15", after := #[{ on := 8, ground := Ground.data }, { on := 7, ground := Ground.data }, { on := 6, ground := Ground.guard }], guard := some (6, false) }) (v := ?_) rfl (by kernel_rfl) (by kernel_rfl) (by kernel_rfl) (fun _ _ _ h => h) (Or.inl ⟨by rfl, ?_⟩) hHeld ?_
            rotate_left
            focus (intro z hSw; clear hSw; go_simp; try with_reducible rfl)
            try simp only [Act.put, List.setIfInBounds_toArray, List.set_cons_zero, List.set_cons_succ]
            refine wpAnyH_take (i := 10) (oi := { dst := some 26, op := Op.load 26 (Operand.tmp 25), type := 26, pos := "ref.go:15", after := #[{ on := 9, ground := Ground.data }, { on := 6, ground := Ground.guard }], guard := some (6, false) }) rfl (by kernel_rfl) (by kernel_rfl) (by kernel_rfl) (fun _ _ _ h => h) (yieldsIf_ld (by rfl) 26 _ rfl _ rfl (fun z hSw => ((B0.out.keep0 Fk.out).keep0 hSw).2.load HA.out)) hHeld ?_
            try simp only [Act.put, List.setIfInBounds_toArray, List.set_cons_zero, List.set_cons_succ]
            refine wpAnyH_ready (rs := [11]) (by kernel_rfl) (by simp) ?_
            refine AllReadyH.cons (o := { dst := some 27, op := Op.call { callee := Callee.value (Operand.func 21), args := #[Operand.tmp 26], argTypes := #[26] }, type := 4, pos := "ref.go:15", after := #[{ on := 10, ground := Ground.data }, { on := 6, ground := Ground.chain }, { on := 6, ground := Ground.guard }], guard := some (6, false) }) rfl (fun K hK => ?_) AllReadyH.nil
            go_simp
            refine (HH.out _ (FF.out.trans hHeld (by simp))).mono ?_
            rintro r wn ⟨rfl, fn⟩
            refine hK.out _ _ ?_ (fun hNext => ?_)
            · exact hHeld.trans fn (by simp)
            clear hK K hHeld
            have hHeld := hNext
            clear hNext
            try simp only [Act.put, List.setIfInBounds_toArray, List.set_cons_zero, List.set_cons_succ]
            refine wpAnyH_take (i := 12) (oi := { dst := some 28, op := Op.unOp UnOp.not 4 (Operand.tmp 27), type := 4, pos := "ref.go:15", after := #[{ on := 11, ground := Ground.data }, { on := 6, ground := Ground.guard }], guard := some (6, false) }) (v := ?_) rfl (by kernel_rfl) (by kernel_rfl) (by kernel_rfl) (fun _ _ _ h => h) (Or.inl ⟨by rfl, ?_⟩) hHeld ?_
            rotate_left
            focus (intro z hSw; clear hSw; go_simp; try with_reducible rfl)
            try simp only [Act.put, List.setIfInBounds_toArray, List.set_cons_zero, List.set_cons_succ]
            refine wpAnyH_take (i := 13) (oi := { dst := some 29, op := Op.move (Operand.tmp 28), type := 4, pos := "ref.go:15", after := #[{ on := 12, ground := Ground.data }, { on := 11, ground := Ground.chain }, { on := 6, ground := Ground.guard }], guard := some (6, false) }) (v := ?_) rfl (by kernel_rfl) (by kernel_rfl) (by kernel_rfl) (fun _ _ _ h => h) (Or.inl ⟨by rfl, ?_⟩) hHeld ?_
            rotate_left
            focus (intro z hSw; clear hSw; go_simp; try with_reducible rfl)
            try simp only [Act.put, List.setIfInBounds_toArray, List.set_cons_zero, List.set_cons_succ]
            refine wpAnyH_take (i := 14) (oi := { dst := some 30, op := Op.move (Operand.tmp 3), type := 3, pos := "ref.go:15", after := #[{ on := 13, ground := Ground.guard }], guard := some (13, true) }) (v := ?_) rfl (by kernel_rfl) (by kernel_rfl) (by kernel_rfl) (fun _ _ _ h => h) (Or.inl ⟨by rfl, ?_⟩) hHeld ?_
            rotate_left
            focus (intro z hSw; clear hSw; go_simp; try with_reducible rfl)
            try simp only [Act.put, List.setIfInBounds_toArray, List.set_cons_zero, List.set_cons_succ]
            refine wpAnyH_take (i := 15) (oi := { dst := some 31, op := Op.fieldAddr 51 (Operand.tmp 1) 1, type := 0, pos := "ref.go:15", after := #[{ on := 13, ground := Ground.guard }], guard := some (13, true) }) (v := ?_) rfl (by kernel_rfl) (by kernel_rfl) (by kernel_rfl) (fun _ _ _ h => h) (Or.inl ⟨by rfl, ?_⟩) hHeld ?_
            rotate_left
            focus (intro z hSw; clear hSw; go_simp; try with_reducible rfl)
            try simp only [Act.put, List.setIfInBounds_toArray, List.set_cons_zero, List.set_cons_succ]
            refine wpAnyH_take (i := 16) (oi := { dst := some 32, op := Op.indexAddr 49 (Operand.tmp 31) (Operand.tmp 30), type := 0, pos := "ref.go:15", after := #[{ on := 15, ground := Ground.data }, { on := 14, ground := Ground.data }, { on := 13, ground := Ground.guard }], guard := some (13, true) }) (v := ?_) rfl (by kernel_rfl) (by kernel_rfl) (by kernel_rfl) (fun _ _ _ h => h) (Or.inl ⟨by rfl, ?_⟩) hHeld ?_
            rotate_left
            focus (intro z hSw; clear hSw; go_simp; try with_reducible rfl)
            try simp only [Act.put, List.setIfInBounds_toArray, List.set_cons_zero, List.set_cons_succ]
            refine wpAnyH_take (i := 17) (oi := { dst := some 33, op := Op.fieldAddr 26 (Operand.tmp 32) 2, type := 0, pos := "ref.go:15", after := #[{ on := 16, ground := Ground.data }, { on := 13, ground := Ground.guard }], guard := some (13, true) }) (v := ?_) rfl (by kernel_rfl) (by kernel_rfl) (by kernel_rfl) (fun _ _ _ h => h) (Or.inl ⟨by rfl, ?_⟩) hHeld ?_
            rotate_left
            focus (intro z hSw; clear hSw; go_simp; try with_reducible rfl)
            try simp only [Act.put, List.setIfInBounds_toArray, List.set_cons_zero, List.set_cons_succ]
            refine wpAnyH_take (i := 18) (oi := { dst := some 34, op := Op.load 3 (Operand.tmp 33), type := 3, pos := "ref.go:15", after := #[{ on := 17, ground := Ground.data }, { on := 13, ground := Ground.guard }], guard := some (13, true) }) (v := ?_) rfl (by kernel_rfl) (by kernel_rfl) (by kernel_rfl) (fun _ _ _ h => h) (Or.inl ⟨by rfl, ?_⟩) hHeld ?_
            rotate_left
            focus (intro z hSw; have d1 := CP.out z hSw; have d2 := hSw.cell CK.out (by simp); clear hSw; go_simp; try with_reducible rfl)
            try simp only [Act.put, List.setIfInBounds_toArray, List.set_cons_zero, List.set_cons_succ]
            refine wpAnyH_take (i := 19) (oi := { dst := some 35, op := Op.fieldAddr 51 (Operand.tmp 1) 0, type := 0, pos := "ref.go:15", after := #[{ on := 13, ground := Ground.guard }], guard := some (13, true) }) (v := ?_) rfl (by kernel_rfl) (by kernel_rfl) (by kernel_rfl) (fun _ _ _ h => h) (Or.inl ⟨by rfl, ?_⟩) hHeld ?_
            rotate_left
            focus (intro z hSw; clear hSw; go_simp; try with_reducible rfl)
            try simp only [Act.put, List.setIfInBounds_toArray, List.set_cons_zero, List.set_cons_succ]
            refine wpAnyH_take (i := 20) (oi := { dst := some 36, op := Op.load 3 (Operand.tmp 35), type := 3, pos := "ref.go:15", after := #[{ on := 19, ground := Ground.data }, { on := 13, ground := Ground.guard }], guard := some (13, true) }) (v := ?_) rfl (by kernel_rfl) (by kernel_rfl) (by kernel_rfl) (fun _ _ _ h => h) (Or.inl ⟨by rfl, ?_⟩) hHeld ?_
            rotate_left
            focus (intro z hSw; have d1 := CP.out z hSw; have d2 := hSw.cell CK.out (by simp); clear hSw; go_simp; try with_reducible rfl)
            try simp only [Act.put, List.setIfInBounds_toArray, List.set_cons_zero, List.set_cons_succ]
            refine wpAnyH_take (i := 21) (oi := { dst := some 37, op := Op.binOp BinOp.sub 3 (Operand.tmp 36) (Operand.const (Value.int IntKind.i64 1)) 3, type := 3, pos := "ref.go:15", after := #[{ on := 20, ground := Ground.data }, { on := 13, ground := Ground.guard }], guard := some (13, true) }) (v := ?_) rfl (by kernel_rfl) (by kernel_rfl) (by kernel_rfl) (fun _ _ _ h => h) (Or.inl ⟨by rfl, ?_⟩) hHeld ?_
            rotate_left
            focus (intro z hSw; clear hSw; go_simp; try with_reducible rfl)
            try simp only [Act.put, List.setIfInBounds_toArray, List.set_cons_zero, List.set_cons_succ]
            refine wpAnyH_take (i := 22) (oi := { dst := some 38, op := Op.binOp BinOp.neq 3 (Operand.tmp 34) (Operand.tmp 37) 3, type := 4, pos := "ref.go:15", after := #[{ on := 18, ground := Ground.data }, { on := 21, ground := Ground.data }, { on := 13, ground := Ground.guard }], guard := some (13, true) }) (v := ?_) rfl (by kernel_rfl) (by kernel_rfl) (by kernel_rfl) (fun _ _ _ h => h) (Or.inl ⟨by rfl, ?_⟩) hHeld ?_
            rotate_left
            focus (intro z hSw; clear hSw; go_simp; try with_reducible rfl)
            try simp only [Act.put, List.setIfInBounds_toArray, List.set_cons_zero, List.set_cons_succ]
            refine wpAnyH_take (i := 23) (oi := { dst := some 39, op := Op.pick (Operand.tmp 29) (Operand.tmp 38) (Operand.const (Value.bool false)), type := 4, pos := "ref.go:15", after := #[{ on := 13, ground := Ground.data }, { on := 22, ground := Ground.data }, { on := 6, ground := Ground.guard }], guard := some (6, false) }) (v := ?_) rfl (by kernel_rfl) (by kernel_rfl) (by kernel_rfl) (fun _ _ _ h => h) (Or.inl ⟨by rfl, ?_⟩) hHeld ?_
            rotate_left
            focus (intro z hSw; clear hSw; go_simp; try with_reducible rfl)
            try simp only [Act.put, List.setIfInBounds_toArray, List.set_cons_zero, List.set_cons_succ]
            refine wpAnyH_take (i := 24) (oi := { dst := some 40, op := Op.pick (Operand.tmp 22) (Operand.const (Value.bool true)) (Operand.tmp 39), type := 4, pos := "ref.go:15", after := #[{ on := 6, ground := Ground.data }, { on := 23, ground := Ground.data }], guard := none }) (v := ?_) rfl (by kernel_rfl) (by kernel_rfl) (by kernel_rfl) (fun _ _ _ h => h) (Or.inl ⟨by rfl, ?_⟩) hHeld ?_
            rotate_left
            focus (intro z hSw; clear hSw; go_simp; try with_reducible rfl)
            try simp only [Act.put, List.setIfInBounds_toArray, List.set_cons_zero, List.set_cons_succ]
            refine wpAnyH_done (by kernel_rfl) ?_ _
            by_cases hpe : pl = lv - 1
            · have H := Lib.hid (HREL.out (by rw [HSB.out]; simp [hpe]))
              subst hpe
              go_wp2_with fail
              go_roundw
              case rel => exact ⟨k + 1, by omega, by go_num, H.out, Fk.out.trans hHeld (by simp)⟩
              case measure => simp [intOf]; omega
            · have H := Lib.hid (HNO.out (by rw [HSB.out]; simp [hpe]))
              have hpn : (pl == lv - 1) = false := by simpa using hpe
              clear hpe
              go_wp2_with fail
              go_ret
              exact ⟨by rw [H.out]; rfl, FF.out.trans hHeld (by simp)⟩
        · have hhf : hh = false := by cases hh with | false => rfl | true => exact absurd (hhc rfl) (by decide)
          subst hhf
          have H := Lib.hid (HNO.out (by rw [HSB.out]; rfl))
          clear hhc
          refine wp_region_held_drew (S := fun z => Frm [] wr z) (by kernel_rfl) ((Frm.refl [] wr).drew) (fun hHeld => ?_)
          refine wpAnyH_take (i := 0) (oi := { dst := some 16, op := Op.move (Operand.tmp 3), type := 3, pos := "ref.go:15", after := #[], guard := none }) (v := ?_) rfl (by kernel_rfl) (by kernel_rfl) (by kernel_rfl) (fun _ _ _ h => h) (Or.inl ⟨by rfl, ?_⟩) hHeld ?_
          rotate_left
          focus (intro z hSw; clear hSw; go_simp; try with_reducible rfl)
          try simp only [Act.put, List.setIfInBounds_toArray, List.set_cons_zero, List.set_cons_succ]
          refine wpAnyH_take (i := 1) (oi := { dst := some 17, op := Op.fieldAddr 51 (Operand.tmp 1) 1, type := 0, pos := "ref.go:15", after := #[], guard := none }) (v := ?_) rfl (by kernel_rfl) (by kernel_rfl) (by kernel_rfl) (fun _ _ _ h => h) (Or.inl ⟨by rfl, ?_⟩) hHeld ?_
          rotate_left
          focus (intro z hSw; clear hSw; go_simp; try with_reducible rfl)
          try simp only [Act.put, List.setIfInBounds_toArray, List.set_cons_zero, List.set_cons_succ]
          refine wpAnyH_take (i := 2) (oi := { dst := some 18, op := Op.indexAddr 49 (Operand.tmp 17) (Operand.tmp 16), type := 0, pos := "ref.go:15", after := #[{ on := 1, ground := Ground.data }, { on := 0, ground := Ground.data }], guard := none }) (v := ?_) rfl (by kernel_rfl) (by kernel_rfl) (by kernel_rfl) (fun _ _ _ h => h) (Or.inl ⟨by rfl, ?_⟩) hHeld ?_
          rotate_left
          focus (intro z hSw; clear hSw; go_simp; try with_reducible rfl)
          try simp only [Act.put, List.setIfInBounds_toArray, List.set_cons_zero, List.set_cons_succ]
          refine wpAnyH_take (i := 3) (oi := { dst := some 19, op := Op.load 26 (Operand.tmp 18), type := 26, pos := "ref.go:15", after := #[{ on := 2, ground := Ground.data }], guard := none }) rfl (by kernel_rfl) (by kernel_rfl) (by kernel_rfl) (fun _ _ _ h => h) (yieldsIf_ld (by rfl) 26 _ rfl _ rfl (fun z hSw => ((B0.out.keep0 Fk.out).keep0 hSw).2.load HA.out)) hHeld ?_
          try simp only [Act.put, List.setIfInBounds_toArray, List.set_cons_zero, List.set_cons_succ]
          refine wpAnyH_ready (rs := [4]) (by kernel_rfl) (by simp) ?_
          refine AllReadyH.cons (o := { dst := some 20, op := Op.call { callee := Callee.value (Operand.func 19), args := #[Operand.tmp 19], argTypes := #[26] }, type := 30, pos := "ref.go:15", after := #[{ on := 3, ground := Ground.data }], guard := none }) rfl (fun K hK => ?_) AllReadyH.nil
          go_simp
          refine (HC.out _ (FF.out.trans hHeld (by simp))).mono ?_
          rintro r wn ⟨rfl, fn⟩
          refine hK.out _ _ ?_ (fun hNext => ?_)
          · exact hHeld.trans fn (by simp)
          clear hK K hHeld
          have hHeld := hNext
          clear hNext
          try simp only [Act.put, List.setIfInBounds_toArray, List.set_cons_zero, List.set_cons_succ]
          refine wpAnyH_take (i := 5) (oi := { dst := some 21, op := Op.binOp BinOp.neq 30 (Operand.tmp 20) (Operand.const (Value.int IntKind.i64 0)) 30, type := 4, pos := "ref.go:15", after := #[{ on := 4, ground := Ground.data }], guard := none }) (v := ?_) rfl (by kernel_rfl) (by kernel_rfl) (by kernel_rfl) (fun _ _ _ h => h) (Or.inl ⟨by rfl, ?_⟩) hHeld ?_
          rotate_left
          focus (intro z hSw; clear hSw; go_simp; try with_reducible rfl)
          try simp only [Act.put, List.setIfInBounds_toArray, List.set_cons_zero, List.set_cons_succ]
          refine wpAnyH_take (i := 6) (oi := { dst := some 22, op := Op.move (Operand.tmp 21), type := 4, pos := "ref.go:15", after := #[{ on := 5, ground := Ground.data }, { on := 4, ground := Ground.chain }], guard := none }) (v := ?_) rfl (by kernel_rfl) (by kernel_rfl) (by kernel_rfl) (fun _ _ _ h => h) (Or.inl ⟨by rfl, ?_⟩) hHeld ?_
          rotate_left
          focus (intro z hSw; clear hSw; go_simp; try with_reducible rfl)
          try simp only [Act.put, List.setIfInBounds_toArray, List.set_cons_zero, List.set_cons_succ]
          refine wpAnyH_take (i := 7) (oi := { dst := some 23, op := Op.move (Operand.tmp 3), type := 3, pos := "ref.go:15", after := #[{ on := 6, ground := Ground.guard }], guard := some (6, false) }) (v := undef) rfl (by kernel_rfl) (by kernel_rfl) (by kernel_rfl) (fun _ _ _ h => h) (Or.inr ⟨by rfl, rfl⟩) hHeld ?_
          try simp only [Act.put, List.setIfInBounds_toArray, List.set_cons_zero, List.set_cons_succ]
          refine wpAnyH_take (i := 8) (oi := { dst := some 24, op := Op.fieldAddr 51 (Operand.tmp 1) 1, type := 0, pos := "ref.go:15", after := #[{ on := 6, ground := Ground.guard }], guard := some (6, false) }) (v := undef) rfl (by kernel_rfl) (by kernel_rfl) (by kernel_rfl) (fun _ _ _ h => h) (Or.inr ⟨by rfl, rfl⟩) hHeld ?_
          try simp only [Act.put, List.setIfInBounds_toArray, List.set_cons_zero, List.set_cons_succ]
          refine wpAnyH_take (i := 9) (oi := { dst := some 25, op := Op.indexAddr 49 (Operand.tmp 24) (Operand.tmp 23), type := 0, pos := "ref.go:15", after := #[{ on := 8, ground := Ground.data }, { on := 7, ground := Ground.data }, { on := 6, ground := Ground.guard }], guard := some (6, false) }) (v := undef) rfl (by kernel_rfl) (by kernel_rfl) (by kernel_rfl) (fun _ _ _ h => h) (Or.inr ⟨by rfl, rfl⟩) hHeld ?_
          try simp only [Act.put, List.setIfInBounds_toArray, List.set_cons_zero, List.set_cons_succ]
          refine wpAnyH_take (i := 10) (oi := { dst := some 26, op := Op.load 26 (Operand.tmp 25), type := 26, pos := "ref.go:15", after := #[{ on := 9, ground := Ground.data }, { on := 6, ground := Ground.guard }], guard := some (6, false) }) (v := undef) rfl (by kernel_rfl) (by kernel_rfl) (by kernel_rfl) (fun _ _ _ h => h) (Or.inr ⟨by rfl, rfl⟩) hHeld ?_
          try simp only [Act.put, List.setIfInBounds_toArray, List.set_cons_zero, List.set_cons_succ]
          refine wpAnyH_take (i := 11) (oi := { dst := some 27, op := Op.call { callee := Callee.value (Operand.func 21), args := #[Operand.tmp 26], argTypes := #[26] }, type := 4, pos := "ref.go:15", after := #[{ on := 10, ground := Ground.data }, { on := 6, ground := Ground.chain }, { on := 6, ground := Ground.guard }], guard := some (6, false) }) (v := undef) rfl (by kernel_rfl) (by kernel_rfl) (by kernel_rfl) (fun _ _ _ h => h) (Or.inr ⟨by rfl, rfl⟩) hHeld ?_
          try simp only [Act.put, List.setIfInBounds_toArray, List.set_cons_zero, List.set_cons_succ]
          refine wpAnyH_take (i := 12) (oi := { dst := some 28, op := Op.unOp UnOp.not 4 (Operand.tmp 27), type := 4, pos := "ref.go:15", after := #[{ on := 11, ground := Ground.data }, { on := 6, ground := Ground.guard }], guard := some (6, false) }) (v := undef) rfl (by kernel_rfl) (by kernel_rfl) (by kernel_rfl) (fun _ _ _ h => h) (Or.inr ⟨by rfl, rfl⟩) hHeld ?_
          try simp only [Act.put, List.setIfInBounds_toArray, List.set_cons_zero, List.set_cons_succ]
          refine wpAnyH_take (i := 13) (oi := { dst := some 29, op := Op.move (Operand.tmp 28), type := 4, pos := "ref.go:15", after := #[{ on := 12, ground := Ground.data }, { on := 11, ground := Ground.chain }, { on := 6, ground := Ground.guard }], guard := some (6, false) }) (v := undef) rfl (by kernel_rfl) (by kernel_rfl) (by kernel_rfl) (fun _ _ _ h => h) (Or.inr ⟨by rfl, rfl⟩) hHeld ?_
          try simp only [Act.put, List.setIfInBounds_toArray, List.set_cons_zero, List.set_cons_succ]
          refine wpAnyH_take (i := 14) (oi := { dst := some 30, op := Op.move (Operand.tmp 3), type := 3, pos := "ref.go:15", after := #[{ on := 13, ground := Ground.guard }], guard := some (13, true) }) (v := undef) rfl (by kernel_rfl) (by kernel_rfl) (by kernel_rfl) (fun _ _ _ h => h) (Or.inr ⟨by rfl, rfl⟩) hHeld ?_
          try simp only [Act.put, List.setIfInBounds_toArray, List.set_cons_zero, List.set_cons_succ]
          refine wpAnyH_take (i := 15) (oi := { dst := some 31, op := Op.fieldAddr 51 (Operand.tmp 1) 1, type := 0, pos := "ref.go:15", after := #[{ on := 13, ground := Ground.guard }], guard := some (13, true) }) (v := undef) rfl (by kernel_rfl) (by kernel_rfl) (by kernel_rfl) (fun _ _ _ h => h) (Or.inr ⟨by rfl, rfl⟩) hHeld ?_
          try simp only [Act.put, List.setIfInBounds_toArray, List.set_cons_zero, List.set_cons_succ]
          refine wpAnyH_take (i := 16) (oi := { dst := some 32, op := Op.indexAddr 49 (Operand.tmp 31) (Operand.tmp 30), type := 0, pos := "ref.go:15", after := #[{ on := 15, ground := Ground.data }, { on := 14, ground := Ground.data }, { on := 13, ground := Ground.guard }], guard := some (13, true) }) (v := undef) rfl (by kernel_rfl) (by kernel_rfl) (by kernel_rfl) (fun _ _ _ h => h) (Or.inr ⟨by rfl, rfl⟩) hHeld ?_
          try simp only [Act.put, List.setIfInBounds_toArray, List.set_cons_zero, List.set_cons_succ]
          refine wpAnyH_take (i := 17) (oi := { dst := some 33, op := Op.fieldAddr 26 (Operand.tmp 32) 2, type := 0, pos := "ref.go:15", after := #[{ on := 16, ground := Ground.data }, { on := 13, ground := Ground.guard }], guard := some (13, true) }) (v := undef) rfl (by kernel_rfl) (by kernel_rfl) (by kernel_rfl) (fun _ _ _ h => h) (Or.inr ⟨by rfl, rfl⟩) hHeld ?_
          try simp only [Act.put, List.setIfInBounds_toArray, List.set_cons_zero, List.set_cons_succ]
          refine wpAnyH_take (i := 18) (oi := { dst := some 34, op := Op.load 3 (Operand.tmp 33), type := 3, pos := "ref.go:15", after := #[{ on := 17, ground := Ground.data }, { on := 13, ground := Ground.guard }], guard := some (13, true) }) (v := undef) rfl (by kernel_rfl) (by kernel_rfl) (by kernel_rfl) (fun _ _ _ h => h) (Or.inr ⟨by rfl, rfl⟩) hHeld ?_
          try simp only [Act.put, List.setIfInBounds_toArray, List.set_cons_zero, List.set_cons_succ]
          refine wpAnyH_take (i := 19) (oi := { dst := some 35, op := Op.fieldAddr 51 (Operand.tmp 1) 0, type := 0, pos := "ref.go:15", after := #[{ on := 13, ground := Ground.guard }], guard := some (13, true) }) (v := undef) rfl (by kernel_rfl) (by kernel_rfl) (by kernel_rfl) (fun _ _ _ h => h) (Or.inr ⟨by rfl, rfl⟩) hHeld ?_
          try simp only [Act.put, List.setIfInBounds_toArray, List.set_cons_zero, List.set_cons_succ]
          refine wpAnyH_take (i := 20) (oi := { dst := some 36, op := Op.load 3 (Operand.tmp 35), type := 3, pos := "ref.go:15", after := #[{ on := 19, ground := Ground.data }, { on := 13, ground := Ground.guard }], guard := some (13, true) }) (v := undef) rfl (by kernel_rfl) (by kernel_rfl) (by kernel_rfl) (fun _ _ _ h => h) (Or.inr ⟨by rfl, rfl⟩) hHeld ?_
          try simp only [Act.put, List.setIfInBounds_toArray, List.set_cons_zero, List.set_cons_succ]
          refine wpAnyH_take (i := 21) (oi := { dst := some 37, op := Op.binOp BinOp.sub 3 (Operand.tmp 36) (Operand.const (Value.int IntKind.i64 1)) 3, type := 3, pos := "ref.go:15", after := #[{ on := 20, ground := Ground.data }, { on := 13, ground := Ground.guard }], guard := some (13, true) }) (v := undef) rfl (by kernel_rfl) (by kernel_rfl) (by kernel_rfl) (fun _ _ _ h => h) (Or.inr ⟨by rfl, rfl⟩) hHeld ?_
          try simp only [Act.put, List.setIfInBounds_toArray, List.set_cons_zero, List.set_cons_succ]
          refine wpAnyH_take (i := 22) (oi := { dst := some 38, op := Op.binOp BinOp.neq 3 (Operand.tmp 34) (Operand.tmp 37) 3, type := 4, pos := "ref.go:15", after := #[{ on := 18, ground := Ground.data }, { on := 21, ground := Ground.data }, { on := 13, ground := Ground.guard }], guard := some (13, true) }) (v := undef) rfl (by kernel_rfl) (by kernel_rfl) (by kernel_rfl) (fun _ _ _ h => h) (Or.inr ⟨by rfl, rfl⟩) hHeld ?_
          try simp only [Act.put, List.setIfInBounds_toArray, List.set_cons_zero, List.set_cons_succ]
          refine wpAnyH_take (i := 23) (oi := { dst := some 39, op := Op.pick (Operand.tmp 29) (Operand.tmp 38) (Operand.const (Value.bool false)), type := 4, pos := "ref.go:15", after := #[{ on := 13, ground := Ground.data }, { on := 22, ground := Ground.data }, { on := 6, ground := Ground.guard }], guard := some (6, false) }) (v := undef) rfl (by kernel_rfl) (by kernel_rfl) (by kernel_rfl) (fun _ _ _ h => h) (Or.inr ⟨by rfl, rfl⟩) hHeld ?_
          try simp only [Act.put, List.setIfInBounds_toArray, List.set_cons_zero, List.set_cons_succ]
          refine wpAnyH_take (i := 24) (oi := { dst := some 40, op := Op.pick (Operand.tmp 22) (Operand.const (Value.bool true)) (Operand.tmp 39), type := 4, pos := "ref.go:15", after := #[{ on := 6, ground := Ground.data }, { on := 23, ground := Ground.data }], guard := none }) (v := ?_) rfl (by kernel_rfl) (by kernel_rfl) (by kernel_rfl) (fun _ _ _ h => h) (Or.inl ⟨by rfl, ?_⟩) hHeld ?_
          rotate_left
          focus (intro z hSw; clear hSw; go_simp; try with_reducible rfl)
          try simp only [Act.put, List.setIfInBounds_toArray, List.set_cons_zero, List.set_cons_succ]
          refine wpAnyH_done (by kernel_rfl) ?_ _
          go_wp2_with fail
          go_ret
          exact ⟨by rw [H.out]; rfl, FF.out.trans hHeld (by simp)⟩
      · obtain rfl : k = 4 := by omega
        have H := Lib.hid (nchk_yes (n := n) (by rw [← HLV.out]; omega) (by rw [← HLV.out]; omega) (fun j p hj hp => by rw [← HLV.out]; exact HST.out j p hj hp) HPS.out.2.1)
        go_wp2_with fail
        go_ret
        exact ⟨by rw [H.out]; rfl, F0.out.trans Fk.out (by simp)⟩
  · have H := Lib.hid (nchk_lev (n := n) (by rw [← HLV.out]; exact h1))
    have h1' : lv < 1 ∨ 3 < lv := by omega
    clear h1
    rcases h1' with h1 | h1
    all_goals
      go_wp2_with fail
      go_ret
      exact ⟨by rw [H.out]; rfl, F0.out⟩
end Go.Proofs.Ytjjcjocomanohaa

namespace Go.Proofs.Ytjjcjocomanohaa
open Go.RowKit
set_option linter.unusedVariables false
set_option linter.unusedSimpArgs false
set_option maxRecDepth 100000

def lenOf : Value → Nat
  | .slice _ n _ => n
  | _ => 0
def preK (b : UInt8) (ps : List Pt) (k : Nat) : List UInt8 := b :: (ps.take k).flatMap enc
theorem preK_step (b : UInt8) {ps : List Pt} {k : Nat} {p : Pt} (hp : ps[k]? = some p) : preK b ps k ++ enc p = preK b ps (k + 1) := by
  obtain ⟨hlt, he⟩ := List.getElem?_eq_some_iff.1 hp
  unfold preK
  rw [List.take_succ_eq_append_getElem hlt, List.flatMap_append, he]
  simp
theorem preK_len (b : UInt8) {ps : List Pt} (h : ∀ p ∈ ps, (enc p).length = 47) (h4 : ps.length = 4) {k : Nat} (hk : k ≤ 4) : (preK b ps k).length = 1 + 47 * k := by
  have := flat_enc (ps := ps.take k) (fun p hp => h p (List.mem_of_mem_take hp))
  simp only [preK, List.length_cons, this, List.length_take]
  omega
def PkRel (b : UInt8) (ps : List Pt) (W0 : World) (ov cv : Value) (wr : World) : Prop := ∃ (k : Nat) (a : Option Addr) (cap : Nat), k ≤ 4 ∧ cv = .int .i64 k ∧ ov = .slice a (1 + 47 * k) cap ∧ Inv W0 wr (.slice a (1 + 47 * k) cap) (preK b ps k) (1 + 47 * k)
def FlRel (l : List UInt8) (W0 : World) (ov : Value) (wr : World) : Prop := ∃ (m : Nat) (a : Option Addr) (cap : Nat), m ≤ 67 ∧ ov = .slice a (189 + m) cap ∧ Inv W0 wr (.slice a (189 + m) cap) (l ++ List.replicate m 0) (189 + m)
set_option maxHeartbeats 8000000 in
theorem RefPack_any (x : Value) (n : Nd) (w : World) (hn : NdV w x n) (hl : ∀ p ∈ n.ps, p.ads.length ≤ 1000000) : Calls Try.prog 38 #[x] w (PackP 5 n w) := by
  have HC := Lib.hid (fun W (f : Frm [] w W) => RefNodeCheck_any x n W (hn.keep0 f) hl)
  obtain ⟨N, rfl, hN, As, hps, hb⟩ := hn.box
  have b0 := hb w
  have f0 : Frm [] w (w.alloc (.cells N 51)) := (Frm.refl [] w).alloc _
  rcases nchk_cases n with ⟨hbn, hc⟩ | ⟨hbn, hc⟩
  · obtain ⟨n1, n3, hst⟩ := nodeB_parts hbn
    have henc : ∀ p ∈ n.ps, (enc p).length = 47 := fun p hp => enc_len (stand_may (hst p hp)) (hps.lens p hp)
    have HPB := Lib.hid (show packB n = preK (UInt8.ofNat n.lv.toNat) n.ps 4 ++ List.replicate 67 0 by
      simp only [packB, hbn, if_true, secB, preK]
      rw [List.take_of_length_le (by have := hps.2.1; omega)]
      rfl)
    have hw8 : IntKind.u8.wrap n.lv = ((UInt8.ofNat n.lv.toNat).toNat : Int) := by
      have : n.lv = 1 ∨ n.lv = 2 ∨ n.lv = 3 := by omega
      rcases this with e | e | e <;> rw [e] <;> rfl
    have HPS := Lib.hid hps
    have HST := Lib.hid hst
    have HENC := Lib.hid henc
    have HCC := Lib.hid hc
    have HL := Lib.hid hl
    have HLN := Lib.hid (fun k (hk : k ≤ 4) => preK_len (UInt8.ofNat n.lv.toNat) henc hps.2.1 hk)
    rw [hc] at HC
    generalize UInt8.ofNat n.lv.toNat = b8 at *
    obtain ⟨lv, hlv⟩ : ∃ lv, lv = n.lv := ⟨_, rfl⟩
    rw [← hlv] at hw8
    have c0 := b0.2.lev
    rw [← hlv] at c0
    clear hbn hc hst henc hps hl hb hn hlv n1 n3
    go_enter Try.func38, Try.ntmps38
    go_upto_region 1 with (fail)
    generalize w.alloc (.cells N 51) = W at *
    have B0 := Lib.hid b0
    have F0 := Lib.hid f0
    clear b0 f0
    go_upto_region 3 with (first
      | ((with_reducible (show wpList _ _ _ (Oper.mk _ (Op.load 51 _) _ _ _ _ :: _) _ _)); refine wpList_load_g (by rfl) 51 _ rfl _ rfl B0.out.load ?_)
      | (go_at_call 40; refine (HC.out _ F0.out).mono ?_; rintro r w1 ⟨rfl, f1⟩))
    have c1 := f1.cell c0 (by simp)
    have B1 := Lib.hid (B0.out.keep0 f1)
    have F1 := Lib.hid (F0.out.trans f1 (by simp))
    have hI : Inv w1 (w1.alloc (.cells #[.int .u8 (b8.toNat : Int)] 5)) (.slice (some ⟨w1.heap.size, 0, none⟩) 1 1) [b8] 1 := ⟨⟨[], OwnB.of_heap (by rw [heap_alloc_new]; rfl) rfl rfl (by simp [maxLen])⟩, (Frm.refl [] w1).alloc _, fun i hi => by simp [blk] at hi; omega, by simp⟩
    have HI := Lib.hid hI
    clear c0 f1 B0 F0 hI
    go_wp2_with fail
    go_loopw [4, 5] (PkRel b8 n.ps w1) (fun _ cv _ => 4 - (intOf cv).toNat)
    case atStart => exact ⟨0, _, _, by omega, rfl, rfl, HI.out⟩
    case round =>
      obtain ⟨k, a, cap, hk, rfl, rfl, hinv⟩ := hrel
      have IK := Lib.hid hinv
      clear hinv HI c1
      by_cases hlt : k < 4
      · obtain ⟨A, p, hA, hp, hv⟩ := HPS.out.get hlt
        have hpm := List.mem_of_getElem? hp
        have hm : may p := stand_may (HST.out p hpm)
        have hB := fun W (f : Frm [] w W) => RefBytes_any (.agg A) p W (hv.keep0 f) (HL.out p hpm)
        unfold BytesP at hB
        rw [show chk p = 0 by simp [chk, (mayB_iff p).2 hm], show outB p = enc p by simp [outB, (mayB_iff p).2 hm]] at hB
        have HB := Lib.hid hB
        have HA := Lib.hid hA
        have HE := Lib.hid (HENC.out p hpm)
        have HSTEP := Lib.hid (preK_step b8 hp)
        have HLK := Lib.hid (HLN.out (k + 1) (by omega))
        clear hA hp hpm hm hB hv
        go_upto_region 8 with (first
          | ((with_reducible (show wpList _ _ _ (Oper.mk _ (Op.load 26 _) _ _ _ _ :: _) _ _)); refine wpList_load_g (by rfl) 26 _ rfl _ rfl ((B1.out.keep0 IK.out.frm).2.load HA.out) ?_)
          | (go_at_call 16; refine (HB.out _ (F1.out.trans IK.out.frm (by simp))).mono ?_; rintro r w3 ⟨xa, xc, xsp, rfl, o3, f3, n3⟩))
        go_upto_region 6 with (at_builtin; refine wpList_app BT IK.out f3 o3.sl (by rw [HE.out]; omega) rfl (.tmp 27) (.tmp 28) rfl rfl rfl ?_; intro a1 cap1 w4 i4)
        have hlk : (preK b8 n.ps k ++ enc p).length = 1 + 47 * (k + 1) := by rw [HSTEP.out]; exact HLK.out
        rw [hlk, HSTEP.out, HE.out, show 1 + 47 * k + 47 = 1 + 47 * (k + 1) by omega] at i4
        rw [List.length_append] at hlk
        rw [hlk]
        have I4 := Lib.hid i4
        clear i4 hlk f3 o3 n3
        go_wp2_with fail
        go_roundw
        case rel => exact ⟨k + 1, a1, cap1, by omega, by go_num, rfl, I4.out⟩
        case measure => simp [intOf]; omega
      · obtain rfl : k = 4 := by omega
        go_wp2_with fail
        generalize (Value.int .i64 ((4 : Nat) : Int)) = v5
        go_loopw [4] (FlRel (preK b8 n.ps 4) w1) (fun ov _ => 256 - lenOf ov)
        case atStart => exact ⟨0, a, cap, by omega, rfl, by simpa using IK.out⟩
        case round =>
          obtain ⟨m, a2, cap2, hm, rfl, hinv2⟩ := hrel
          have IM := Lib.hid hinv2
          clear hinv2 IK
          have hL4 : (preK b8 n.ps 4).length = 189 := HLN.out 4 (by omega)
          have HL4 := Lib.hid hL4
          by_cases hm7 : m < 67
          · have l9 : ((189 : Int) + (m : Int)) < 256 := by omega
            have hLM : (preK b8 n.ps 4 ++ List.replicate m 0).length = 189 + m := by rw [List.length_append, hL4, List.length_replicate]
            have hnx : preK b8 n.ps 4 ++ List.replicate m 0 ++ [0] = preK b8 n.ps 4 ++ List.replicate (m + 1) 0 := by rw [List.append_assoc, ← List.replicate_succ']
            have HNX := Lib.hid hnx
            have HLM := Lib.hid hLM
            clear hL4 hLM hnx
            generalize preK b8 n.ps 4 ++ List.replicate m 0 = LM at *
            go_wp2_with (at_builtin; refine wpList_app BT IM.out ((Frm.refl [] wr).alloc _) (lst_slB (l := [(0 : UInt8)]) (n := 1) (heap_alloc_at rfl) rfl rfl (by simp)) (by simp; omega) rfl (.tmp 33) (.tmp 34) rfl rfl rfl ?_; intro a3 cap3 w4 i4)
            have hlk : (LM ++ [(0 : UInt8)]).length = 189 + (m + 1) := by rw [List.length_append, HLM.out]; rfl
            rw [hlk, HNX.out] at i4
            have I4 := Lib.hid (show Inv w1 w4 (.slice a3 (189 + (m + 1)) cap3) (preK b8 n.ps 4 ++ List.replicate (m + 1) 0) (189 + (m + 1)) from i4)
            rw [HLM.out]
            go_roundw
            case rel => exact ⟨m + 1, a3, cap3, by omega, rfl, I4.out⟩
            case measure => simp [lenOf]; omega
          · obtain rfl : m = 67 := by omega
            have hlm : (preK b8 n.ps 4 ++ List.replicate 67 0).length = 256 := by rw [List.length_append, hL4]; rfl
            obtain ⟨sp, hO⟩ := IM.out.own
            have hnew := IM.out.new
            have hfr := IM.out.frm
            have HO := Lib.hid hO
            have HNW := Lib.hid hnew
            have HFR := Lib.hid hfr
            have HLMM := Lib.hid hlm
            clear hO hnew hfr hlm hL4
            go_wp2_with fail
            go_ret2
            refine ⟨a2, cap2, sp, by rw [HPB.out, HLMM.out, HCC.out]; rfl, by rw [HPB.out, HLMM.out]; exact HO.out, F1.out.trans HFR.out (by simp), fun i hi => by rw [HPB.out, HLMM.out] at hi; exact Nat.le_trans F1.out.size (HNW.out i hi)⟩
  · have HPB := Lib.hid (show packB n = [] by simp [packB, hbn])
    have HCC := Lib.hid hc
    rw [hc] at HC
    clear hbn hc hl hps hb hn
    go_enter Try.func38, Try.ntmps38
    go_upto_region 1 with (fail)
    generalize w.alloc (.cells N 51) = W at *
    have B0 := Lib.hid b0
    have F0 := Lib.hid f0
    clear b0 f0
    go_wp2_with (first
      | ((with_reducible (show wpList _ _ _ (Oper.mk _ (Op.load 51 _) _ _ _ _ :: _) _ _)); refine wpList_load_g (by rfl) 51 _ rfl _ rfl B0.out.load ?_)
      | (go_at_call 40; refine (HC.out _ F0.out).mono ?_; rintro r w1 ⟨rfl, f1⟩))
    go_ret2
    exact ⟨none, 0, [], by rw [HPB.out, HCC.out]; rfl, by rw [HPB.out]; exact OwnB.nil 5 _, F0.out.trans f1 (by simp), fun i hi => by rw [HPB.out] at hi; simp [blk] at hi⟩
end Go.Proofs.Ytjjcjocomanohaa

namespace Go.Proofs.Ytjjcjocomanohaa
open Go.RowKit
set_option linter.unusedVariables false
set_option linter.unusedSimpArgs false
set_option maxRecDepth 100000

set_option maxHeartbeats 8000000 in
theorem RefUnpack_any (v : Value) (S sp : List UInt8) (w : World) (hS : SlB w v S sp) (hl : S.length ≤ 1000000) : Calls Try.prog 48 #[v] w (UnP S w) := by
  obtain ⟨a, cap, rfl, _, _⟩ := hS.form
  have HS := Lib.hid hS
  have hl9 : (S.length : Int) ≤ 1000000 := by omega
  have b0 : NB (w.alloc (.cells (nc 0 zAs).toArray 51)) w.heap.size 0 zAs := NB.new w 0 zAs_len zAs_rows
  have f0 : Frm [] w (w.alloc (.cells (nc 0 zAs).toArray 51)) := (Frm.refl [] w).alloc _
  clear hl
  by_cases h256 : S.length = 256
  · have H256 := Lib.hid h256
    have HSL := HS.out
    rw [h256] at HSL ⊢
    rcases HSL.cases with ⟨e, _⟩ | ⟨_, e, _⟩ | ⟨b, off, cap', e, _, _⟩
    · cases e
    · simp at e
    simp only [Value.slice.injEq] at e
    obtain ⟨rfl, -, rfl⟩ := e
    obtain ⟨b8, hb8⟩ : ∃ b8, b8 = S.headD 0 := ⟨_, rfl⟩
    have hc0 : ∀ W, Frm [] w W → W.cell? ⟨b, off, none⟩ = some (.int .u8 b8.toNat) := fun W f => by
      have h := (HSL.keep f (by simp)).cellAt 0 (by omega)
      rw [hb8]
      cases S with
      | nil => simp at h256
      | cons x r => simpa using h
    have HC0 := Lib.hid hc0
    have hw8 : IntKind.i64.wrap (b8.toNat : Int) = (b8.toNat : Int) := by have := b8.toNat_lt; exact IntWalk.i64_in _ (by omega)
    have HND := Lib.hid (show (b8.toNat : Int) = (ndOf S).lv by rw [hb8]; rfl)
    have HSS := Lib.hid HSL
    have hcv := fun W (f : Frm [] w W) => convert_bytes BT (HSL.keep f (by simp)) Try.underlying9
    have HCV := Lib.hid hcv
    have HGD := Lib.hid (show goodN S = (okB S && (nodeB (ndOf S) && (secB (ndOf S) == S))) by simp [goodN, h256])
    clear h256 hl9 hc0 hb8 hS hcv
    generalize (b8.toNat : Int) = z8 at *
    go_enter Try.func48, Try.ntmps48
    go_upto_region 1 with ((with_reducible (show wpList _ _ _ (Oper.mk _ (Op.alloc 51) _ _ _ _ :: _) _ _)); refine wpList_val rfl (exec_alloc51 rfl _) ?_)
    try simp only [World.size_alloc]
    generalize w.alloc (.cells (nc 0 zAs).toArray 51) = W at *
    have c0 := HC0.out W f0
    have B0 := Lib.hid b0
    have F0 := Lib.hid f0
    clear b0 f0 HSL
    go_upto_region 4 with (first
      | ((with_reducible (show wpList _ _ _ (Oper.mk _ (Op.build 51 _) _ _ _ _ :: _) _ _)); refine wpList_val rfl (exec_bld51 (.tmp 17) rfl rfl _) ?_)
      | ((with_reducible (show wpList _ _ _ (Oper.mk _ (Op.alloc 51) _ _ _ _ :: _) _ _)); refine wpList_lay51 rfl rfl rfl (.tmp 4) (.tmp 18) rfl zAs_len zAs_rows rfl rfl ?_))
    have hB : NB (W.alloc (.cells (nc z8 zAs).toArray 51)) W.heap.size z8 zAs := NB.new W z8 zAs_len zAs_rows
    have fB : Frm [] W (W.alloc (.cells (nc z8 zAs).toArray 51)) := (Frm.refl [] W).alloc _
    have hP := ptsv_zero (W.alloc (.cells (nc z8 zAs).toArray 51))
    rw [← nodePs_zero S] at hP
    have hnb : ∀ A ∈ zAs, ∀ i ∈ ptBlk (.agg A), W.heap.size < i := fun A hA i hi => by rw [List.eq_of_mem_replicate hA] at hi; simp [zA, ptBlk, pc, blk] at hi
    generalize W.alloc (.cells (nc z8 zAs).toArray 51) = W1 at *
    generalize Value.agg (nc z8 zAs).toArray = x11
    have HB := Lib.hid hB
    have FB := Lib.hid fB
    have HP := Lib.hid hP
    have HNB := Lib.hid hnb
    clear hB fB hP hnb c0
    generalize hgg : W.heap.size = g at *
    have HGG := Lib.hid hgg
    clear hgg
    go_wp2_with fail
    go_loopw [5] (NodeRel S z8 g W) (fun cv _ => 4 - (intOf cv).toNat)
    case atStart => exact ⟨0, zAs, by omega, rfl, fun j hj => by omega, HB.out, HP.out, HNB.out, FB.out⟩
    case round =>
      obtain ⟨k, As, hk, rfl, hok, hb, hps, hnb, f⟩ := hrel
      have HOK := Lib.hid hok
      have BK := Lib.hid hb
      have PK := Lib.hid hps
      have NK := Lib.hid hnb
      have Fk := Lib.hid f
      clear hok hb hps hnb f HB FB HP HNB HC0
      by_cases hlt : k < 4
      · have h2 := H256.out
        obtain ⟨a1, c1, hs1, S1⟩ := slice_lh BT HSS.out (1 + k * 47) (48 + k * 47) (by omega) (by omega)
        rw [show 48 + k * 47 - (1 + k * 47) = 47 by omega] at hs1 S1
        have H1 := Lib.hid (fun wx => hs1 ((1 + k * 47 : Nat) : Int) ((48 + k * 47 : Nat) : Int) wx rfl rfl)
        have hrd := fun W' (f : Frm [] w W') => RefReadN_any _ (chunk S k) _ W' (S1.keep f (by simp)) (by simp [chunk]; omega)
        unfold ReadN at hrd
        have HRD := Lib.hid hrd
        have HOKN := Lib.hid (@okB_no S k hlt)
        have HSTEP := Lib.hid (nodePs_step S hlt)
        have HOK1 := Lib.hid (show readE (chunk S k) = 0 → ∀ j, j < k + 1 → readE (chunk S j) = 0 from fun h j hj => by
          rcases Nat.lt_or_ge j k with h' | h'
          · exact HOK.out j h'
          · obtain rfl : j = k := by omega
            exact h)
        have u0 : IntKind.i64.wrap (47 * (k : Int)) = 47 * (k : Int) := IntWalk.i64_in _ (by omega)
        have u1 : IntKind.i64.wrap (1 + 47 * (k : Int)) = ((1 + k * 47 : Nat) : Int) := by rw [IntWalk.i64_in _ (by omega)]; omega
        have u2 : IntKind.i64.wrap (48 + 47 * (k : Int)) = ((48 + k * 47 : Nat) : Int) := by rw [IntWalk.i64_in _ (by omega)]; omega
        clear hrd h2 hs1 S1
        generalize ((1 + k * 47 : Nat) : Int) = i1 at *
        generalize ((48 + k * 47 : Nat) : Int) = i2 at *
        generalize readE (chunk S k) = re at *
        generalize readAt (chunk S k) = ra at *
        generalize readPt (chunk S k) = rp at *
        go_upto_region 8 with (first
          | ((with_reducible (show wpList _ _ _ (Oper.mk _ (Op.slice 29 _ _ _ _) _ _ _ _ :: _) _ _)); refine wpList_val rfl (exec_slice_lh (.tmp 24) (.tmp 27) (.tmp 30) rfl rfl rfl rfl BT.sl (H1.out _)) ?_)
          | (go_at_call 30; refine (HRD.out _ (F0.out.trans Fk.out (by simp))).mono ?_; rintro r w3 ⟨x3, rfl, hx3, f3, n3⟩; obtain ⟨a3, c3, s3, rfl, sx3, zx3⟩ := hx3)
          | ((with_reducible (show wpList _ _ _ (Oper.mk _ (Op.alloc 26) _ _ _ _ :: _) _ _)); refine wpList_lay2 rfl rfl rfl rfl rfl rfl (.tmp 6) (.tmp 7) (.tmp 33) (.tmp 34) rfl rfl zx3 rfl rfl rfl rfl ?_))
        have l4 := layN_new w3 a3 c3 re ra (p := rp) zx3
        have hv := ptv_layN (e := re) (f := ra) sx3 zx3
        have fL : Frm [] w3 ((w3.alloc (.cells (pc (.slice a3 rp.ads.length c3) rp.b rp.l rp.s).toArray 26)).alloc (.cells #[.int .i64 re, .int .i64 ra] 40)) := ((Frm.refl [] w3).alloc _).alloc _
        have FV := Lib.hid (f3.trans fL (by simp))
        generalize (w3.alloc (.cells (pc (.slice a3 rp.ads.length c3) rp.b rp.l rp.s).toArray 26)).alloc (.cells #[.int .i64 re, .int .i64 ra] 40) = V at *
        generalize pv (.slice a3 rp.ads.length c3) rp.b rp.l rp.s = x3 at *
        obtain ⟨A3, rfl, hA3, -⟩ := hv.box
        have HA3 := Lib.hid (ptv_size hv)
        have L4 := Lib.hid l4.1
        have c4 := l4.2
        have HV := Lib.hid hv
        have N3 := Lib.hid n3
        clear l4 hv fL f3 n3 sx3 hA3 u0 u1 u2
        have BV := Lib.hid (BK.out.keep0 FV.out)
        have FW := Lib.hid (Fk.out.trans FV.out (by simp))
        by_cases hre : re = 0
        · subst hre
          have TH := Lib.hid (BV.out.there hlt)
          go_upto_region 6 with (first
            | ((with_reducible (show wpList _ _ _ (Oper.mk _ (Op.load 26 _) _ _ _ _ :: _) _ _)); refine wpList_load_g (by rfl) 26 _ rfl _ rfl L4.out.load ?_)
            | ((with_reducible (show wpList _ _ _ (Oper.mk _ (Op.store 26 _ _) _ _ _ _ :: _) _ _)); refine wpList_store_mid rfl 26 (.tmp 42) (.tmp 40) rfl g (1 + k * 35) A3 rfl rfl (by rw [HA3.out.1]; exact TH.out) (by rw [i26, HA3.out.1]) HA3.out.2 ?_))
          have hNB := BV.out.set hlt A3 HA3.out.1 HA3.out.2
          have fset : Frm [g] V (V.setCells g (1 + k * 35) A3.toList) := Frm.setCells _ _ _ (Frm.refl [g] V) (.inl (by simp))
          have hlt9 := BK.out.lt
          have hnw : ∀ A ∈ As.set k A3, ∀ i ∈ ptBlk (.agg A), g < i := fun A hA i hi => by
            rcases List.mem_or_eq_of_mem_set hA with h | h
            · exact NK.out A h i hi
            · subst h; have := N3.out i hi; omega
          have hP9 := ((PK.out.keep0 FV.out).set (i := k) HV.out).keep fset (fun A hA i hi h => by have := hnw A hA i hi; simp at h; omega)
          rw [HSTEP.out] at hP9
          have NB9 := Lib.hid hNB
          have P9 := Lib.hid hP9
          have NW9 := Lib.hid hnw
          have F9 := Lib.hid (FW.out.trans fset (fun i hi => .inr (by simp at hi; rw [hi, HGG.out]; omega)))
          have HOK9 := Lib.hid (HOK1.out (by first | rfl | trivial))
          clear hNB fset hlt9 hnw hP9
          generalize V.setCells g (1 + k * 35) A3.toList = V9 at *
          go_wp2_with fail
          go_roundw
          case rel => exact ⟨k + 1, As.set k A3, by omega, by go_num, HOK9.out, NB9.out, P9.out, NW9.out, F9.out⟩
          case measure => simp [intOf]; omega
        · have HNO := Lib.hid (HOKN.out hre)
          have hne : (re == 0) = false := by simpa using hre
          have BR := Lib.hid ((B0.out.keep0 FW.out))
          clear hre
          go_wp2_with (first
            | ((with_reducible (show wpList _ _ _ (Oper.mk _ (Op.build 51 _) _ _ _ _ :: _) _ _)); refine wpList_val rfl (exec_bld51z rfl _) ?_)
            | ((with_reducible (show wpList _ _ _ (Oper.mk _ (Op.store 51 _ _) _ _ _ _ :: _) _ _)); refine wpList_store51 rfl (.tmp 2) (.tmp 38) rfl BR.out zAs_len zAs_rows rfl rfl ?_; intro V9 b9 f9))
          refine bodyPost_ret (results_cell_slot (p := 2) (q := 3) rfl _ _ rfl rfl b9.var) rfl ?_
          exact unP_no H256.out (by rw [HGD.out, HNO.out]; rfl) (zeroNd_v _) ((F0.out.trans FW.out (by simp)).trans f9 (fun i hi => .inr (by simp at hi; omega)))
      · obtain rfl : k = 4 := by omega
        have HYES := Lib.hid (okB_yes HOK.out)
        have hP4 := PK.out
        rw [nodePs_four] at hP4
        have hnd : NdV wr (.agg (nc z8 As).toArray) (ndOf S) := ⟨As, by rw [← HND.out], hP4⟩
        have HNDV := Lib.hid hnd
        have HPK := Lib.hid (RefPack_any _ (ndOf S) wr hnd (ndOf_ads S))
        have P4 := Lib.hid hP4
        have HGD2 := Lib.hid (show goodN S = (nodeB (ndOf S) && (secB (ndOf S) == S)) by rw [HGD.out, HYES.out]; rfl)
        have hlt9 : w.heap.size < g := by rw [← HGG.out]; exact B0.out.lt
        have HLT9 := Lib.hid hlt9
        unfold PackP at HPK
        clear hP4 hnd hlt9
        go_upto_region 12 with (first
          | ((with_reducible (show wpList _ _ _ (Oper.mk _ (Op.load 51 _) _ _ _ _ :: _) _ _)); refine wpList_load_g (by rfl) 51 _ rfl _ rfl BK.out.all ?_)
          | (go_at_call 38; refine HPK.out.mono ?_; rintro r w5 ⟨oa, oc, osp, rfl, o5, f5, n5⟩))
        have e1 := convert_bytes BT o5.sl Try.underlying9
        have F5 := Lib.hid ((F0.out.trans Fk.out (by simp)).trans f5 (by simp))
        have e2 := HCV.out w5 F5.out
        have BK5 := Lib.hid (BK.out.keep0 f5)
        have BR5 := Lib.hid (B0.out.keep0 (Fk.out.trans f5 (by simp)))
        have P5 := Lib.hid (P4.out.keep0 f5)
        clear o5 f5 n5
        rcases nchk_cases (ndOf S) with ⟨hb, hc⟩ | ⟨hb, hc⟩
        · have HGD3 := Lib.hid (show goodN S = (packB (ndOf S) == S) by rw [HGD2.out, hb]; simp [packB, hb])
          rw [hc]
          clear hb hc
          generalize packB (ndOf S) = pb at *
          by_cases hpb : pb = S
          · have hg : goodN S = true := by rw [HGD3.out, hpb]; simp
            have HG := Lib.hid hg
            subst hpb
            clear hg
            go_wp2_with (first
              | ((with_reducible (show wpList _ _ _ (Oper.mk _ (Op.load 51 _) _ _ _ _ :: _) _ _)); refine wpList_load_g (by rfl) 51 _ rfl _ rfl BK5.out.all ?_)
              | ((with_reducible (show wpList _ _ _ (Oper.mk _ (Op.store 51 _ _) _ _ _ _ :: _) _ _)); refine wpList_store51 rfl (.tmp 2) (.tmp 58) rfl BR5.out BK5.out.2.1 BK5.out.2.2 rfl rfl ?_; intro V9 b9 f9))
            refine bodyPost_ret (results_cell_slot (p := 2) (q := 3) rfl _ _ rfl rfl b9.var) rfl ?_
            exact unP_yes HG.out ⟨As, by rw [← HND.out], P5.out.keep f9 (fun A hA i hi h => by have := NK.out A hA i hi; have := HLT9.out; simp at h; omega)⟩ (F5.out.trans f9 (fun i hi => .inr (by simp at hi; omega)))
          · have HG := Lib.hid (show goodN S = false by rw [HGD3.out]; simpa using hpb)
            have hne : (pb == S) = false := by simpa using hpb
            clear hpb
            go_wp2_with (first
              | ((with_reducible (show wpList _ _ _ (Oper.mk _ (Op.build 51 _) _ _ _ _ :: _) _ _)); refine wpList_val rfl (exec_bld51z rfl _) ?_)
              | ((with_reducible (show wpList _ _ _ (Oper.mk _ (Op.store 51 _ _) _ _ _ _ :: _) _ _)); refine wpList_store51 rfl (.tmp 2) (.tmp 57) rfl BR5.out zAs_len zAs_rows rfl rfl ?_; intro V9 b9 f9))
            refine bodyPost_ret (results_cell_slot (p := 2) (q := 3) rfl _ _ rfl rfl b9.var) rfl ?_
            exact unP_no H256.out HG.out (zeroNd_v _) (F5.out.trans f9 (fun i hi => .inr (by simp at hi; omega)))
        · have HG := Lib.hid (show goodN S = false by rw [HGD2.out, hb]; rfl)
          rw [hc]
          clear hb hc
          go_wp2_with (first
            | ((with_reducible (show wpList _ _ _ (Oper.mk _ (Op.build 51 _) _ _ _ _ :: _) _ _)); refine wpList_val rfl (exec_bld51z rfl _) ?_)
            | ((with_reducible (show wpList _ _ _ (Oper.mk _ (Op.store 51 _ _) _ _ _ _ :: _) _ _)); refine wpList_store51 rfl (.tmp 2) (.tmp 57) rfl BR5.out zAs_len zAs_rows rfl rfl ?_; intro V9 b9 f9))
          refine bodyPost_ret (results_cell_slot (p := 2) (q := 3) rfl _ _ rfl rfl b9.var) rfl ?_
          exact unP_no H256.out HG.out (zeroNd_v _) (F5.out.trans f9 (fun i hi => .inr (by simp at hi; omega)))
  · go_enter Try.func48, Try.ntmps48
    go_upto_region 1 with ((with_reducible (show wpList _ _ _ (Oper.mk _ (Op.alloc 51) _ _ _ _ :: _) _ _)); refine wpList_val rfl (exec_alloc51 rfl _) ?_)
    try simp only [World.size_alloc]
    generalize w.alloc (.cells (nc 0 zAs).toArray 51) = W at *
    have H256 := Lib.hid h256
    have hne : ((S.length : Int) == 256) = false := by simp; omega
    clear h256 hS
    go_wp2_with (first
      | ((with_reducible (show wpList _ _ _ (Oper.mk _ (Op.build 51 _) _ _ _ _ :: _) _ _)); refine wpList_val rfl (exec_bld51z rfl _) ?_)
      | ((with_reducible (show wpList _ _ _ (Oper.mk _ (Op.store 51 _ _) _ _ _ _ :: _) _ _)); refine wpList_store51 rfl (.tmp 2) (.tmp 13) rfl b0 zAs_len zAs_rows rfl rfl ?_; intro V9 b9 f9))
    refine bodyPost_ret (results_cell_slot (p := 2) (q := 3) rfl _ _ rfl rfl b9.var) rfl ?_
    exact unP_len H256.out (zeroNd_v _) (f0.trans f9 (fun i hi => .inr (by simp at hi; omega)))
end Go.Proofs.Ytjjcjocomanohaa

namespace Go.Proofs.Ytjjcjocomanohaa
open Go.RowKit
set_option linter.unusedVariables false
set_option linter.unusedSimpArgs false
set_option maxRecDepth 100000

set_option maxHeartbeats 8000000 in
theorem nunpacks_any (y : Value) (l sp : List UInt8) (w : World) (hS : SlB w y l sp) : Calls Try.prog 9 #[y] w (Yes w) := by
  obtain ⟨ya, ycap, rfl, _, _⟩ := hS.form
  have HS := Lib.hid hS
  clear hS
  by_cases h2 : l.length ≤ 300
  · have HL := Lib.hid (fun W (f : Frm [] w W) => Lent_any (.slice ya l.length ycap) l sp W (HS.out.keep f (by simp)) (by omega))
    have HU1 := Lib.hid (fun v sp' W (h : SlB W v l sp') => Unpack_any v l sp' W h (by omega))
    have HU2 := Lib.hid (fun W (f : Frm [] w W) => RefUnpack_any (.slice ya l.length ycap) l sp W (HS.out.keep f (by simp)) (by omega))
    have HSN := Lib.hid (fun W v v' (h : NdV W v (unNd l)) (h' : NdV W v' (unNd l)) => SameNode_true v v' (unNd l) W h h' (unNd_ads l))
    have HK := Lib.hid (fun g n cap W (hO : OwnB 5 W (.slice (some ⟨g, 0, none⟩) n cap) l (marks l.length 3)) (f : Frm [] w W) => Kept_true g n cap (.slice ya l.length ycap) l sp W hO (HS.out.keep f (by simp)) (by omega))
    unfold UnP at HU1 HU2
    generalize unE l = e at *
    generalize unNd l = n at *
    go_enter Try.func9, Try.ntmps9
    go_upto_region 4 with (go_at_call 28; refine (HL.out _ (Frm.refl [] w)).mono ?_; rintro r w1 ⟨rfl, o1, f1⟩)
    go_upto_region 5 with (first
      | (go_at_call 47; refine (HU1.out _ _ _ o1.sl).mono ?_; rintro r w3 ⟨x3, rfl, ⟨As, rfl, hps⟩, f3⟩)
      | ((with_reducible (show wpList _ _ _ (Oper.mk _ (Op.alloc 51) _ _ _ _ :: _) _ _)); refine wpList_lay51 rfl rfl rfl (.tmp 4) (.tmp 17) rfl hps.1 hps.rows rfl rfl ?_))
    have hB4 : NB (w3.alloc (.cells (nc n.lv As).toArray 51)) w3.heap.size n.lv As := NB.new _ _ hps.1 hps.rows
    have hv4 : NdV (w3.alloc (.cells (nc n.lv As).toArray 51)) (.agg (nc n.lv As).toArray) n := ⟨As, rfl, hps.keep0 ((Frm.refl [] _).alloc _)⟩
    have hF := f3.alloc (.cells (nc n.lv As).toArray 51)
    generalize w3.alloc (.cells (nc n.lv As).toArray 51) = V at *
    have O4 := Lib.hid (o1.keep hF (by simp))
    have F4 := Lib.hid (f1.trans hF (by simp))
    have B4 := Lib.hid hB4
    have V4 := Lib.hid hv4
    clear hB4 hv4 hF f1 f3 o1 hps
    go_upto_region 6 with (first
      | (go_at_call 48; refine (HU2.out _ F4.out).mono ?_; rintro r w5 ⟨x5, rfl, ⟨Bs, rfl, hqs⟩, f5⟩)
      | ((with_reducible (show wpList _ _ _ (Oper.mk _ (Op.alloc 51) _ _ _ _ :: _) _ _)); refine wpList_lay51 rfl rfl rfl (.tmp 6) (.tmp 22) rfl hqs.1 hqs.rows rfl rfl ?_))
    have hB6 : NB (w5.alloc (.cells (nc n.lv Bs).toArray 51)) w5.heap.size n.lv Bs := NB.new _ _ hqs.1 hqs.rows
    have hv6 : NdV (w5.alloc (.cells (nc n.lv Bs).toArray 51)) (.agg (nc n.lv Bs).toArray) n := ⟨Bs, rfl, hqs.keep0 ((Frm.refl [] _).alloc _)⟩
    have hG := f5.alloc (.cells (nc n.lv Bs).toArray 51)
    generalize w5.alloc (.cells (nc n.lv Bs).toArray 51) = U at *
    have O6 := Lib.hid (O4.out.keep hG (by simp))
    have F6 := Lib.hid (F4.out.trans hG (by simp))
    have B46 := Lib.hid (B4.out.keep0 hG)
    have V46 := Lib.hid (V4.out.keep0 hG)
    have B6 := Lib.hid hB6
    have V6 := Lib.hid hv6
    clear hB6 hv6 hG f5 hqs O4 F4 B4 V4
    have fz := Lib.hid (Frm.refl [] U)
    go_wp2_with (first
      | ((with_reducible (show wpList _ _ _ (Oper.mk _ (Op.load 51 (.tmp 4)) _ _ _ _ :: _) _ _)); refine wpList_load_g (by rfl) 51 _ rfl _ rfl (B46.out.keep0 fz.out).all ?_)
      | ((with_reducible (show wpList _ _ _ (Oper.mk _ (Op.load 51 (.tmp 6)) _ _ _ _ :: _) _ _)); refine wpList_load_g (by rfl) 51 _ rfl _ rfl (B6.out.keep0 fz.out).all ?_)
      | (go_at_call 45; refine (HSN.out _ _ _ (V46.out.keep0 fz.out) (V6.out.keep0 fz.out)).mono ?_; rintro r wn ⟨rfl, fn⟩; replace fz := Lib.hid (fz.out.trans fn (by simp)); clear fn)
      | (go_at_call 31; refine (HK.out _ _ _ _ (O6.out.keep fz.out (by simp)) (F6.out.trans fz.out (by simp))).mono ?_; rintro r wn ⟨rfl, fn⟩; replace fz := Lib.hid (fz.out.trans fn (by simp)); clear fn)
      | (go_at_call 35; refine (nawake_any _).mono ?_; rintro r wn ⟨rfl, fn⟩; replace fz := Lib.hid (fz.out.trans fn (by simp)); clear fn))
    go_ret
    exact ⟨rfl, F6.out.trans fz.out (by simp)⟩
  · go_enter Try.func9, Try.ntmps9
    go_wp2_with (go_at_call 35; refine (nawake_any _).mono ?_; rintro r w1 ⟨rfl, f1⟩)
    go_ret
    exact ⟨rfl, f1⟩
end Go.Proofs.Ytjjcjocomanohaa
