/-
  Contract of NodeKnown. No conditions but those that each theorem names.
-/
import Derived.Test.YtjjcjocomanohaaNM
namespace Go.Proofs.Ytjjcjocomanohaa
open Go.RowKit
set_option linter.unusedVariables false
set_option linter.unusedSimpArgs false
set_option maxRecDepth 100000

theorem bld01 (a : Option Addr) (n c : Nat) (x : Int) (W : World) : (Instr.build 26 #[(0, .slice a n c), (1, .int .i64 x)]).run Try.prog W = .ok (pv (.slice a n c) x 0 zs) W := by kernel_rfl
theorem exec_bld01 {o : Oper} {ac : Act} {a : Option Addr} {n c : Nat} {x : Int} (r s : Operand) (hop : o.op = Op.build 26 #[(0, r), (1, s)]) (h0 : ac.eval r = .slice a n c) (h1 : ac.eval s = .int .i64 x) (W : World) : (execOp ac.eval o).run Try.prog W = .ok (.value (pv (.slice a n c) x 0 zs)) W := by
  have hb := bld01 a n c x W
  have hm : (#[(0, r), (1, s)].map fun ((i, x) : Nat × Operand) => (i, ac.eval x)) = #[(0, .slice a n c), (1, .int .i64 x)] := by simp [h0, h1]
  simp only [execOp, hop, hm, Sem.run_bind, Sem.run_pure, hb, Result.andThen_ok]
def pt5 : Pt := ⟨[(0, 5)], 1, 0, zs⟩
def twoNd : Nd := ⟨2, (List.replicate 4 zeroPt).set 0 pt5⟩
def fourNd : Nd := ⟨4, List.replicate 4 zeroPt⟩
theorem two_chk : nchk twoNd = 2 := by decide
theorem two_empty : emptyB twoNd = false := by decide
theorem four_chk : nchk fourNd = 2 := by decide
theorem un_zero : goodN (List.replicate 256 0) = false := by decide
theorem unE_zero : unE (List.replicate 256 0) = 2 := by rw [unE, un_zero]; rfl
theorem unNd_zero : unNd (List.replicate 256 0) = zeroNd := by rw [unNd, un_zero]; rfl
theorem set_four : setOk oneNd 4 zeroPt = false := by decide
theorem two_ads : ∀ p ∈ twoNd.ps, p.ads.length ≤ 1000000 := by decide
theorem four_v (W : World) : NdV W (.agg (nc 4 zAs).toArray) fourNd := ⟨zAs, rfl, ptsv_zero W⟩
set_option maxHeartbeats 8000000 in
theorem nknown_any (w : World) : Calls Try.prog 10 #[] w (Yes w) := by
  have hU := Lib.hid (fun W v sp (h : SlB W v (List.replicate 256 0) sp) => Unpack_any v (List.replicate 256 0) sp W h (by simp))
  unfold UnP at hU
  rw [unE_zero, unNd_zero] at hU
  have hS := Lib.hid (fun W => Set_any _ oneNd 4 _ zeroPt W (oneNd_v W) zero_ads (ptv_zero W) (by simp [zeroPt]))
  unfold SetP at hS
  rw [show setE oneNd 4 zeroPt = 2 by rw [setE, set_four]; rfl, show setNd oneNd 4 zeroPt = zeroNd by rw [setNd, set_four]; rfl] at hS
  have hC4 := Lib.hid (fun W => nodeCheck_any _ fourNd W (four_v W) zero_ads)
  rw [four_chk] at hC4
  have hC2 := Lib.hid (fun W x (h : NdV W x twoNd) => nodeCheck_any x twoNd W h two_ads)
  rw [two_chk] at hC2
  have hE2 := Lib.hid (fun W x (h : NdV W x twoNd) => nodeEmpty_any x twoNd W h two_ads)
  rw [two_empty] at hE2
  have hB0 : NB (w.alloc (.cells (nc 2 zAs).toArray 51)) w.heap.size 2 zAs := NB.new w 2 zAs_len zAs_rows
  have f0 : Frm [] w (w.alloc (.cells (nc 2 zAs).toArray 51)) := (Frm.refl [] w).alloc _
  go_enter Try.func10, Try.ntmps10
  go_upto_region 2 with (first
    | ((with_reducible (show wpList _ _ _ (Oper.mk _ (Op.build 51 _) _ _ _ _ :: _) _ _)); refine wpList_val rfl (exec_bld51 (.const (.int .i64 2)) rfl rfl _) ?_)
    | ((with_reducible (show wpList _ _ _ (Oper.mk _ (Op.alloc 51) _ _ _ _ :: _) _ _)); refine wpList_lay51 rfl rfl rfl (.tmp 1) (.tmp 6) rfl zAs_len zAs_rows rfl rfl ?_))
  generalize w.alloc (.cells (nc 2 zAs).toArray 51) = W at *
  generalize hgg : w.heap.size = g at *
  have HGG := Lib.hid hgg
  clear hgg
  have B0 := Lib.hid hB0
  have F0 := Lib.hid f0
  clear hB0 f0
  have oA : OwnA 46 (W.alloc (.cells #[.int .i64 0, .int .i64 5] 46)) (.slice (some ⟨W.heap.size, 0, none⟩) 1 1) [(0, 5)] [] := OwnA.of_heap (by rw [heap_alloc_new]; rfl) rfl rfl (by simp [maxLen])
  have fA : Frm [] W (W.alloc (.cells #[.int .i64 0, .int .i64 5] 46)) := (Frm.refl [] W).alloc _
  have hgl := B0.out.lt
  have TH := Lib.hid ((B0.out.keep0 fA).there (i := 0) (by omega))
  have hsz : (pc (.slice (some ⟨W.heap.size, 0, none⟩) 1 1) 1 0 zs).toArray.size = 35 := by rw [pc_size]; rfl
  have HSZ := Lib.hid hsz
  have hNB := (B0.out.keep0 fA).set (i := 0) (by omega) (pc (.slice (some ⟨W.heap.size, 0, none⟩) 1 1) 1 0 zs).toArray hsz (pc_one _ _ _)
  have fs : Frm [g] (W.alloc (.cells #[.int .i64 0, .int .i64 5] 46)) ((W.alloc (.cells #[.int .i64 0, .int .i64 5] 46)).setCells g (1 + 0 * 35) (pc (.slice (some ⟨W.heap.size, 0, none⟩) 1 1) 1 0 zs).toArray.toList) := Frm.setCells _ _ _ (Frm.refl _ _) (.inl (by simp))
  have hP5 : PtV (W.alloc (.cells #[.int .i64 0, .int .i64 5] 46)) (.agg (pc (.slice (some ⟨W.heap.size, 0, none⟩) 1 1) 1 0 zs).toArray) pt5 := oA.ptv zs_len
  have hPS := ((ptsv_zero (W.alloc (.cells #[.int .i64 0, .int .i64 5] 46))).set (i := 0) hP5).keep fs (fun A hA i hi h => by
    rcases List.mem_or_eq_of_mem_set hA with h2 | h2
    · rw [List.eq_of_mem_replicate h2] at hi; simp [zA, ptBlk, pc, blk] at hi
    · subst h2; rw [show ptBlk (.agg (pc (.slice (some ⟨W.heap.size, 0, none⟩) 1 1) 1 0 zs).toArray) = blk (.slice (some ⟨W.heap.size, 0, none⟩) 1 1) from ptBlk_pv _ _ _ _] at hi; simp [blk] at hi h; omega)
  go_upto_region 3 with (first
    | ((with_reducible (show wpList _ _ _ (Oper.mk _ (Op.build 26 _) _ _ _ _ :: _) _ _)); refine wpList_val rfl (exec_bld01 (.tmp 8) (.const (.int .i64 1)) rfl rfl rfl _) ?_)
    | ((with_reducible (show wpList _ _ _ (Oper.mk _ (Op.store 26 _ _) _ _ _ _ :: _) _ _)); refine wpList_store_mid rfl 26 (.tmp 11) (.tmp 9) rfl g 1 (pc (.slice (some ⟨W.heap.size, 0, none⟩) 1 1) 1 0 zs).toArray rfl rfl (by rw [HSZ.out]; exact TH.out) (by rw [i26, HSZ.out]) (pc_one _ _ _) ?_))
  have FV := Lib.hid ((F0.out.trans fA (by simp)).trans fs (fun i hi => .inr (by have := HGG.out; simp at hi; omega)))
  change NB ((W.alloc (.cells #[.int .i64 0, .int .i64 5] 46)).setCells g 1 (pc (.slice (some ⟨W.heap.size, 0, none⟩) 1 1) 1 0 zs).toArray.toList) _ _ _ at hNB
  change PtsV ((W.alloc (.cells #[.int .i64 0, .int .i64 5] 46)).setCells g 1 (pc (.slice (some ⟨W.heap.size, 0, none⟩) 1 1) 1 0 zs).toArray.toList) _ _ at hPS
  change Hid (Frm [] w ((W.alloc (.cells #[.int .i64 0, .int .i64 5] 46)).setCells g 1 (pc (.slice (some ⟨W.heap.size, 0, none⟩) 1 1) 1 0 zs).toArray.toList)) at FV
  clear fs hP5 oA fA TH hsz HSZ B0 F0
  generalize (W.alloc (.cells #[.int .i64 0, .int .i64 5] 46)).setCells g 1 (pc (.slice (some ⟨W.heap.size, 0, none⟩) 1 1) 1 0 zs).toArray.toList = V at *
  generalize (pc (.slice (some ⟨W.heap.size, 0, none⟩) 1 1) 1 0 zs).toArray = A5 at *
  have hv : NdV V (.agg (nc 2 (zAs.set 0 A5)).toArray) twoNd := ⟨_, rfl, hPS⟩
  have HV := Lib.hid hv
  have HNB := Lib.hid hNB
  clear hv hNB hPS
  have fz := Lib.hid (Frm.refl [] V)
  go_upto_region 4 with (first
    | ((with_reducible (show wpList _ _ _ (Oper.mk _ (Op.makeSlice 29 _ _) _ _ _ _ :: _) _ _)); refine wpList_make_g BT (by rfl) 256 (by omega) (.const (.int .i64 256)) (.const (.int .i64 256)) rfl rfl rfl rfl rfl ?_; intro w2 o2 f2)
    | (go_at_call 47; refine (hU.out _ _ _ o2.sl).mono ?_; rintro r w4 ⟨x4, rfl, ⟨As, rfl, hps⟩, f4⟩)
    | ((with_reducible (show wpList _ _ _ (Oper.mk _ (Op.alloc 51) _ _ _ _ :: _) _ _)); refine wpList_lay51 rfl rfl rfl (.tmp 2) (.tmp 15) rfl hps.1 hps.rows rfl rfl ?_))
  have F4 := Lib.hid (f2.trans (f4.alloc (.cells (nc zeroNd.lv As).toArray 51)) (by simp))
  generalize w4.alloc (.cells (nc zeroNd.lv As).toArray 51) = V4 at *
  clear f2 f4 o2 hps
  go_upto_region 5 with (first
    | ((with_reducible (show wpList _ _ _ (Oper.mk _ (Op.build 51 _) _ _ _ _ :: _) _ _)); refine wpList_val rfl (exec_bld51 (.const (.int .i64 1)) rfl rfl _) ?_)
    | ((with_reducible (show wpList _ _ _ (Oper.mk _ (Op.build 26 _) _ _ _ _ :: _) _ _)); refine wpList_val_g (by rfl) (exec_bld0 rfl _) ?_)
    | (go_at_call 43; refine (hS.out _).mono ?_; rintro r w6 ⟨x6, rfl, ⟨Bs, rfl, hps, -⟩, f6⟩)
    | ((with_reducible (show wpList _ _ _ (Oper.mk _ (Op.alloc 51) _ _ _ _ :: _) _ _)); refine wpList_lay51 rfl rfl rfl (.tmp 4) (.tmp 21) rfl hps.1 hps.rows rfl rfl ?_))
  have F6 := Lib.hid (F4.out.trans (f6.alloc (.cells (nc zeroNd.lv Bs).toArray 51)) (by simp))
  generalize w6.alloc (.cells (nc zeroNd.lv Bs).toArray 51) = V6 at *
  clear f6 hps fz
  have fz := Lib.hid (Frm.refl [] V6)
  go_wp2_with (first
    | (go_at_call 35; refine (nawake_any _).mono ?_; rintro r wn ⟨rfl, fn⟩; replace fz := Lib.hid (fz.out.trans fn (by simp)); clear fn)
    | ((with_reducible (show wpList _ _ _ (Oper.mk _ (Op.load 51 _) _ _ _ _ :: _) _ _)); refine wpList_load_g (by rfl) 51 _ rfl _ rfl (HNB.out.keep0 (F6.out.trans fz.out (by simp))).all ?_)
    | ((with_reducible (show wpList _ _ _ (Oper.mk _ (Op.build 51 _) _ _ _ _ :: _) _ _)); refine wpList_val_g (by rfl) (exec_bld51 (.const (.int .i64 4)) rfl rfl _) ?_)
    | (go_at_call 39; (first | with_reducible refine (hC4.out _).mono ?_ | with_reducible refine (hC2.out _ _ (HV.out.keep0 (F6.out.trans fz.out (by simp)))).mono ?_); rintro r wn ⟨rfl, fn⟩; replace fz := Lib.hid (fz.out.trans fn (by simp)); clear fn)
    | (go_at_call 41; refine (hE2.out _ _ (HV.out.keep0 (F6.out.trans fz.out (by simp)))).mono ?_; rintro r wn ⟨rfl, fn⟩; replace fz := Lib.hid (fz.out.trans fn (by simp)); clear fn))
  go_ret
  exact ⟨rfl, FV.out.trans (F6.out.trans fz.out (by simp)) (by simp)⟩
end Go.Proofs.Ytjjcjocomanohaa
