/-
  Contract of awake of nodes. No conditions but those that each theorem names.
-/
import Derived.Test.YtjjcjocomanohaaNL
namespace Go.Proofs.Ytjjcjocomanohaa
open Go.RowKit
set_option linter.unusedVariables false
set_option linter.unusedSimpArgs false
set_option maxRecDepth 100000

def oneNd : Nd := ⟨1, List.replicate 4 zeroPt⟩
theorem one_node : nodeB oneNd = true := by decide
theorem one_chk : nchk oneNd = 0 := by decide
theorem one_empty : emptyB oneNd = true := by decide
theorem zero_nchk : nchk zeroNd = 2 := by decide
theorem one_pack : packB oneNd = (List.replicate 256 0).set 0 1 := by decide
theorem un_nil : unE [] = 4 := by decide
theorem unNd_nil : unNd [] = zeroNd := by rfl
theorem oneNd_v (W : World) : NdV W (.agg (nc 1 zAs).toArray) oneNd := ⟨zAs, rfl, ptsv_zero W⟩
theorem zero_ads : ∀ p ∈ List.replicate 4 zeroPt, p.ads.length ≤ 1000000 := fun p hp => by rw [List.eq_of_mem_replicate hp]; simp [zeroPt]
set_option maxHeartbeats 8000000 in
theorem nawake_any (w : World) : Calls Try.prog 35 #[] w (Yes w) := by
  have hP := Lib.hid (fun W => Pack_any _ oneNd W (oneNd_v W) zero_ads)
  unfold PackP at hP
  rw [one_chk, one_pack] at hP
  have h256 : ((List.replicate 256 (0 : UInt8)).set 0 1).length = 256 := by simp
  rw [h256] at hP
  generalize hz : (List.replicate 256 (0 : UInt8)).set 0 1 = z1 at hP h256
  have HEQ := Lib.hid (show (z1 == (List.replicate 256 0).set 0 1) = true by rw [hz]; simp)
  clear hz h256
  have hU := Lib.hid (fun W => Unpack_any (.slice none 0 0) [] [] W (SlB.nil W) (by simp))
  unfold UnP at hU
  rw [un_nil, unNd_nil] at hU
  have hE := Lib.hid (fun W => nodeEmpty_any _ oneNd W (oneNd_v W) zero_ads)
  rw [one_empty] at hE
  have hC := Lib.hid (fun W => nodeCheck_any _ zeroNd W (zeroNd_v W) zero_ads)
  rw [zero_nchk] at hC
  go_enter Try.func35, Try.ntmps35
  go_upto_region 2 with (first
    | ((with_reducible (show wpList _ _ _ (Oper.mk _ (Op.build 51 _) _ _ _ _ :: _) _ _)); refine wpList_val rfl (exec_bld51 (.const (.int .i64 1)) rfl rfl _) ?_)
    | (go_at_call 37; refine (hP.out _).mono ?_; rintro r w1 ⟨a1, c1, s1, rfl, o1, f1, n1⟩))
  go_upto_region 3 with ((with_reducible (show wpList _ _ _ (Oper.mk _ (Op.makeSlice 29 _ _) _ _ _ _ :: _) _ _)); refine wpList_make_g BT (by rfl) 256 (by omega) (.const (.int .i64 256)) (.const (.int .i64 256)) rfl rfl rfl rfl rfl ?_; intro w2 o2 f2)
  have q0 := o2.cell 0 (by simp)
  have r0 := o2.frozen 0
  have o3 := o2.store 0 (by simp) 1 (u := .int .u8 1) rfl
  have f3 : Frm [w1.heap.size] w1 (w2.setCell ⟨w1.heap.size, 0, none⟩ (.int .u8 1)) := (f2.mono (L' := [w1.heap.size]) (by simp)).setCell _ _ (by simp)
  unfold bv at q0
  go_upto_region 4 with (fail)
  generalize w2.setCell ⟨w1.heap.size, 0, none⟩ (.int .u8 1) = w3 at *
  have P1 := Lib.hid (o1.sl.keep f3 (fun i hi => by have := o1.lt i hi; simp; omega))
  have P3 := Lib.hid o3.sl
  have F3 := Lib.hid (f1.trans f3 (fun i hi => .inr (by have := f1.size; simp at hi; omega)))
  clear o1 o2 o3 f1 f2 f3 q0 r0 n1
  go_upto_region 5 with (first
    | (go_at_call 47; refine (hU.out _).mono ?_; rintro r w4 ⟨x4, rfl, ⟨As, rfl, hps⟩, f4⟩)
    | ((with_reducible (show wpList _ _ _ (Oper.mk _ (Op.alloc 51) _ _ _ _ :: _) _ _)); refine wpList_lay51 rfl rfl rfl (.tmp 4) (.tmp 16) rfl hps.1 hps.rows rfl rfl ?_))
  have F4 := Lib.hid (f4.alloc (.cells (nc zeroNd.lv As).toArray 51))
  generalize w4.alloc (.cells (nc zeroNd.lv As).toArray 51) = V at *
  have fz := Lib.hid (Frm.refl [] V)
  clear f4 hps
  go_wp2_with (first
    | (go_at_call 17; refine (SameBytes_any _ _ _ s1 _ _ _ (P1.out.keep (F4.out.trans fz.out (by simp)) (by simp)) (P3.out.keep (F4.out.trans fz.out (by simp)) (by simp))).mono ?_; rw [HEQ.out]; rintro r wn ⟨rfl, rfl⟩)
    | ((with_reducible (show wpList _ _ _ (Oper.mk (some 26) (Op.build 51 _) _ _ _ _ :: _) _ _)); refine wpList_val_g (by rfl) (exec_bld51 (.const (.int .i64 1)) rfl rfl _) ?_)
    | ((with_reducible (show wpList _ _ _ (Oper.mk (some 34) (Op.build 51 _) _ _ _ _ :: _) _ _)); refine wpList_val_g (by rfl) (exec_bld51z rfl _) ?_)
    | (go_at_call 41; refine (hE.out _).mono ?_; rintro r wn ⟨rfl, fn⟩; replace fz := Lib.hid (fz.out.trans fn (by simp)); clear fn)
    | (go_at_call 39; refine (hC.out _).mono ?_; rintro r wn ⟨rfl, fn⟩; replace fz := Lib.hid (fz.out.trans fn (by simp)); clear fn))
  go_ret
  exact ⟨rfl, F3.out.trans (F4.out.trans fz.out (by simp)) (by simp)⟩
end Go.Proofs.Ytjjcjocomanohaa
