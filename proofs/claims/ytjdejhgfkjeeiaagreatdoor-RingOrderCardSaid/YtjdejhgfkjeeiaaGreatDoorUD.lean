/-
  Contracts of Same, of the kit's SameUber, of the law's one. No conditions but those that each theorem names.
-/
import Derived.Test.YtjdejhgfkjeeiaaGreatDoorUC
namespace Go.Proofs.YtjdejhgfkjeeiaaGreatDoor
open Go.RowKit
set_option linter.unusedVariables false
set_option linter.unusedSimpArgs false
set_option maxRecDepth 100000

open Pt (Pt may enc readPt readE zeroPt pc pv PtV SlA OwnA)
set_option maxHeartbeats 2000000 in
theorem USame_any (x y : Value) (u v : Ub) (w : World) (hx : UbV w x u) (hy : UbV w y v) (hl : u.root.ads.length ≤ 1000000) : Calls Tryz.prog 21 #[x, y] w fun r w' => r = .returned (.bool (sameU u v)) ∧ Frm [] w w' := by
  obtain ⟨a, cap, sp, rfl, hS, hw⟩ := id hx
  obtain ⟨a2, cap2, sp2, rfl, hS2, hw2⟩ := id hy
  have hR := fun W (f : Frm [] w W) => Pt.Same_any _ _ u.root v.root W (hx.root.keep0 f) (hy.root.keep0 f) hl
  have b1 : UB ((w.alloc (.cells (uc (.slice a u.root.ads.length cap) u).toArray 28)).alloc (.cells (uc (.slice a2 v.root.ads.length cap2) v).toArray 28)) w.heap.size (.slice a u.root.ads.length cap) u := (UB.new w _ hw).keep0 ((Frm.refl [] _).alloc _)
  have b2 : UB ((w.alloc (.cells (uc (.slice a u.root.ads.length cap) u).toArray 28)).alloc (.cells (uc (.slice a2 v.root.ads.length cap2) v).toArray 28)) (w.heap.size + 1) (.slice a2 v.root.ads.length cap2) v := by
    have := UB.new (w.alloc (.cells (uc (.slice a u.root.ads.length cap) u).toArray 28)) (.slice a2 v.root.ads.length cap2) hw2
    simpa using this
  have f0 : Frm [] w ((w.alloc (.cells (uc (.slice a u.root.ads.length cap) u).toArray 28)).alloc (.cells (uc (.slice a2 v.root.ads.length cap2) v).toArray 28)) := ((Frm.refl [] w).alloc _).alloc _
  have HQ := Lib.hid (show sameU u v = (u.txg == v.txg && (Pt.same u.root v.root && (u.len == v.len && u.pool == v.pool))) from rfl)
  have HR := Lib.hid hR
  have B1 := Lib.hid b1
  have B2 := Lib.hid b2
  have P1 := Lib.hid hw.pool
  have P2 := Lib.hid hw2.pool
  have g1 := b1.gets
  have g2 := b2.gets
  have c0 := g1.c0
  have d0 := g2.c0
  have R1 := Lib.hid g1.root
  have R2 := Lib.hid g2.root
  clear hR b1 b2 hx hy hS hS2 hw hw2 g1 g2
  rw [uv_box, uv_box]
  generalize hA : (uc (.slice a u.root.ads.length cap) u).toArray = A at *
  generalize hB : (uc (.slice a2 v.root.ads.length cap2) v).toArray = B at *
  generalize hq : Pt.same u.root v.root = q at *
  generalize hp : (u.pool == v.pool) = p at *
  have HP := Lib.hid hp
  go_enter Tryz.func21, Tryz.ntmps21
  go_upto_region 1 with fail
  generalize (w.alloc (.cells A 28)).alloc (.cells B 28) = W at *
  have F0 := Lib.hid f0
  clear f0 hA hB hq hp
  go_wp2_with (first
    | ((with_reducible (show wpList _ _ _ (Oper.mk (some 12) (Op.load 26 _) _ _ _ _ :: _) _ _)); refine wpList_load_g (by rfl) 26 _ rfl _ rfl R1.out ?_)
    | ((with_reducible (show wpList _ _ _ (Oper.mk (some 14) (Op.load 26 _) _ _ _ _ :: _) _ _)); refine wpList_load_g (by rfl) 26 _ rfl _ rfl R2.out ?_)
    | ((with_reducible (show wpList _ _ _ (Oper.mk (some 26) (Op.load 24 _) _ _ _ _ :: _) _ _)); refine wpList_load_g (by rfl) 24 _ rfl _ rfl L1.out ?_)
    | ((with_reducible (show wpList _ _ _ (Oper.mk (some 28) (Op.load 24 _) _ _ _ _ :: _) _ _)); refine wpList_load_g (by rfl) 24 _ rfl _ rfl L2.out ?_)
    | ((with_reducible (show wpList _ _ _ (Oper.mk (some 29) _ _ _ _ _ :: _) _ _)); refine wpList_eq24 (by rfl) _ _ rfl rfl rfl P1.out P2.out HP.out ?_)
    | (go_at_call 60; refine (HR.out _ F0.out).mono ?_; rintro r w1 ⟨rfl, f1⟩; have F1 := Lib.hid (F0.out.trans f1 (by simp)); have g1 := (B1.out.keep0 f1).gets; have g2 := (B2.out.keep0 f1).gets; have e36 := g1.c36; have k36 := g2.c36; have L1 := Lib.hid g1.pool; have L2 := Lib.hid g2.pool; clear g1 g2 f1))
  all_goals
    go_ret
    first
      | refine ⟨ret_bool ?_, F1.out⟩
      | refine ⟨ret_bool ?_, F0.out⟩
    rw [HQ.out]
    simp_all
set_option maxHeartbeats 2000000 in
theorem SameUber_any (x y : Value) (u v : Ub) (w : World) (hx : UbV w x u) (hy : UbV w y v) (hl : u.root.ads.length ≤ 1000000) : Calls Tryz.prog 24 #[x, y] w fun r w' => r = .returned (.bool (sameU u v)) ∧ Frm [] w w' := by
  obtain ⟨a, cap, sp, rfl, hS, hw⟩ := id hx
  obtain ⟨a2, cap2, sp2, rfl, hS2, hw2⟩ := id hy
  have hR := fun W (f : Frm [] w W) => Pt.SamePointer_any _ _ u.root v.root W (hx.root.keep0 f) (hy.root.keep0 f) hl
  have b1 : UB ((w.alloc (.cells (uc (.slice a u.root.ads.length cap) u).toArray 28)).alloc (.cells (uc (.slice a2 v.root.ads.length cap2) v).toArray 28)) w.heap.size (.slice a u.root.ads.length cap) u := (UB.new w _ hw).keep0 ((Frm.refl [] _).alloc _)
  have b2 : UB ((w.alloc (.cells (uc (.slice a u.root.ads.length cap) u).toArray 28)).alloc (.cells (uc (.slice a2 v.root.ads.length cap2) v).toArray 28)) (w.heap.size + 1) (.slice a2 v.root.ads.length cap2) v := by
    have := UB.new (w.alloc (.cells (uc (.slice a u.root.ads.length cap) u).toArray 28)) (.slice a2 v.root.ads.length cap2) hw2
    simpa using this
  have f0 : Frm [] w ((w.alloc (.cells (uc (.slice a u.root.ads.length cap) u).toArray 28)).alloc (.cells (uc (.slice a2 v.root.ads.length cap2) v).toArray 28)) := ((Frm.refl [] w).alloc _).alloc _
  have HQ := Lib.hid (show sameU u v = (u.txg == v.txg && (Pt.same u.root v.root && (u.len == v.len && u.pool == v.pool))) from rfl)
  have HR := Lib.hid hR
  have B1 := Lib.hid b1
  have B2 := Lib.hid b2
  have P1 := Lib.hid hw.pool
  have P2 := Lib.hid hw2.pool
  have g1 := b1.gets
  have g2 := b2.gets
  have c0 := g1.c0
  have d0 := g2.c0
  have R1 := Lib.hid g1.root
  have E1 := Lib.hid g1.c36
  have E2 := Lib.hid g2.c36
  have L1 := Lib.hid g1.pool
  have L2 := Lib.hid g2.pool
  have R2 := Lib.hid g2.root
  clear hR b1 b2 hx hy hS hS2 hw hw2 g1 g2
  rw [uv_box, uv_box]
  generalize hA : (uc (.slice a u.root.ads.length cap) u).toArray = A at *
  generalize hB : (uc (.slice a2 v.root.ads.length cap2) v).toArray = B at *
  generalize hq : Pt.same u.root v.root = q at *
  generalize hp : (u.pool == v.pool) = p at *
  have HP := Lib.hid hp
  go_enter Tryz.func24, Tryz.ntmps24
  go_upto_region 1 with fail
  generalize (w.alloc (.cells A 28)).alloc (.cells B 28) = W at *
  have F0 := Lib.hid f0
  clear f0 hA hB hq hp
  have e36 := E1.out
  have k36 := E2.out
  go_wp2_with (first
    | ((with_reducible (show wpList _ _ _ (Oper.mk (some 26) (Op.load 26 _) _ _ _ _ :: _) _ _)); refine wpList_load_g (by rfl) 26 _ rfl _ rfl R1.out ?_)
    | ((with_reducible (show wpList _ _ _ (Oper.mk (some 28) (Op.load 26 _) _ _ _ _ :: _) _ _)); refine wpList_load_g (by rfl) 26 _ rfl _ rfl R2.out ?_)
    | ((with_reducible (show wpList _ _ _ (Oper.mk (some 19) (Op.load 24 _) _ _ _ _ :: _) _ _)); refine wpList_load_g (by rfl) 24 _ rfl _ rfl L1.out ?_)
    | ((with_reducible (show wpList _ _ _ (Oper.mk (some 21) (Op.load 24 _) _ _ _ _ :: _) _ _)); refine wpList_load_g (by rfl) 24 _ rfl _ rfl L2.out ?_)
    | ((with_reducible (show wpList _ _ _ (Oper.mk (some 22) _ _ _ _ _ :: _) _ _)); refine wpList_eq24 (by rfl) _ _ rfl rfl rfl P1.out P2.out HP.out ?_)
    | (go_at_call 62; refine (HR.out _ F0.out).mono ?_; rintro r w1 ⟨rfl, f1⟩; have F1 := Lib.hid (F0.out.trans f1 (by simp)); clear f1))
  all_goals
    go_ret
    first
      | refine ⟨ret_bool ?_, F1.out⟩
      | refine ⟨ret_bool ?_, F0.out⟩
    rw [HQ.out]
    simp_all
/-- The chapter's uberblock. -/
def oneU : Ub := ⟨258, zeroPt, 300, List.replicate 32 0⟩
theorem oneU_wf : WfU oneU := ⟨rfl, rfl⟩
theorem oneU_may : MayU oneU := by rw [← mayUB_iff]; decide
theorem oneU_v (w : World) : UbV w (uv nilS oneU) oneU := ⟨none, 0, [], rfl, Pt.SlA.nil w, oneU_wf⟩
theorem bld_one (W : World) : (Instr.build 28 #[(0, .int .i64 258), (2, .int .i64 300)]).run Tryz.prog W = .ok (uv nilS oneU) W := by kernel_rfl
theorem exec_bld_one {o : Oper} {a : Act} (hop : o.op = Op.build 28 #[(0, .const (.int .i64 258)), (2, .const (.int .i64 300))]) (W : World) : (execOp a.eval o).run Tryz.prog W = .ok (.value (uv nilS oneU)) W := by
  have hb := bld_one W
  simp only [execOp, hop, List.map_toArray, List.map_cons, List.map_nil, Act.eval, Sem.run_bind, Sem.run_pure, hb, Result.andThen_ok]
theorem One_any (w : World) : Calls Tryz.prog 30 #[] w fun r w' => r = .returned (uv nilS oneU) ∧ Frm [] w w' := by
  go_enter Tryz.func30, Tryz.ntmps30
  have B0 := UB.new w nilS zeroU_wf
  have f0 : Frm [] w (w.alloc (.cells (uc nilS zeroU).toArray 28)) := (Frm.refl [] w).alloc _
  go_wp2_with (first
    | ((with_reducible (show wpList _ _ _ (Oper.mk _ (Op.alloc 28) _ _ _ _ :: _) _ _)); refine wpList_val rfl (exec_alloc28 rfl _) ?_)
    | ((with_reducible (show wpList _ _ _ (Oper.mk _ (Op.build 28 _) _ _ _ _ :: _) _ _)); refine wpList_val rfl (exec_bld_one rfl _) ?_)
    | ((with_reducible (show wpList _ _ _ (Oper.mk _ (Op.store 28 _ _) _ _ _ _ :: _) _ _)); refine wpList_store28 rfl _ _ rfl rfl B0 oneU_wf rfl rfl ?_; intro V B1 F1))
  exact bodyPost_ret (results_cell_row rfl _ _ w.heap.size 28 (uc nilS oneU).toArray (0, 0) _ rfl B1.at' Tryz.underlying28 rfl (by rw [i28]; simp [uc_length oneU_wf])) rfl ⟨rfl, f0.trans F1 (fun i hi => .inr (by simp at hi; omega))⟩
end Go.Proofs.YtjdejhgfkjeeiaaGreatDoor
