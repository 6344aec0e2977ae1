/-
  Contract of one. No conditions but those that each theorem names.
-/
import Derived.Test.YtcnjjcnmjmcoiaaGreatDoorLI

namespace Go.Proofs.YtcnjjcnmjmcoiaaGreatDoor
open Go.RowKit
set_option linter.unusedVariables false
set_option linter.unusedSimpArgs false
set_option maxRecDepth 100000

/-- The pool 1 2 .. k, noughts behind. -/
def onePool (k : Nat) : List UInt8 := (List.range k).map (fun i => UInt8.ofNat (1 + i)) ++ List.replicate (32 - k) 0
def oneL : Lab := ⟨onePool 32, 1, 3, 2, 300, 7⟩
theorem onePool_len (k : Nat) (h : k ≤ 32) : (onePool k).length = 32 := by simp [onePool]; omega
theorem oneL_len : oneL.pool.length = 32 := onePool_len 32 (by omega)
theorem one_may : May oneL := mayB_iff.1 (by decide)
theorem onePool_set (k : Nat) (h : k < 32) : (onePool k).set k (UInt8.ofNat (1 + k)) = onePool (k + 1) := by
  unfold onePool
  rw [List.set_append_right _ _ (by simp), List.length_map, List.length_range, Nat.sub_self, show 32 - k = (32 - (k + 1)) + 1 by omega, List.replicate_succ, List.set_cons_zero, List.range_succ]
  simp
theorem LB.setByte {w : World} {g : Nat} {l : Lab} (h : LB w g l) (i : Nat) (hi : i < 32) (x : UInt8) {u : Value} (hu : u = bv x) : LB (w.setCell ⟨g, i, none⟩ u) g { l with pool := l.pool.set i x } := by
  subst hu
  have hb : (bvs l.pool).length = 32 := by rw [bvs_length, h.2]
  refine ⟨?_, by simp [h.2]⟩
  rw [heap_setCell_same _ h.1, List.setIfInBounds_toArray, lc, List.set_append_left _ _ (by omega)]
  simp only [lc, bvs, List.map_set]
theorem LB.byte {w : World} {g : Nat} {l : Lab} (h : LB w g l) (i : Nat) (hi : i < 32) : ∃ u, w.cell? ⟨g, i, none⟩ = some u := by
  rw [cell_of_heap h.1]
  have : i < (lc l).toArray.size := by rw [List.size_toArray, lc_length h.2]; omega
  exact ⟨_, Array.getElem?_eq_getElem this⟩
theorem bld28o (W : World) : (Instr.build 28 #[(1, .int .i64 1), (2, .int .i64 3), (3, .int .i64 2), (4, .int .i64 300), (5, .int .i64 7)]).run Tryz.prog W = .ok (lv ⟨onePool 0, 1, 3, 2, 300, 7⟩) W := by kernel_rfl
theorem exec_bld28o {o : Oper} {a : Act} (hop : o.op = Op.build 28 #[(1, .const (.int .i64 1)), (2, .const (.int .i64 3)), (3, .const (.int .i64 2)), (4, .const (.int .i64 300)), (5, .const (.int .i64 7))]) (W : World) : (execOp a.eval o).run Tryz.prog W = .ok (.value (lv ⟨onePool 0, 1, 3, 2, 300, 7⟩)) W := by
  have hb := bld28o W
  have hm : (#[((1 : Nat), Operand.const (.int .i64 1)), (2, .const (.int .i64 3)), (3, .const (.int .i64 2)), (4, .const (.int .i64 300)), (5, .const (.int .i64 7))].map fun ((i, x) : Nat × Operand) => (i, a.eval x)) = #[(1, .int .i64 1), (2, .int .i64 3), (3, .int .i64 2), (4, .int .i64 300), (5, .int .i64 7)] := by simp [go_sem]
  simp only [execOp, hop, hm, Sem.run_bind, Sem.run_pure, hb, Result.andThen_ok]
def OneRel (w0 : World) (R L : Nat) (c : Value) (wr : World) : Prop := ∃ k : Nat, k ≤ 32 ∧ c = .int .i64 k ∧ LB wr L ⟨onePool k, 1, 3, 2, 300, 7⟩ ∧ LB wr R zeroLab ∧ Frm [L] w0 wr
set_option maxHeartbeats 2000000 in
theorem one_any (w : World) : Calls Tryz.prog 17 #[] w fun r w' => r = .returned (lv oneL) ∧ Frm [] w w' := by
  have B0 := LB.new w zeroLab_len
  have f0 : Frm [] w (w.alloc (.cells (lc zeroLab).toArray 28)) := (Frm.refl [] w).alloc _
  have hol : (onePool 0).length = 32 := onePool_len 0 (by omega)
  go_enter Tryz.func17, Tryz.ntmps17
  go_upto_region 1 with ((with_reducible (show wpList _ _ _ (Oper.mk _ (Op.alloc 28) _ _ _ _ :: _) _ _)); refine wpList_val rfl (exec_alloc28 rfl _) ?_)
  generalize w.alloc (.cells (lc zeroLab).toArray 28) = W0 at *
  have f1 : Frm [] W0 (W0.alloc (.cells (lc ⟨onePool 0, 1, 3, 2, 300, 7⟩).toArray 28)) := (Frm.refl [] W0).alloc _
  have B1 : LB _ W0.heap.size ⟨onePool 0, 1, 3, 2, 300, 7⟩ := LB.new W0 hol
  have B01 := Lib.hid (B0.keep0 f1)
  have F1 := Lib.hid (f0.trans f1 (by simp))
  have ZR := Lib.hid (show w.heap.size < W0.heap.size from B0.lt)
  have B1h := Lib.hid B1
  clear B0 f0 f1 B1
  go_upto_region 3 with (first
    | ((with_reducible (show wpList _ _ _ (Oper.mk _ (Op.build 28 _) _ _ _ _ :: _) _ _)); refine wpList_val rfl (exec_bld28o rfl _) ?_)
    | ((with_reducible (show wpList _ _ _ (Oper.mk _ (Op.alloc 28) _ _ _ _ :: _) _ _)); refine wpList_lay28 rfl rfl rfl _ _ rfl (l := ⟨onePool 0, 1, 3, 2, 300, 7⟩) hol rfl rfl ?_))
  generalize W0.alloc (.cells (lc ⟨onePool 0, 1, 3, 2, 300, 7⟩).toArray 28) = W1 at *
  obtain ⟨L, hL⟩ : ∃ L, W0.heap.size = L := ⟨_, rfl⟩
  rw [hL] at B1h ZR ⊢
  clear hL
  obtain ⟨R, hR⟩ : ∃ R, w.heap.size = R := ⟨_, rfl⟩
  rw [hR] at B01 ZR ⊢
  have HR := Lib.hid hR
  clear hR
  go_loopw [2] (OneRel W1 R L) (fun c _ => 32 - (intOf c).toNat)
  case atStart => exact ⟨0, by omega, rfl, B1h.out, B01.out, Frm.refl _ _⟩
  case round =>
    obtain ⟨k, hk, rfl, hb, hz, f⟩ := hrel
    have HB := Lib.hid hb
    have HZ := Lib.hid hz
    have HF := Lib.hid f
    by_cases hlt : k < 32
    · obtain ⟨u, hu⟩ := hb.byte k hlt
      have hf := frozen_of_heap hb.at' k
      have hw : IntKind.u8.wrap (1 + (k : Int)) = 1 + k := by
        unfold IntKind.wrap
        simp [IntKind.bits, IntKind.signed]
        omega
      clear hb hz f
      go_wp2_with fail
      go_roundw
      case rel =>
        refine ⟨k + 1, by omega, by go_num, ?_, HZ.out.keep ((Frm.refl [L] wr).setCell _ _ (.inl (by simp))) (by have := ZR.out; simp; omega), HF.out.setCell _ _ (.inl (by simp))⟩
        have h := HB.out.setByte k hlt (UInt8.ofNat (1 + k)) (u := .int .u8 (1 + (k : Int))) (by simp [bv]; omega)
        simp only [onePool_set k hlt] at h
        exact h
      case measure => simp [intOf]; omega
    · obtain rfl : k = 32 := by omega
      have G := Lib.hid hb.gets.all
      clear hb hz f
      go_wp2_with (first
        | ((with_reducible (show wpList _ _ _ (Oper.mk _ (Op.load 28 _) _ _ _ _ :: _) _ _)); refine wpList_load_g (by rfl) 28 _ rfl _ rfl G.out ?_)
        | ((with_reducible (show wpList _ _ _ (Oper.mk _ (Op.store 28 _ _) _ _ _ _ :: _) _ _)); refine wpList_store28 rfl _ _ rfl HZ.out oneL_len rfl rfl ?_; intro W14 B14 F14))
      have e := HR.out
      refine bodyPost_ret (v := lv oneL) (results_cell_row rfl _ _ R 28 (lc oneL).toArray (0, 0) _ rfl B14.at' Tryz.underlying28 rfl (by rw [i28]; simp [lc_length oneL_len])) rfl ⟨rfl, ?_⟩
      exact (F1.out.trans HF.out (fun i hi => .inr (by have := ZR.out; simp at hi; omega))).trans F14 (fun i hi => .inr (by simp at hi; omega))
end Go.Proofs.YtcnjjcnmjmcoiaaGreatDoor
