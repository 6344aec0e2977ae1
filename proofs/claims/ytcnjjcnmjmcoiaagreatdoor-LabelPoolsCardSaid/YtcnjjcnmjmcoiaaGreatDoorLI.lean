/-
  Contract of Unpack. No conditions but those that each theorem names.
-/
import Derived.Test.YtcnjjcnmjmcoiaaGreatDoorLH

namespace Go.Proofs.YtcnjjcnmjmcoiaaGreatDoor
open Go.RowKit
set_option linter.unusedVariables false
set_option linter.unusedSimpArgs false
set_option maxRecDepth 100000

/-- What Unpack tells. -/
def UnpP (w : World) (b : List UInt8) (r : Ending) (w' : World) : Prop := r = .returned (.tuple #[lv (unp b).1, .int .i64 (unp b).2]) ∧ Frm [] w w'
theorem exec_bld {o : Oper} {a : Act} (hop : o.op = Op.build 28 #[]) (W : World) : (execOp a.eval o).run Tryz.prog W = .ok (.value (lv zeroLab)) W := exec_bld28z hop W
/-- The results of Unpack. -/
theorem unp_ret {fn : Func} (hf : fn.results = #[.cell 2 28, .tmp 3]) {l : Lab} {e : Int} {R : Nat} {W : World} {tmps : Array Value} (h : LB W R l) (h2 : tmps.getD 2 undef = .pointer (some ⟨R, 0, none⟩)) (h3 : tmps.getD 3 undef = .int .i64 e) :
    (results fn tmps).run Tryz.prog W = .ok (.tuple #[lv l, .int .i64 e]) W := results_cell_slot hf tmps W h2 h3 h.var
set_option maxHeartbeats 2000000 in
theorem Unpack_len (v : Value) (b sp : List UInt8) (w : World) (hS : SlB w v b sp) (hb : b.length ≤ 1000000) (hne : b.length ≠ 256) : Calls Tryz.prog 10 #[v] w (UnpP w b) := by
  obtain ⟨a0, c0, rfl, _, _⟩ := hS.form
  have B0 := LB.new w zeroLab_len
  have f0 : Frm [] w (w.alloc (.cells (lc zeroLab).toArray 28)) := (Frm.refl [] w).alloc _
  have hu : unp b = (zeroLab, 4) := by unfold unp; rw [if_pos hne]
  have HU := Lib.hid hu
  have hd : ((b.length : Int) != 256) = true := by simp; omega
  clear hS hu hne
  go_enter Tryz.func10, Tryz.ntmps10
  go_upto_region 1 with ((with_reducible (show wpList _ _ _ (Oper.mk _ (Op.alloc 28) _ _ _ _ :: _) _ _)); refine wpList_val rfl (exec_alloc28 rfl _) ?_)
  have B0h := Lib.hid B0
  have F0 := Lib.hid f0
  clear B0 f0
  generalize w.alloc (.cells (lc zeroLab).toArray 28) = W0 at *
  obtain ⟨R, hR⟩ : ∃ R, w.heap.size = R := ⟨_, rfl⟩
  rw [hR] at B0h ⊢
  have HRe := Lib.hid hR
  clear hR
  go_wp2_with (first
    | ((with_reducible (show wpList _ _ _ (Oper.mk _ (Op.build 28 _) _ _ _ _ :: _) _ _)); refine wpList_val rfl (exec_bld28z rfl _) ?_)
    | ((with_reducible (show wpList _ _ _ (Oper.mk _ (Op.store 28 _ _) _ _ _ _ :: _) _ _)); refine wpList_store28 rfl _ _ rfl B0h.out zeroLab_len rfl rfl ?_; intro W1 B1 F1))
  have e := HRe.out
  exact bodyPost_ret (v := .tuple #[lv zeroLab, .int .i64 4]) (unp_ret rfl B1 rfl rfl) rfl ⟨by rw [HU.out], F0.out.trans F1 (fun i hi => .inr (by simp at hi; omega))⟩
theorem unp_zero {b : List UInt8} (hb : b.length = 256) (h : b.count 0 = 256) : unp b = (zeroLab, 6) := by
  have h1 : b = List.replicate 256 0 := by
    have := (count_zeros b).1 (by omega)
    rw [hb] at this
    exact this
  unfold unp
  rw [if_neg (by omega), if_pos h1]
theorem unp_rest {b : List UInt8} (hb : b.length = 256) (h : b.count 0 ≠ 256) : unp b = if mayB (parse b) = true ∧ packL (parse b) = b then (parse b, 0) else (zeroLab, 11) := by
  have h1 : ¬ b = List.replicate 256 0 := fun e => h (by rw [e]; exact List.count_replicate_self)
  unfold unp
  rw [if_neg (by omega), if_neg h1]
set_option maxHeartbeats 2000000 in
theorem Unpack_full (v : Value) (b sp : List UInt8) (w : World) (hS : SlB w v b sp) (hb : b.length = 256) (hG : Hs.Glob w) : Calls Tryz.prog 10 #[v] w (UnpP w b) := by
  have hform := hS.form
  rw [hb] at hform
  obtain ⟨a0, c0, rfl, _, _⟩ := hform
  have B0 := LB.new w zeroLab_len
  have f0 : Frm [] w (w.alloc (.cells (lc zeroLab).toArray 28)) := (Frm.refl [] w).alloc _
  have HS0 := Lib.hid (hS.keep f0 (by simp))
  have HG := Lib.hid hG
  have HB := Lib.hid hb
  clear hS hG hb
  go_enter Tryz.func10, Tryz.ntmps10
  go_upto_region 1 with ((with_reducible (show wpList _ _ _ (Oper.mk _ (Op.alloc 28) _ _ _ _ :: _) _ _)); refine wpList_val rfl (exec_alloc28 rfl _) ?_)
  have B0h := Lib.hid B0
  have F0 := Lib.hid f0
  clear B0 f0
  generalize w.alloc (.cells (lc zeroLab).toArray 28) = W0 at *
  obtain ⟨R, hR⟩ : ∃ R, w.heap.size = R := ⟨_, rfl⟩
  rw [hR] at B0h ⊢
  have HRe := Lib.hid hR
  clear hR
  have fz : Frm [] W0 (W0.alloc (.cells #[.int .u8 0] 5)) := (Frm.refl [] W0).alloc _
  have HC := Lib.hid (Count_any _ W0.heap.size b sp _ (HS0.out.keep fz (by simp)) (by rw [cell_of_heap (heap_alloc_new _ _)]; rfl))
  have FZ := Lib.hid fz
  have B1h := Lib.hid (B0h.out.keep0 fz)
  clear fz
  by_cases hz : b.count 0 = 256
  · have HU := Lib.hid (unp_zero HB.out hz)
    rw [hz] at HC
    clear hz
    go_wp2_with (first
      | (go_at_call 22; refine HC.out.mono ?_; rintro r w' ⟨rfl, rfl⟩)
      | ((with_reducible (show wpList _ _ _ (Oper.mk _ (Op.build 28 _) _ _ _ _ :: _) _ _)); refine wpList_val rfl (exec_bld28z rfl _) ?_)
      | ((with_reducible (show wpList _ _ _ (Oper.mk _ (Op.store 28 _ _) _ _ _ _ :: _) _ _)); refine wpList_store28 rfl _ _ rfl B1h.out zeroLab_len rfl rfl ?_; intro W1 B1 F1))
    have e := HRe.out
    exact bodyPost_ret (v := .tuple #[lv zeroLab, .int .i64 6]) (unp_ret rfl B1 rfl rfl) rfl ⟨by rw [HU.out], (F0.out.trans FZ.out (by simp)).trans F1 (fun i hi => .inr (by simp at hi; omega))⟩
  · have HU := Lib.hid (unp_rest HB.out hz)
    have hzd : (((b.count 0 : Nat) : Int) == 256) = false := by simp; omega
    clear hz
    have hpp : (parse b).pool.length = 32 := parse_pool HB.out
    have HF := Lib.hid (fields_any _ b sp _ ((HS0.out.keep FZ.out (by simp))) HB.out)
    go_upto_region 6 with (first
      | (go_at_call 22; refine HC.out.mono ?_; rintro r w' ⟨rfl, rfl⟩)
      | ((with_reducible (show wpList _ _ _ (Oper.mk _ (Op.alloc 28) _ _ _ _ :: _) _ _)); refine wpList_lay28 rfl rfl rfl _ _ rfl (l := parse b) hpp rfl rfl ?_)
      | (go_at_call 23; refine HF.out.mono ?_; rintro r W2 ⟨rfl, f2⟩))
    have f3 : Frm [] W2 (W2.alloc (.cells (lc (parse b)).toArray 28)) := (Frm.refl [] W2).alloc _
    have BL := Lib.hid (LB.new W2 hpp)
    have F3 := Lib.hid ((FZ.out.trans f2 (by simp)).trans f3 (by simp))
    have B3 := Lib.hid (B1h.out.keep0 (f2.trans f3 (by simp)))
    clear f2 f3 HF HC B1h FZ hzd
    generalize W2.alloc (.cells (lc (parse b)).toArray 28) = W3 at *
    generalize W2.heap.size = L at *
    have G3 := Lib.hid BL.out.gets.all
    have HPk := Lib.hid (Pack_any (parse b) hpp W3 (HG.out.keep (F0.out.trans F3.out (by simp)) (by simp)))
    go_upto_region 7 with (first
      | ((with_reducible (show wpList _ _ _ (Oper.mk _ (Op.load 28 _) _ _ _ _ :: _) _ _)); refine wpList_load_g (by rfl) 28 _ rfl _ rfl G3.out ?_)
      | (go_at_call 19; refine HPk.out.mono ?_; rintro r W4 ⟨a4, c4, s4, rfl, o4, f4, n4⟩))
    have F4 := Lib.hid (F3.out.trans f4 (by simp))
    have B4 := Lib.hid (B3.out.keep0 f4)
    have BL4 := Lib.hid (BL.out.keep0 f4)
    have HEq := Lib.hid (Equal_any _ _ _ _ _ _ W4 o4.sl (HS0.out.keep F4.out (by simp)))
    clear f4 n4 o4 F3 B3 BL G3 HPk
    have done_bad : ∀ W1 (tmps : Array Value), unp b = (zeroLab, 11) → LB W1 R zeroLab → Frm [R] W4 W1 → tmps.getD 2 undef = .pointer (some ⟨R, 0, none⟩) → tmps.getD 3 undef = .int .i64 11 → bodyPost Tryz.prog Tryz.f10 (UnpP w b) Exit.ret { tmps := tmps, defers := [] } W1 := fun W1 tmps hu B1 F1 h2 h3 => by
      have e := HRe.out
      exact bodyPost_ret (v := .tuple #[lv zeroLab, .int .i64 11]) (unp_ret rfl B1 h2 h3) rfl ⟨by rw [hu], (F0.out.trans F4.out (by simp)).trans F1 (fun i hi => .inr (by simp at hi; omega))⟩
    have DB := Lib.hid done_bad
    clear done_bad
    by_cases hm : May (parse b)
    · rw [mayE_yes hm]
      by_cases he : packL (parse b) = b
      · have hq : (packO (parse b) == b) = true := by rw [packO_yes hm]; simpa using he
        rw [hq] at HEq
        have hu := HU.out
        rw [if_pos ⟨mayB_iff.2 hm, he⟩] at hu
        have HU2 := Lib.hid hu
        have G4 := Lib.hid BL4.out.gets.all
        clear hm he hq hu
        go_wp2_with (first
          | (go_at_call 24; refine HEq.out.mono ?_; rintro r w' ⟨rfl, rfl⟩)
          | ((with_reducible (show wpList _ _ _ (Oper.mk _ (Op.load 28 _) _ _ _ _ :: _) _ _)); refine wpList_load_g (by rfl) 28 _ rfl _ rfl G4.out ?_)
          | ((with_reducible (show wpList _ _ _ (Oper.mk _ (Op.store 28 _ _) _ _ _ _ :: _) _ _)); refine wpList_store28 rfl _ _ rfl B4.out hpp rfl rfl ?_; intro W1 B1 F1))
        have e := HRe.out
        exact bodyPost_ret (v := .tuple #[lv (parse b), .int .i64 0]) (unp_ret rfl B1 rfl rfl) rfl ⟨by rw [HU2.out], (F0.out.trans F4.out (by simp)).trans F1 (fun i hi => .inr (by simp at hi; omega))⟩
      · have hq : (packO (parse b) == b) = false := by rw [packO_yes hm]; simpa using he
        rw [hq] at HEq
        have hu := HU.out
        rw [if_neg (fun h => he h.2)] at hu
        have HU2 := Lib.hid hu
        clear hm he hq hu
        go_wp2_with (first
          | (go_at_call 24; refine HEq.out.mono ?_; rintro r w' ⟨rfl, rfl⟩)
          | ((with_reducible (show wpList _ _ _ (Oper.mk _ (Op.build 28 _) _ _ _ _ :: _) _ _)); refine wpList_val rfl (exec_bld28z rfl _) ?_)
          | ((with_reducible (show wpList _ _ _ (Oper.mk _ (Op.store 28 _ _) _ _ _ _ :: _) _ _)); refine wpList_store28 rfl _ _ rfl B4.out zeroLab_len rfl rfl ?_; intro W1 B1 F1))
        exact DB.out _ _ HU2.out B1 F1 rfl rfl
    · rw [mayE_no hm]
      have hu := HU.out
      rw [if_neg (fun h => hm (mayB_iff.1 h.1))] at hu
      have HU2 := Lib.hid hu
      clear hm hu
      go_wp2_with (first
        | ((with_reducible (show wpList _ _ _ (Oper.mk _ (Op.build 28 _) _ _ _ _ :: _) _ _)); refine wpList_val rfl (exec_bld28z rfl _) ?_)
        | ((with_reducible (show wpList _ _ _ (Oper.mk _ (Op.store 28 _ _) _ _ _ _ :: _) _ _)); refine wpList_store28 rfl _ _ rfl B4.out zeroLab_len rfl rfl ?_; intro W1 B1 F1))
      exact DB.out _ _ HU2.out B1 F1 rfl rfl
theorem Unpack_any (v : Value) (b sp : List UInt8) (w : World) (hS : SlB w v b sp) (hb : b.length ≤ 1000000) (hG : Hs.Glob w) : Calls Tryz.prog 10 #[v] w (UnpP w b) := by
  by_cases h : b.length = 256
  · exact Unpack_full v b sp w hS h hG
  · exact Unpack_len v b sp w hS hb h
end Go.Proofs.YtcnjjcnmjmcoiaaGreatDoor
