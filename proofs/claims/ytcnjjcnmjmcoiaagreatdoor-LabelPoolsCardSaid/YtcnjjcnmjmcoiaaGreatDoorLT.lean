/-
  The walk of LabelBack. No conditions but those that each theorem names.
-/
import Derived.Test.YtcnjjcnmjmcoiaaGreatDoorLS
import Derived.Test.YtcnjjcnmjmcoiaaGreatDoorRL

namespace Go.Proofs.YtcnjjcnmjmcoiaaGreatDoor
open Go.RowKit
set_option linter.unusedVariables false
set_option linter.unusedSimpArgs false
set_option maxRecDepth 100000

theorem may_or (l : Lab) : (mayE l = 0 ∧ May l) ∨ (mayE l = 2 ∧ ¬ May l) := by
  by_cases h : May l
  · exact .inl ⟨mayE_yes h, h⟩
  · exact .inr ⟨mayE_no h, h⟩
theorem neq28 (l : Lab) (hl : l.pool.length = 32) (W : World) : (binOp .neq 28 (lv l) (lv l)).run Tryz.prog W = .ok (.bool false) W := by
  have h := eql28 l l hl hl W
  unfold lv at h ⊢
  rw [run_eql_struct] at h
  rw [run_neq_struct]
  cases hr : (Op.equalIn 10000 28 (.agg (lc l).toArray) (.agg (lc l).toArray)).run Tryz.prog W with
  | ok x w' =>
    rw [hr] at h
    simp only [Result.andThen_ok, decide_true, Result.ok.injEq, Value.bool.injEq] at h
    obtain ⟨rfl, rfl⟩ := h
    rfl
  | halt x w' =>
    rw [hr] at h
    simp [Result.andThen] at h
set_option maxHeartbeats 8000000 in
theorem back_law (l : Lab) (v : Value) (b sp : List UInt8) {w : World} (hw : WfL l) (hS : SlB w v b sp) (hG : Hs.Glob w) : Calls Tryz.prog 6 #[lv l, v] w (Yes w) := by
  obtain ⟨a0, c0, rfl, _, _⟩ := hS.form
  have HS := Lib.hid hS
  have B1 := LB.new w hw.pool
  have hlv : lv l = .agg (lc l).toArray := rfl
  have f : Frm [] w (w.alloc (.cells (lc l).toArray 28)) := (Frm.refl [] w).alloc _
  have HG := Lib.hid hG
  have HK := Lib.hid (fun W (f : Frm [] w W) => known_any W (HG.out.keep f (by simp)))
  have HP := Lib.hid (fun W (f : Frm [] w W) => Pack_any l hw.pool W (HG.out.keep f (by simp)))
  have HC := Lib.hid (fun W => Check_any l hw.pool W)
  have HU := Lib.hid (fun v b sp W (f : Frm [] w W) (hS : SlB W v b sp) (hb : b.length ≤ 1000000) => Unpack_any v b sp W hS hb (HG.out.keep f (by simp)))
  have HW := Lib.hid hw.pool
  unfold PackP at HP
  rw [hlv]
  clear hlv hG hw hS
  generalize hA : (lc l).toArray = A at *
  go_enter Tryz.func6, Tryz.ntmps6
  go_upto_region 1 with (fail)
  generalize w.alloc (.cells A 28) = W0 at *
  have B0 := Lib.hid B1
  have F0 := Lib.hid f
  clear hA B1 f
  go_upto_region 2 with (go_at_call 5; refine (HK.out _ F0.out).mono ?_; rintro r W1 ⟨rfl, f1⟩)
  have F1 := Lib.hid (F0.out.trans f1 (by simp))
  have BL1 := Lib.hid (B0.out.keep0 f1)
  have G1 := Lib.hid BL1.out.gets.all
  clear f1 F0 B0
  go_upto_region 3 with (first | ((with_reducible (show wpList _ _ _ (Oper.mk _ (Op.load 28 _) _ _ _ _ :: _) _ _)); refine wpList_load_g (by rfl) 28 _ rfl _ rfl G1.out ?_) | (go_at_call 19; refine (HP.out _ F1.out).mono ?_; rintro r W2 ⟨a2, c2, s2, rfl, o2, f2, n2⟩))
  have F2 := Lib.hid (F1.out.trans f2 (by simp))
  have BL2 := Lib.hid (BL1.out.keep0 f2)
  have G2 := Lib.hid BL2.out.gets.all
  have O2 := Lib.hid o2
  clear f2 n2 o2 F1 BL1 G1
  rcases may_or l with ⟨he, hm⟩ | ⟨he, hm⟩
  · rw [he] at HC
    rw [packO_yes hm, packL_length HW.out] at O2
    rw [he, packO_yes hm, packL_length HW.out]
    have HM := Lib.hid hm
    clear he hm
    go_upto_region 5 with (first | ((with_reducible (show wpList _ _ _ (Oper.mk _ (Op.load 28 _) _ _ _ _ :: _) _ _)); refine wpList_load_g (by rfl) 28 _ rfl _ rfl G2.out ?_) | (go_at_call 18; refine (HC.out _).mono ?_; rintro r W3 ⟨rfl, f3⟩))
    have F3 := Lib.hid (F2.out.trans f3 (by simp))
    have BL3 := Lib.hid (BL2.out.keep0 f3)
    have HUl := Lib.hid (HU.out _ (packL l) s2 _ F3.out (O2.out.keep f3 (by simp)).sl (by rw [packL_length HW.out]; decide))
    unfold UnpP at HUl
    rw [unp_pack HW.out HM.out] at HUl
    have hpw := HW.out
    clear f3 F2 BL2 O2 G2
    go_upto_region 7 with (first
      | ((with_reducible (show wpList _ _ _ (Oper.mk _ (Op.alloc 28) _ _ _ _ :: _) _ _)); refine wpList_lay28 rfl rfl rfl _ _ rfl (l := l) hpw rfl rfl ?_)
      | (go_at_call 10; refine HUl.out.mono ?_; rintro r w4 ⟨rfl, f4⟩))
    have f5 : Frm [] w4 (w4.alloc (.cells (lc l).toArray 28)) := (Frm.refl [] w4).alloc _
    have G5 := Lib.hid (LB.new w4 hpw).gets.all
    have G6 := Lib.hid (BL3.out.keep0 (f4.trans f5 (by simp))).gets.all
    have F5 := Lib.hid ((F3.out.trans f4 (by simp)).trans f5 (by simp))
    clear f4 f5 F3 BL3 HUl
    generalize w4.alloc (.cells (lc l).toArray 28) = W5 at *
    generalize w4.heap.size = L5 at *
    have hq : ∀ W, (binOp .neq 28 (lv l) (lv l)).run Tryz.prog W = .ok (.bool false) W := fun W => neq28 l hpw W
    have hg := fun op x y W => lab_guard op x y l l W
    go_upto_region 9 with (first
      | ((with_reducible (show wpList _ _ _ (Oper.mk (some 49) (Op.load 28 _) _ _ _ _ :: _) _ _)); refine wpList_load_g (by rfl) 28 _ rfl _ rfl G5.out ?_)
      | ((with_reducible (show wpList _ _ _ (Oper.mk (some 50) (Op.load 28 _) _ _ _ _ :: _) _ _)); refine wpList_load_g (by rfl) 28 _ rfl _ rfl G6.out ?_))
    clear hq hg G5 G6
    have HB1 := Lib.hid (show ∀ W, Frm [] w W → SlB W (.slice a0 b.length c0) b sp from fun W f => HS.out.keep f (by simp))
    by_cases hl : 1000 < b.length
    · have hl' : (1000 : Int) < b.length := by omega
      clear hl
      go_wp2_with fail
      go_ret
      exact ⟨rfl, F5.out⟩
    · have hl' : ¬ (1000 : Int) < b.length := by omega
      have HUb := Lib.hid (HU.out _ b sp _ F5.out (HB1.out _ F5.out) (by omega))
      unfold UnpP at HUb
      clear hl
      rcases unp_cases b with ⟨e, he, hu⟩ | ⟨hu, hlb, hmb, hpb⟩
      · rw [hu] at HUb
        have hen : (e != 0) = true := by simpa using he
        have zl := zeroLab_len
        clear hu he
        go_upto_region 12 with (first
          | ((with_reducible (show wpList _ _ _ (Oper.mk _ (Op.alloc 28) _ _ _ _ :: _) _ _)); refine wpList_lay28 rfl rfl rfl _ _ rfl (l := zeroLab) zl rfl rfl ?_)
          | (go_at_call 10; refine HUb.out.mono ?_; rintro r w7 ⟨rfl, f7⟩))
        have f8 : Frm [] w7 (w7.alloc (.cells (lc zeroLab).toArray 28)) := (Frm.refl [] w7).alloc _
        have G8 := Lib.hid (LB.new w7 zl).gets.all
        have hq : ∀ W, (binOp .eql 28 (lv zeroLab) (lv zeroLab)).run Tryz.prog W = .ok (.bool true) W := fun W => by rw [eql28 _ _ zl zl]; simp
        have hg := fun op x y W => lab_guard op x y zeroLab zeroLab W
        generalize w7.alloc (.cells (lc zeroLab).toArray 28) = W8 at *
        generalize w7.heap.size = L8 at *
        go_wp2_with (first
          | ((with_reducible (show wpList _ _ _ (Oper.mk _ (Op.load 28 _) _ _ _ _ :: _) _ _)); refine wpList_load_g (by rfl) 28 _ rfl _ rfl G8.out ?_)
          | ((with_reducible (show wpList _ _ _ (Oper.mk _ (Op.build 28 _) _ _ _ _ :: _) _ _)); refine wpList_val_g (by rfl) (exec_bld28z rfl _) ?_))
        go_ret
        exact ⟨rfl, (F5.out.trans f7 (by simp)).trans f8 (by simp)⟩
      · rw [hu] at HUb
        have hpp : (parse b).pool.length = 32 := parse_pool hlb
        have HPb := Lib.hid (fun W (f : Frm [] w W) => Pack_any (parse b) hpp W (HG.out.keep f (by simp)))
        unfold PackP at HPb
        rw [packO_yes hmb, mayE_yes hmb, hpb] at HPb
        clear hu hmb hpb hlb
        go_upto_region 12 with (first
          | ((with_reducible (show wpList _ _ _ (Oper.mk _ (Op.alloc 28) _ _ _ _ :: _) _ _)); refine wpList_lay28 rfl rfl rfl _ _ rfl (l := parse b) hpp rfl rfl ?_)
          | (go_at_call 10; refine HUb.out.mono ?_; rintro r w7 ⟨rfl, f7⟩))
        have f8 : Frm [] w7 (w7.alloc (.cells (lc (parse b)).toArray 28)) := (Frm.refl [] w7).alloc _
        have G8 := Lib.hid (LB.new w7 hpp).gets.all
        have F8 := Lib.hid ((F5.out.trans f7 (by simp)).trans f8 (by simp))
        clear f7 f8
        generalize w7.alloc (.cells (lc (parse b)).toArray 28) = W8 at *
        generalize w7.heap.size = L8 at *
        go_upto_region 15 with (first
          | ((with_reducible (show wpList _ _ _ (Oper.mk _ (Op.load 28 _) _ _ _ _ :: _) _ _)); refine wpList_load_g (by rfl) 28 _ rfl _ rfl G8.out ?_)
          | (go_at_call 19; refine (HPb.out _ F8.out).mono ?_; rintro r w9 ⟨a9, c9, s9, rfl, o9, f9, n9⟩))
        have HSm := Lib.hid (Same_any _ _ _ _ _ _ _ o9.sl (HB1.out _ (F8.out.trans f9 (by simp))))
        rw [show (b == b) = true from beq_self_eq_true b] at HSm
        have F9 := Lib.hid (F8.out.trans f9 (by simp))
        clear f9 o9 n9 F8
        go_wp2_with (go_at_call 20; refine HSm.out.mono ?_; rintro r w10 ⟨rfl, rfl⟩)
        go_ret
        exact ⟨rfl, F9.out⟩
  · rw [he] at HC
    rw [packO_no hm] at O2
    rw [he, packO_no hm]
    clear he hm
    go_upto_region 5 with (first | ((with_reducible (show wpList _ _ _ (Oper.mk _ (Op.load 28 _) _ _ _ _ :: _) _ _)); refine wpList_load_g (by rfl) 28 _ rfl _ rfl G2.out ?_) | (go_at_call 18; refine (HC.out _).mono ?_; rintro r W3 ⟨rfl, f3⟩))
    have F3 := Lib.hid (F2.out.trans f3 (by simp))
    clear f3 F2 BL2 O2 G2
    go_upto_region 9 with (fail)
    have HB1 := Lib.hid (show ∀ W, Frm [] w W → SlB W (.slice a0 b.length c0) b sp from fun W f => HS.out.keep f (by simp))
    by_cases hl : 1000 < b.length
    · have hl' : (1000 : Int) < b.length := by omega
      clear hl
      go_wp2_with fail
      go_ret
      exact ⟨rfl, F3.out⟩
    · have hl' : ¬ (1000 : Int) < b.length := by omega
      have HUb := Lib.hid (HU.out _ b sp _ F3.out (HB1.out _ F3.out) (by omega))
      unfold UnpP at HUb
      clear hl
      rcases unp_cases b with ⟨e, he, hu⟩ | ⟨hu, hlb, hmb, hpb⟩
      · rw [hu] at HUb
        have hen : (e != 0) = true := by simpa using he
        have zl := zeroLab_len
        clear hu he
        go_upto_region 12 with (first
          | ((with_reducible (show wpList _ _ _ (Oper.mk _ (Op.alloc 28) _ _ _ _ :: _) _ _)); refine wpList_lay28 rfl rfl rfl _ _ rfl (l := zeroLab) zl rfl rfl ?_)
          | (go_at_call 10; refine HUb.out.mono ?_; rintro r w7 ⟨rfl, f7⟩))
        have f8 : Frm [] w7 (w7.alloc (.cells (lc zeroLab).toArray 28)) := (Frm.refl [] w7).alloc _
        have G8 := Lib.hid (LB.new w7 zl).gets.all
        have hq : ∀ W, (binOp .eql 28 (lv zeroLab) (lv zeroLab)).run Tryz.prog W = .ok (.bool true) W := fun W => by rw [eql28 _ _ zl zl]; simp
        have hg := fun op x y W => lab_guard op x y zeroLab zeroLab W
        generalize w7.alloc (.cells (lc zeroLab).toArray 28) = W8 at *
        generalize w7.heap.size = L8 at *
        go_wp2_with (first
          | ((with_reducible (show wpList _ _ _ (Oper.mk _ (Op.load 28 _) _ _ _ _ :: _) _ _)); refine wpList_load_g (by rfl) 28 _ rfl _ rfl G8.out ?_)
          | ((with_reducible (show wpList _ _ _ (Oper.mk _ (Op.build 28 _) _ _ _ _ :: _) _ _)); refine wpList_val_g (by rfl) (exec_bld28z rfl _) ?_))
        go_ret
        exact ⟨rfl, (F3.out.trans f7 (by simp)).trans f8 (by simp)⟩
      · rw [hu] at HUb
        have hpp : (parse b).pool.length = 32 := parse_pool hlb
        have HPb := Lib.hid (fun W (f : Frm [] w W) => Pack_any (parse b) hpp W (HG.out.keep f (by simp)))
        unfold PackP at HPb
        rw [packO_yes hmb, mayE_yes hmb, hpb] at HPb
        clear hu hmb hpb hlb
        go_upto_region 12 with (first
          | ((with_reducible (show wpList _ _ _ (Oper.mk _ (Op.alloc 28) _ _ _ _ :: _) _ _)); refine wpList_lay28 rfl rfl rfl _ _ rfl (l := parse b) hpp rfl rfl ?_)
          | (go_at_call 10; refine HUb.out.mono ?_; rintro r w7 ⟨rfl, f7⟩))
        have f8 : Frm [] w7 (w7.alloc (.cells (lc (parse b)).toArray 28)) := (Frm.refl [] w7).alloc _
        have G8 := Lib.hid (LB.new w7 hpp).gets.all
        have F8 := Lib.hid ((F3.out.trans f7 (by simp)).trans f8 (by simp))
        clear f7 f8
        generalize w7.alloc (.cells (lc (parse b)).toArray 28) = W8 at *
        generalize w7.heap.size = L8 at *
        go_upto_region 15 with (first
          | ((with_reducible (show wpList _ _ _ (Oper.mk _ (Op.load 28 _) _ _ _ _ :: _) _ _)); refine wpList_load_g (by rfl) 28 _ rfl _ rfl G8.out ?_)
          | (go_at_call 19; refine (HPb.out _ F8.out).mono ?_; rintro r w9 ⟨a9, c9, s9, rfl, o9, f9, n9⟩))
        have HSm := Lib.hid (Same_any _ _ _ _ _ _ _ o9.sl (HB1.out _ (F8.out.trans f9 (by simp))))
        rw [show (b == b) = true from beq_self_eq_true b] at HSm
        have F9 := Lib.hid (F8.out.trans f9 (by simp))
        clear f9 o9 n9 F8
        go_wp2_with (go_at_call 20; refine HSm.out.mono ?_; rintro r w10 ⟨rfl, rfl⟩)
        go_ret
        exact ⟨rfl, F9.out⟩
end Go.Proofs.YtcnjjcnmjmcoiaaGreatDoor
