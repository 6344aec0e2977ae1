/-
  The walk of LabelPools. No conditions but those that each theorem names.
-/
import Derived.Test.YtcnjjcnmjmcoiaaGreatDoorME
import Derived.Test.YtcnjjcnmjmcoiaaGreatDoorMD
import Derived.Test.YtcnjjcnmjmcoiaaGreatDoorRM
namespace Go.Proofs.YtcnjjcnmjmcoiaaGreatDoor
open Go.RowKit Go.Maps
set_option linter.unusedVariables false
set_option linter.unusedSimpArgs false
set_option maxRecDepth 100000

open Kr (OwnE SlE Enco RowTys)
theorem neqOf26 (l : List UInt8) (hl : l.length = 32) (W : World) : (binOp .neq 26 (idv l) (idv l)).run Tryz.prog W = .ok (.bool false) W := by
  unfold idv
  simp only [binOp, Op.equal, Op.maxDepth]
  have h : (Op.equalIn 10000 26 (idv l) (idv l)).run Tryz.prog W = .ok (l == l) W := eqIn26 9998 l l hl hl W
  unfold idv at h
  simp [h]
theorem exec_neq28 {o : Oper} {a : Act} {w : World} {x y : Operand} {l : Lab} (ho : o.op = .binOp .neq 28 x y 28) (hx : a.eval x = lv l) (hy : a.eval y = lv l) (hl : l.pool.length = 32) :
    (execOp a.eval o).run Tryz.prog w = .ok (.value (.bool false)) w := by
  have hg := lab_guard .neq x y l l w
  have h := neq28 l hl w
  simp [execOp, ho, hx, hy, h, hg, Result.andThen]
theorem wpList_neq26 {ops : Array Oper} {rest : List Oper} {op : Oper} {a : Act} {w : World} {Q : Exit → Act → World → Prop} (hw : Region.wanted op (yielded ops a.tmps) = true) (x y : Operand) (ho : op.op = .binOp .neq 26 x y 26) {s t : List UInt8} {v : Value}
    (hx : a.eval x = idv s) (hy : a.eval y = idv t) (hl : (binOp .neq 26 (idv s) (idv t)).run Tryz.prog w = .ok v w) (h : wpList Tryz.prog ops Q rest (a.put op.dst v) w) : wpList Tryz.prog ops Q (op :: rest) a w :=
  wpList_step fun K hK => by
    have he : (execOp a.eval op).run Tryz.prog w = .ok (.value v) w := by
      have hg := agg_guard .neq x y s t w
      simp [execOp, ho, hx, hy, hl, hg, Result.andThen]
    rw [if_pos hw]
    unfold Oper.wp
    rw [he]
    exact hK _ _ h
set_option maxHeartbeats 4000000 in
theorem pools_law (v : Value) (ls : List LabT) (sp : List Value) (pool : List UInt8) (dev life : Int) {w : World} (hS : SlE eL 37 w v ls sp) (hw : ∀ x ∈ ls, WfL x.1) (hp : pool.length = 32) (_ : InI dev) (_ : InI life) (hG : Hs.Glob w) :
    Calls Tryz.prog 4 #[v, idv pool, .int .i64 dev, .int .i64 life] w (Yes w) := by
  obtain ⟨a0, c0, rfl, hc1, hc2⟩ := hS.form
  have f0 : Frm [] w (w.alloc (.cells (bvs pool).toArray 26)) := (Frm.refl [] w).alloc _
  have h0 := heap_alloc_new w (.cells (bvs pool).toArray 26)
  have HS := Lib.hid (hS.keep0 f0)
  have HG := Lib.hid (hG.keep f0 (by simp))
  have HP := Lib.hid hp
  have hA0 : idv pool = .agg (bvs pool).toArray := rfl
  have hol : ls.length ≤ 9223372036854775807 := by simp only [maxLen] at hc2; omega
  clear hS hG hp hw hc1 hc2
  rw [hA0]
  clear hA0
  go_enter Tryz.func4, Tryz.ntmps4
  go_upto_region 1 with fail
  have F0 := Lib.hid f0
  have H0 := Lib.hid h0
  clear f0 h0
  generalize w.alloc (.cells (bvs pool).toArray 26) = W0 at *
  obtain ⟨P, hP⟩ : ∃ P, w.heap.size = P := ⟨_, rfl⟩
  rw [hP] at H0 ⊢
  clear hP
  by_cases hlen : 20 < ls.length
  · have hd : decide ((20 : Int) < (ls.length : Int)) = true := by simp; omega
    have HA := Lib.hid (awake_any W0 HG.out)
    go_wp2_with (go_at_call 8; refine HA.out.mono ?_; rintro r w1 ⟨rfl, f1⟩)
    go_ret
    exact ⟨rfl, F0.out.trans f1 (by simp)⟩
  · have hd : decide ((20 : Int) < (ls.length : Int)) = false := by simp; omega
    go_upto_region 3 with fail
    have hl20 : ls.length ≤ 20 := by omega
    have o0 : OwnE eL 37 28 (W0.alloc (.cells #[] 28)) (.slice (some ⟨W0.heap.size, 0, none⟩) 0 0) [] [] := OwnE.of_heap encL (heap_alloc_new _ _) rfl (by simp) (by simp) (by simp)
    have fz : Frm [] W0 (W0.alloc (.cells #[] 28)) := (Frm.refl _ _).alloc _
    go_upto_region 4 with (at_builtin; refine Kr.wpList_append_e encL tysL o0 (HS.out.keep0 fz) (by simp; omega) (by decide) rfl (.tmp 19) (.tmp 20) rfl rfl rfl ?_; intro a4 cap4 w4 sp4 o4 f4 b4)
    have O4 := Lib.hid (show SlE eL 37 w4 (.slice a4 ls.length cap4) ls sp4 from by simpa using o4.sl)
    have F4 := Lib.hid (show Frm [] W0 w4 from fz.trans f4 (by simp [blk]))
    clear o0 fz o4 f4 b4 hd hlen
    have HPo := Lib.hid (Pool_any _ ls sp4 w4 O4.out (by omega))
    go_upto_region 5 with (first
      | (go_at_call 13; refine HPo.out.mono ?_; rintro r w5 ⟨p, hp1, rfl, f5⟩; have hpl := hp1.len; have HP1 := Lib.hid hp1; clear hp1)
      | ((with_reducible (show wpList _ _ _ (Oper.mk _ (Op.alloc 26) _ _ _ _ :: _) _ _)); refine wpList_lay26 rfl rfl rfl _ _ rfl (s := p.1) hpl rfl rfl ?_))
    have h5 := heap_alloc_new w5 (.cells (bvs p.1).toArray 26)
    have fa : Frm [] w5 (w5.alloc (.cells (bvs p.1).toArray 26)) := (Frm.refl [] w5).alloc _
    have H5 := Lib.hid h5
    have F5 := Lib.hid (F4.out.trans (f5.trans fa (by simp)) (by simp))
    have O5 := Lib.hid (O4.out.keep0 (f5.trans fa (by simp)))
    clear h5 fa f5 HPo O4 F4
    generalize w5.alloc (.cells (bvs p.1).toArray 26) = W5 at *
    generalize w5.heap.size = B1 at *
    have HRo := Lib.hid (RefPool_any _ ls sp W5 (HS.out.keep0 F5.out) (by omega))
    go_upto_region 6 with (first
      | (go_at_call 14; refine HRo.out.mono ?_; rintro r w6 ⟨p2, hp2, rfl, f6⟩; obtain rfl := PoolR.eq HP1.out hp2)
      | ((with_reducible (show wpList _ _ _ (Oper.mk _ (Op.alloc 26) _ _ _ _ :: _) _ _)); refine wpList_lay26 rfl rfl rfl _ _ rfl (s := p.1) hpl rfl rfl ?_))
    have h6 := heap_alloc_new w6 (.cells (bvs p.1).toArray 26)
    have fa : Frm [] w6 (w6.alloc (.cells (bvs p.1).toArray 26)) := (Frm.refl [] w6).alloc _
    have L2 := Lib.hid (loads26 hpl h6)
    have L1 := Lib.hid (loads26 hpl ((f6.trans fa (by simp)).heap H5.out (by simp)))
    have F6 := Lib.hid (F5.out.trans (f6.trans fa (by simp)) (by simp))
    have O6 := Lib.hid (O5.out.keep0 (f6.trans fa (by simp)))
    have HNE := Lib.hid (fun W => neqOf26 p.1 hpl W)
    clear h6 fa f6 HRo O5 F5 H5 hp2 HP1
    generalize w6.alloc (.cells (bvs p.1).toArray 26) = W6 at *
    generalize w6.heap.size = B2 at *
    generalize p.2 = p2 at *
    have hbb : (p2 != p2) = false := by simp
    go_upto_region 8 with (first
      | ((with_reducible (show wpList _ _ _ (Oper.mk (some 32) (Op.load 26 _) _ _ _ _ :: _) _ _)); refine wpList_load_g (by rfl) 26 _ rfl _ rfl L1.out ?_)
      | ((with_reducible (show wpList _ _ _ (Oper.mk (some 33) (Op.load 26 _) _ _ _ _ :: _) _ _)); refine wpList_load_g (by rfl) 26 _ rfl _ rfl L2.out ?_)
      | ((with_reducible (show wpList _ _ _ (Oper.mk (some 34) _ _ _ _ _ :: _) _ _)); refine wpList_neq26 (by rfl) _ _ rfl rfl rfl (HNE.out _) ?_))
    have HS6 := Lib.hid (HS.out.keep0 F6.out)
    have H06 := Lib.hid (F6.out.heap H0.out (by simp))
    have HG6 := Lib.hid (HG.out.keep F6.out (by simp))
    have FF := Lib.hid (F0.out.trans F6.out (by simp))
    clear HS H0 HG F0 F6 L1 L2 HNE
    go_wp2_with fail
    go_loopw [14] (fun c wr => ∃ i : Nat, i ≤ ls.length ∧ c = .int .i64 i ∧ Frm [] W6 wr) (fun c _ => ls.length - (intOf c).toNat)
    case atStart => exact ⟨0, by omega, rfl, Frm.refl _ _⟩
    case round =>
      obtain ⟨i, hi, rfl, fr⟩ := hrel
      generalize wr = wA at *
      by_cases hlt : i < ls.length
      · have hd : decide ((i : Int) < (ls.length : Int)) = true := by simp; omega
        have hi1 : (i : Int) + 1 ≤ 100 := by omega
        obtain ⟨b1, off1, rfl⟩ := SlE.at (enc := eL) (k := 37) HS6.out (by omega)
        obtain ⟨b2, off2, rfl⟩ := SlE.at (enc := eL) (k := 37) O6.out (by omega)
        have r1 := row_at (HS6.out.keep0 fr) i hlt
        have r2 := row_at (O6.out.keep0 fr) i hlt
        obtain ⟨x, hx⟩ : ∃ x, ls[i] = x := ⟨_, rfl⟩
        rw [hx] at r1 r2
        have hpx := x.2
        have R1 := Lib.hid r1
        have R2 := Lib.hid r2
        have HPA := Lib.hid (fr.heap H06.out (by simp))
        have HT := Lib.hid (fun W => There_any x.1 pool dev life hpx HP.out W)
        have HRT := Lib.hid (fun W => RefThere_any x.1 pool dev life hpx HP.out W)
        have FR := Lib.hid fr
        clear r1 r2 hx fr
        generalize hq : thereB x.1 pool dev life = q at *
        have hqq : (q != q) = false := by simp
        clear hq
        go_wp2_with fail
        refine wp_region_held_drew (S := fun z => Frm [] wA z) (by kernel_rfl) ((Frm.refl [] wA).drew) (fun hHeld => ?_)
        refine wpAnyH_take (i := 0) (oi := { dst := some 46, op := Op.move (Operand.tmp 9), type := 34, pos := "law.go:46", after := #[], guard := none }) (v := ?_) rfl (by kernel_rfl) (by kernel_rfl) (by kernel_rfl) (fun _ _ _ h => h) (Or.inl ⟨by rfl, ?_⟩) hHeld ?_
        rotate_left
        focus (intro z hSw; clear hSw; go_simp; try with_reducible rfl)
        try simp only [Act.put, List.setIfInBounds_toArray, List.set_cons_zero, List.set_cons_succ]
        refine wpAnyH_take (i := 1) (oi := { dst := some 47, op := Op.move (Operand.tmp 14), type := 3, pos := "law.go:46", after := #[], guard := none }) (v := ?_) rfl (by kernel_rfl) (by kernel_rfl) (by kernel_rfl) (fun _ _ _ h => h) (Or.inl ⟨by rfl, ?_⟩) hHeld ?_
        rotate_left
        focus (intro z hSw; clear hSw; go_simp; try with_reducible rfl)
        try simp only [Act.put, List.setIfInBounds_toArray, List.set_cons_zero, List.set_cons_succ]
        refine wpAnyH_take (i := 2) (oi := { dst := some 48, op := Op.indexAddr 34 (Operand.tmp 46) (Operand.tmp 47), type := 0, pos := "law.go:46", after := #[{ on := 0, ground := Ground.data }, { on := 1, ground := Ground.data }], guard := none }) (v := ?_) rfl (by kernel_rfl) (by kernel_rfl) (by kernel_rfl) (fun _ _ _ h => h) (Or.inl ⟨by rfl, ?_⟩) hHeld ?_
        rotate_left
        focus (intro z hSw; clear hSw; go_simp; try with_reducible rfl)
        try simp only [Act.put, List.setIfInBounds_toArray, List.set_cons_zero, List.set_cons_succ]
        refine wpAnyH_take (i := 3) (oi := { dst := some 49, op := Op.load 28 (Operand.tmp 48), type := 28, pos := "law.go:46", after := #[{ on := 2, ground := Ground.data }], guard := none }) rfl (by kernel_rfl) (by kernel_rfl) (by kernel_rfl) (fun _ _ _ h => h) (yieldsIf_ld (by rfl) 28 _ rfl _ rfl (fun z hSw => load28_cells hpx (fun i u hu => hSw.cell (R2.out i u hu) (by simp)))) hHeld ?_
        try simp only [Act.put, List.setIfInBounds_toArray, List.set_cons_zero, List.set_cons_succ]
        refine wpAnyH_take (i := 4) (oi := { dst := some 50, op := Op.move (Operand.tmp 0), type := 34, pos := "law.go:46", after := #[], guard := none }) (v := ?_) rfl (by kernel_rfl) (by kernel_rfl) (by kernel_rfl) (fun _ _ _ h => h) (Or.inl ⟨by rfl, ?_⟩) hHeld ?_
        rotate_left
        focus (intro z hSw; clear hSw; go_simp; try with_reducible rfl)
        try simp only [Act.put, List.setIfInBounds_toArray, List.set_cons_zero, List.set_cons_succ]
        refine wpAnyH_take (i := 5) (oi := { dst := some 51, op := Op.move (Operand.tmp 14), type := 3, pos := "law.go:46", after := #[], guard := none }) (v := ?_) rfl (by kernel_rfl) (by kernel_rfl) (by kernel_rfl) (fun _ _ _ h => h) (Or.inl ⟨by rfl, ?_⟩) hHeld ?_
        rotate_left
        focus (intro z hSw; clear hSw; go_simp; try with_reducible rfl)
        try simp only [Act.put, List.setIfInBounds_toArray, List.set_cons_zero, List.set_cons_succ]
        refine wpAnyH_take (i := 6) (oi := { dst := some 52, op := Op.indexAddr 34 (Operand.tmp 50) (Operand.tmp 51), type := 0, pos := "law.go:46", after := #[{ on := 4, ground := Ground.data }, { on := 5, ground := Ground.data }], guard := none }) (v := ?_) rfl (by kernel_rfl) (by kernel_rfl) (by kernel_rfl) (fun _ _ _ h => h) (Or.inl ⟨by rfl, ?_⟩) hHeld ?_
        rotate_left
        focus (intro z hSw; clear hSw; go_simp; try with_reducible rfl)
        try simp only [Act.put, List.setIfInBounds_toArray, List.set_cons_zero, List.set_cons_succ]
        refine wpAnyH_take (i := 7) (oi := { dst := some 53, op := Op.load 28 (Operand.tmp 52), type := 28, pos := "law.go:46", after := #[{ on := 6, ground := Ground.data }], guard := none }) rfl (by kernel_rfl) (by kernel_rfl) (by kernel_rfl) (fun _ _ _ h => h) (yieldsIf_ld (by rfl) 28 _ rfl _ rfl (fun z hSw => load28_cells hpx (fun i u hu => hSw.cell (R1.out i u hu) (by simp)))) hHeld ?_
        try simp only [Act.put, List.setIfInBounds_toArray, List.set_cons_zero, List.set_cons_succ]
        refine wpAnyH_take (i := 8) (oi := { dst := some 54, op := Op.binOp BinOp.neq 28 (Operand.tmp 49) (Operand.tmp 53) 28, type := 4, pos := "law.go:46", after := #[{ on := 3, ground := Ground.data }, { on := 7, ground := Ground.data }], guard := none }) rfl (by kernel_rfl) (by kernel_rfl) (by kernel_rfl) (fun _ _ _ h => h) (Or.inl ⟨by rfl, fun z hSw => exec_neq28 rfl rfl rfl hpx⟩) hHeld ?_
        try simp only [Act.put, List.setIfInBounds_toArray, List.set_cons_zero, List.set_cons_succ]
        refine wpAnyH_take (i := 9) (oi := { dst := some 55, op := Op.move (Operand.tmp 54), type := 4, pos := "law.go:46", after := #[{ on := 8, ground := Ground.data }], guard := none }) (v := ?_) rfl (by kernel_rfl) (by kernel_rfl) (by kernel_rfl) (fun _ _ _ h => h) (Or.inl ⟨by rfl, ?_⟩) hHeld ?_
        rotate_left
        focus (intro z hSw; clear hSw; go_simp; try with_reducible rfl)
        try simp only [Act.put, List.setIfInBounds_toArray, List.set_cons_zero, List.set_cons_succ]
        refine wpAnyH_take (i := 10) (oi := { dst := some 56, op := Op.move (Operand.tmp 9), type := 34, pos := "law.go:46", after := #[{ on := 9, ground := Ground.guard }], guard := some (9, false) }) (v := ?_) rfl (by kernel_rfl) (by kernel_rfl) (by kernel_rfl) (fun _ _ _ h => h) (Or.inl ⟨by rfl, ?_⟩) hHeld ?_
        rotate_left
        focus (intro z hSw; clear hSw; go_simp; try with_reducible rfl)
        try simp only [Act.put, List.setIfInBounds_toArray, List.set_cons_zero, List.set_cons_succ]
        refine wpAnyH_take (i := 11) (oi := { dst := some 57, op := Op.move (Operand.tmp 14), type := 3, pos := "law.go:46", after := #[{ on := 9, ground := Ground.guard }], guard := some (9, false) }) (v := ?_) rfl (by kernel_rfl) (by kernel_rfl) (by kernel_rfl) (fun _ _ _ h => h) (Or.inl ⟨by rfl, ?_⟩) hHeld ?_
        rotate_left
        focus (intro z hSw; clear hSw; go_simp; try with_reducible rfl)
        try simp only [Act.put, List.setIfInBounds_toArray, List.set_cons_zero, List.set_cons_succ]
        refine wpAnyH_take (i := 12) (oi := { dst := some 58, op := Op.indexAddr 34 (Operand.tmp 56) (Operand.tmp 57), type := 0, pos := "law.go:46", after := #[{ on := 10, ground := Ground.data }, { on := 11, ground := Ground.data }, { on := 9, ground := Ground.guard }], guard := some (9, false) }) (v := ?_) rfl (by kernel_rfl) (by kernel_rfl) (by kernel_rfl) (fun _ _ _ h => h) (Or.inl ⟨by rfl, ?_⟩) hHeld ?_
        rotate_left
        focus (intro z hSw; clear hSw; go_simp; try with_reducible rfl)
        try simp only [Act.put, List.setIfInBounds_toArray, List.set_cons_zero, List.set_cons_succ]
        refine wpAnyH_take (i := 13) (oi := { dst := some 59, op := Op.load 28 (Operand.tmp 58), type := 28, pos := "law.go:46", after := #[{ on := 12, ground := Ground.data }, { on := 9, ground := Ground.guard }], guard := some (9, false) }) rfl (by kernel_rfl) (by kernel_rfl) (by kernel_rfl) (fun _ _ _ h => h) (yieldsIf_ld (by rfl) 28 _ rfl _ rfl (fun z hSw => load28_cells hpx (fun i u hu => hSw.cell (R2.out i u hu) (by simp)))) hHeld ?_
        try simp only [Act.put, List.setIfInBounds_toArray, List.set_cons_zero, List.set_cons_succ]
        refine wpAnyH_take (i := 14) (oi := { dst := some 60, op := Op.load 26 (Operand.tmp 5), type := 26, pos := "law.go:46", after := #[{ on := 9, ground := Ground.guard }], guard := some (9, false) }) rfl (by kernel_rfl) (by kernel_rfl) (by kernel_rfl) (fun _ _ _ h => h) (yieldsIf_ld (by rfl) 26 _ rfl _ rfl (fun z hSw => loads26 HP.out (hSw.heap HPA.out (by simp)))) hHeld ?_
        try simp only [Act.put, List.setIfInBounds_toArray, List.set_cons_zero, List.set_cons_succ]
        refine wpAnyH_take (i := 15) (oi := { dst := some 61, op := Op.move (Operand.tmp 2), type := 3, pos := "law.go:46", after := #[{ on := 9, ground := Ground.guard }], guard := some (9, false) }) (v := ?_) rfl (by kernel_rfl) (by kernel_rfl) (by kernel_rfl) (fun _ _ _ h => h) (Or.inl ⟨by rfl, ?_⟩) hHeld ?_
        rotate_left
        focus (intro z hSw; clear hSw; go_simp; try with_reducible rfl)
        try simp only [Act.put, List.setIfInBounds_toArray, List.set_cons_zero, List.set_cons_succ]
        refine wpAnyH_take (i := 16) (oi := { dst := some 62, op := Op.move (Operand.tmp 3), type := 3, pos := "law.go:46", after := #[{ on := 9, ground := Ground.guard }], guard := some (9, false) }) (v := ?_) rfl (by kernel_rfl) (by kernel_rfl) (by kernel_rfl) (fun _ _ _ h => h) (Or.inl ⟨by rfl, ?_⟩) hHeld ?_
        rotate_left
        focus (intro z hSw; clear hSw; go_simp; try with_reducible rfl)
        try simp only [Act.put, List.setIfInBounds_toArray, List.set_cons_zero, List.set_cons_succ]
        refine wpAnyH_take (i := 18) (oi := { dst := some 64, op := Op.move (Operand.tmp 0), type := 34, pos := "law.go:46", after := #[{ on := 9, ground := Ground.guard }], guard := some (9, false) }) (v := ?_) rfl (by kernel_rfl) (by kernel_rfl) (by kernel_rfl) (fun _ _ _ h => h) (Or.inl ⟨by rfl, ?_⟩) hHeld ?_
        rotate_left
        focus (intro z hSw; clear hSw; go_simp; try with_reducible rfl)
        try simp only [Act.put, List.setIfInBounds_toArray, List.set_cons_zero, List.set_cons_succ]
        refine wpAnyH_take (i := 19) (oi := { dst := some 65, op := Op.move (Operand.tmp 14), type := 3, pos := "law.go:46", after := #[{ on := 9, ground := Ground.guard }], guard := some (9, false) }) (v := ?_) rfl (by kernel_rfl) (by kernel_rfl) (by kernel_rfl) (fun _ _ _ h => h) (Or.inl ⟨by rfl, ?_⟩) hHeld ?_
        rotate_left
        focus (intro z hSw; clear hSw; go_simp; try with_reducible rfl)
        try simp only [Act.put, List.setIfInBounds_toArray, List.set_cons_zero, List.set_cons_succ]
        refine wpAnyH_take (i := 20) (oi := { dst := some 66, op := Op.indexAddr 34 (Operand.tmp 64) (Operand.tmp 65), type := 0, pos := "law.go:46", after := #[{ on := 18, ground := Ground.data }, { on := 19, ground := Ground.data }, { on := 9, ground := Ground.guard }], guard := some (9, false) }) (v := ?_) rfl (by kernel_rfl) (by kernel_rfl) (by kernel_rfl) (fun _ _ _ h => h) (Or.inl ⟨by rfl, ?_⟩) hHeld ?_
        rotate_left
        focus (intro z hSw; clear hSw; go_simp; try with_reducible rfl)
        try simp only [Act.put, List.setIfInBounds_toArray, List.set_cons_zero, List.set_cons_succ]
        refine wpAnyH_take (i := 21) (oi := { dst := some 67, op := Op.load 28 (Operand.tmp 66), type := 28, pos := "law.go:46", after := #[{ on := 20, ground := Ground.data }, { on := 9, ground := Ground.guard }], guard := some (9, false) }) rfl (by kernel_rfl) (by kernel_rfl) (by kernel_rfl) (fun _ _ _ h => h) (yieldsIf_ld (by rfl) 28 _ rfl _ rfl (fun z hSw => load28_cells hpx (fun i u hu => hSw.cell (R1.out i u hu) (by simp)))) hHeld ?_
        try simp only [Act.put, List.setIfInBounds_toArray, List.set_cons_zero, List.set_cons_succ]
        refine wpAnyH_take (i := 22) (oi := { dst := some 68, op := Op.load 26 (Operand.tmp 5), type := 26, pos := "law.go:46", after := #[{ on := 9, ground := Ground.guard }], guard := some (9, false) }) rfl (by kernel_rfl) (by kernel_rfl) (by kernel_rfl) (fun _ _ _ h => h) (yieldsIf_ld (by rfl) 26 _ rfl _ rfl (fun z hSw => loads26 HP.out (hSw.heap HPA.out (by simp)))) hHeld ?_
        try simp only [Act.put, List.setIfInBounds_toArray, List.set_cons_zero, List.set_cons_succ]
        refine wpAnyH_take (i := 23) (oi := { dst := some 69, op := Op.move (Operand.tmp 2), type := 3, pos := "law.go:46", after := #[{ on := 9, ground := Ground.guard }], guard := some (9, false) }) (v := ?_) rfl (by kernel_rfl) (by kernel_rfl) (by kernel_rfl) (fun _ _ _ h => h) (Or.inl ⟨by rfl, ?_⟩) hHeld ?_
        rotate_left
        focus (intro z hSw; clear hSw; go_simp; try with_reducible rfl)
        try simp only [Act.put, List.setIfInBounds_toArray, List.set_cons_zero, List.set_cons_succ]
        refine wpAnyH_take (i := 24) (oi := { dst := some 70, op := Op.move (Operand.tmp 3), type := 3, pos := "law.go:46", after := #[{ on := 9, ground := Ground.guard }], guard := some (9, false) }) (v := ?_) rfl (by kernel_rfl) (by kernel_rfl) (by kernel_rfl) (fun _ _ _ h => h) (Or.inl ⟨by rfl, ?_⟩) hHeld ?_
        rotate_left
        focus (intro z hSw; clear hSw; go_simp; try with_reducible rfl)
        try simp only [Act.put, List.setIfInBounds_toArray, List.set_cons_zero, List.set_cons_succ]
        refine wpAnyH_ready (rs := [17]) (by kernel_rfl) (by simp) ?_
        refine AllReadyH.cons (o := { dst := some 63, op := Op.call { callee := Callee.value (Operand.func 15), args := #[Operand.tmp 59, Operand.tmp 60, Operand.tmp 61, Operand.tmp 62], argTypes := #[28, 26, 3, 3] }, type := 4, pos := "law.go:46", after := #[{ on := 13, ground := Ground.data }, { on := 14, ground := Ground.data }, { on := 15, ground := Ground.data }, { on := 16, ground := Ground.data }, { on := 9, ground := Ground.chain }, { on := 9, ground := Ground.guard }], guard := some (9, false) }) rfl (fun K hK => ?_) AllReadyH.nil
        go_simp
        refine (HT.out _).mono ?_
        rintro r w1 ⟨rfl, f1⟩
        refine hK.out _ _ ?_ (fun hNext => ?_)
        · exact hHeld.trans f1 (by simp)
        clear hK K hHeld
        have hHeld := hNext
        clear hNext
        try simp only [Act.put, List.setIfInBounds_toArray, List.set_cons_zero, List.set_cons_succ]
        refine wpAnyH_ready (rs := [25]) (by kernel_rfl) (by simp) ?_
        refine AllReadyH.cons (o := { dst := some 71, op := Op.call { callee := Callee.value (Operand.func 16), args := #[Operand.tmp 67, Operand.tmp 68, Operand.tmp 69, Operand.tmp 70], argTypes := #[28, 26, 3, 3] }, type := 4, pos := "law.go:46", after := #[{ on := 21, ground := Ground.data }, { on := 22, ground := Ground.data }, { on := 23, ground := Ground.data }, { on := 24, ground := Ground.data }, { on := 17, ground := Ground.chain }, { on := 9, ground := Ground.guard }], guard := some (9, false) }) rfl (fun K hK => ?_) AllReadyH.nil
        go_simp
        refine (HRT.out _).mono ?_
        rintro r w1 ⟨rfl, f1⟩
        refine hK.out _ _ ?_ (fun hNext => ?_)
        · exact hHeld.trans f1 (by simp)
        clear hK K hHeld
        have hHeld := hNext
        clear hNext
        try simp only [Act.put, List.setIfInBounds_toArray, List.set_cons_zero, List.set_cons_succ]
        refine wpAnyH_take (i := 26) (oi := { dst := some 72, op := Op.binOp BinOp.neq 4 (Operand.tmp 63) (Operand.tmp 71) 4, type := 4, pos := "law.go:46", after := #[{ on := 17, ground := Ground.data }, { on := 25, ground := Ground.data }, { on := 9, ground := Ground.guard }], guard := some (9, false) }) (v := ?_) rfl (by kernel_rfl) (by kernel_rfl) (by kernel_rfl) (fun _ _ _ h => h) (Or.inl ⟨by rfl, ?_⟩) hHeld ?_
        rotate_left
        focus (intro z hSw; clear hSw; go_simp; try with_reducible rfl)
        try simp only [Act.put, List.setIfInBounds_toArray, List.set_cons_zero, List.set_cons_succ]
        refine wpAnyH_take (i := 27) (oi := { dst := some 73, op := Op.pick (Operand.tmp 55) (Operand.const (Value.bool true)) (Operand.tmp 72), type := 4, pos := "law.go:46", after := #[{ on := 9, ground := Ground.data }, { on := 26, ground := Ground.data }], guard := none }) (v := ?_) rfl (by kernel_rfl) (by kernel_rfl) (by kernel_rfl) (fun _ _ _ h => h) (Or.inl ⟨by rfl, ?_⟩) hHeld ?_
        rotate_left
        focus (intro z hSw; clear hSw; go_simp; try with_reducible rfl)
        try simp only [Act.put, List.setIfInBounds_toArray, List.set_cons_zero, List.set_cons_succ]
        refine wpAnyH_done (by kernel_rfl) ?_ _
        have G0 := Lib.hid hHeld
        clear hHeld
        go_wp2_with fail
        go_roundw
        case rel => exact ⟨i + 1, by omega, by simp, FR.out.trans G0.out (by simp)⟩
        case measure => simp [intOf]; omega
      · obtain rfl : i = ls.length := by omega
        have hd : decide ((ls.length : Int) < (ls.length : Int)) = false := by simp
        have HA := Lib.hid (awake_any wA (HG6.out.keep fr (by simp)))
        have FR := Lib.hid fr
        clear fr
        go_wp2_with (go_at_call 8; refine HA.out.mono ?_; rintro r w1 ⟨rfl, f1⟩)
        go_ret
        exact ⟨rfl, (FF.out.trans FR.out (by simp)).trans f1 (by simp)⟩
theorem pools_row (v : Value) (ls : List LabT) (sp : List Value) (pool : List UInt8) (dev life : Int) {w : World} (hS : SlE eL 37 w v ls sp) (hw : ∀ x ∈ ls, WfL x.1) (hp : pool.length = 32) (h1 : InI dev) (h2 : InI life) (hG : Hs.Glob w) :
    Calls Tryz.prog 4 #[v, idv pool, .int .i64 dev, .int .i64 life] w (Yes w) := pools_law v ls sp pool dev life hS hw hp h1 h2 hG
end Go.Proofs.YtcnjjcnmjmcoiaaGreatDoor
