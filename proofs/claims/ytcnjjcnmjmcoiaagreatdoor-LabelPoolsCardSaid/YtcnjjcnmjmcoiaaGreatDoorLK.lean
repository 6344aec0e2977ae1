/-
  Contract of awake. No conditions but those that each theorem names.
-/
import Derived.Test.YtcnjjcnmjmcoiaaGreatDoorLJ

namespace Go.Proofs.YtcnjjcnmjmcoiaaGreatDoor
open Go.RowKit
set_option linter.unusedVariables false
set_option linter.unusedSimpArgs false
set_option maxRecDepth 100000

theorem slice_h {P : Program} {tS T : TypeId} (B : ByteTys P tS T) {w : World} {a : Option Addr} {n cap : Nat} {l sp : List UInt8} (h : SlB w (.slice a n cap) l sp) (hi : Nat) (h2 : hi ≤ l.length) :
    ∃ a' c', (∀ (y : Int) (wx : World), y = hi → (Instr.slice tS (.slice a n cap) none (some (.int .i64 y)) none).run P wx = .ok (.slice a' hi c') wx) ∧ SlB w (.slice a' hi c') (l.take hi) (l.drop hi ++ sp) := by
  obtain ⟨a2, c2, e, hle, hm⟩ := h.form
  cases e
  have hc := h.cut 0 hi (Nat.zero_le _) h2
  simp only [List.drop_zero, Nat.sub_zero] at hc
  refine ⟨_, _, fun y wx hy => ?_, hc⟩
  subst hy
  obtain ⟨i, hi', hz, hs, hby⟩ := info_parts B.info
  have he : P.elem tS = T := by simp [Program.elem, B.sl]
  have hsz : (sizeOf (P.elem tS)).run P wx = .ok 1 wx := by rw [he]; simp [sizeOf, typeInfo, hi', hs]
  rw [run_slice_h (P := P) wx tS a l.length cap (by rw [he]; exact B.sl) .i64 hi (by omega) (by omega), hsz]
  simp [Result.andThen, sliced]
theorem exec_slice_lh {P : Program} {o : Oper} {a : Act} {w : World} {t : TypeId} {v u : Value} {x y : Int} (s lo hi : Operand) (hop : o.op = Op.slice t s (some lo) (some hi) none) (hs : a.eval s = v) (h1 : a.eval lo = .int .i64 x) (h2 : a.eval hi = .int .i64 y)
    (ht : P.underlying t = some (.slice (P.elem t))) (h : (Instr.slice t v (some (.int .i64 x)) (some (.int .i64 y)) none).run P w = .ok u w) : (execOp a.eval o).run P w = .ok (.value u) w := by
  simp [execOp, hop, hs, h1, h2, run_sliceAt_slice w t _ _ _ _ ht, h, Result.andThen]
theorem exec_slice_hA {P : Program} {o : Oper} {a : Act} {w : World} {t : TypeId} {v u : Value} {y : Int} (s hi : Operand) (hop : o.op = Op.slice t s none (some hi) none) (hs : a.eval s = v) (h2 : a.eval hi = .int .i64 y)
    (ht : P.underlying t = some (.slice (P.elem t))) (h : (Instr.slice t v none (some (.int .i64 y)) none).run P w = .ok u w) : (execOp a.eval o).run P w = .ok (.value u) w := by
  simp [execOp, hop, hs, h2, run_sliceAt_slice w t _ _ _ _ ht, h, Result.andThen]
theorem yieldsIf_ld {P : Program} {ops : Array Oper} {S : World → Prop} {op : Oper} {a : Act} (hw : Region.wanted op (yielded ops a.tmps) = true) (ty : TypeId) (x : Operand) (ho : op.op = .load ty x)
    (p : Addr) (hx : a.eval x = .pointer (some p)) {v : Value} (hl : ∀ w, S w → (Instr.loadAt ty (.pointer (some p))).run P w = .ok v w) : YieldsIf P ops S op v a :=
  .inl ⟨hw, fun w hS => by simp [execOp, ho, hx, hl w hS, Result.andThen]⟩
theorem wpList_val_g {P : Program} {w w' : World} {ops : Array Oper} {rest : List Oper} {o : Oper} {a : Act} {Q : Exit → Act → World → Prop} {v : Value} (hw : Region.wanted o (yielded ops a.tmps) = true)
    (h : (execOp a.eval o).run P w = .ok (.value v) w') (k : wpList P ops Q rest (a.put o.dst v) w') : wpList P ops Q (o :: rest) a w :=
  wpList_step fun K hK => by
    rw [if_pos hw]
    unfold Oper.wp
    rw [h]
    exact hK _ _ k
theorem one_nums : numsL oneL = [1, 3, 2, 1, 44, 0, 0, 0, 0, 7] := by decide
theorem one_mid : ((packL oneL).drop 40).take (50 - 40) = [1, 3, 2, 1, 44, 0, 0, 0, 0, 7] := by
  have h : packL oneL = (mark ++ oneL.pool) ++ (numsL oneL ++ (List.replicate 174 0 ++ Hs.sha (headL oneL))) := by simp [packL, headL, -List.reduceReplicate]
  rw [h, ← one_nums]
  exact seg_app _ _ _ 40 10 (by simp [mark, oneL_len]) (numsL_length _)
/-- A yes that leaves all as it was. -/
def Yes (w : World) (e : Ending) (w' : World) : Prop := e = .returned (.bool true) ∧ Frm [] w w'
def PackOneP (PL : List UInt8) (w : World) (r : Ending) (w' : World) : Prop := ∃ a cap sp, r = .returned (.tuple #[.slice a 256 cap, .int .i64 0]) ∧ OwnB 5 w' (.slice a 256 cap) PL sp ∧ Frm [] w w' ∧ Fresh w (.slice a 256 cap)
theorem PackOne (w : World) (hG : Hs.Glob w) : Calls Tryz.prog 19 #[lv oneL] w (PackOneP (packL oneL) w) := by
  have h := Pack_any oneL oneL_len w hG
  refine h.mono fun r w' ⟨a, cap, sp, e, o, f, n⟩ => ?_
  rw [packO_yes one_may, packL_length oneL_len] at e n
  rw [packO_yes one_may] at o
  rw [packL_length oneL_len] at o
  rw [mayE_yes one_may] at e
  exact ⟨a, cap, sp, e, o, f, n⟩
theorem UnpackOne (v : Value) (sp : List UInt8) (w : World) (hS : SlB w v (packL oneL) sp) (hG : Hs.Glob w) : Calls Tryz.prog 10 #[v] w fun r w' => r = .returned (.tuple #[lv oneL, .int .i64 0]) ∧ Frm [] w w' := by
  have h := Unpack_any v _ sp w hS (by rw [packL_length oneL_len]; decide) hG
  unfold UnpP at h
  rw [unp_pack oneL_len one_may] at h
  exact h
theorem ThereOne (w : World) : Calls Tryz.prog 15 #[lv oneL, idv oneL.pool, .int .i64 1, .int .i64 7] w fun r w' => r = .returned (.bool true) ∧ Frm [] w w' := by
  have h := There_any oneL oneL.pool 1 7 oneL_len oneL_len w
  rw [show thereB oneL oneL.pool 1 7 = true by decide] at h
  exact h
theorem eql_one (W : World) : (binOp .eql 28 (lv oneL) (lv oneL)).run Tryz.prog W = .ok (.bool true) W := by
  rw [eql28 _ _ oneL_len oneL_len]; simp
set_option maxHeartbeats 4000000 in
theorem awake_any (w : World) (hG : Hs.Glob w) : Calls Tryz.prog 8 #[] w (Yes w) := by
  have HG := Lib.hid hG
  have HP := PackOne
  have HU := UnpackOne
  have hlen := packL_length oneL_len
  have h8 := packL_mark oneL
  have h10 := one_mid
  clear hG
  generalize packL oneL = PL at *
  have HP1 := Lib.hid HP
  have HU1 := Lib.hid HU
  have HL := Lib.hid hlen
  have H8 := Lib.hid h8
  have H10 := Lib.hid h10
  clear HP HU hlen h8 h10
  have HOL := Lib.hid oneL_len
  have HT := Lib.hid ThereOne
  have HON := Lib.hid one_any
  have HEQ := Lib.hid eql_one
  have HGD := Lib.hid (fun op x y W => lab_guard op x y oneL oneL W)
  generalize oneL = l1 at *
  go_enter Tryz.func8, Tryz.ntmps8
  go_upto_region 2 with (first
    | (go_at_call 17; refine (HON.out _).mono ?_; rintro r w1 ⟨rfl, f1⟩)
    | (go_at_call 19; refine (HP1.out _ (HG.out.keep f1 (by simp))).mono ?_; rintro r w2 ⟨a, cap, sp, rfl, o2, f2, n2⟩))
  have F2 := Lib.hid (f1.trans f2 (by simp))
  have S2 := Lib.hid o2.sl
  obtain ⟨a3, c3, hs3, S3⟩ := slice_h BT o2.sl 8 (by rw [HL.out]; omega)
  obtain ⟨a4, c4, hs4, S4⟩ := slice_lh BT o2.sl 40 50 (by omega) (by rw [HL.out]; omega)
  rw [H8.out] at S3
  rw [H10.out] at S4
  have hcv := convert_bytes BT S3 Tryz.underlying9
  have H3 := Lib.hid (fun wx => hs3 8 wx rfl)
  have H4 := Lib.hid (fun wx => hs4 40 50 wx rfl rfl)
  have SS4 := Lib.hid S4
  clear hs3 hs4 S3 S4 o2 n2 f1 f2
  go_upto_region 4 with (first
    | ((with_reducible (show wpList _ _ _ (Oper.mk _ (Op.slice 22 (.tmp 18) _ _ _) _ _ _ _ :: _) _ _)); refine wpList_val_g (by rfl) (exec_slice_hA (.tmp 18) (.const (.int .i64 8)) rfl rfl rfl BT.sl (H3.out _)) ?_)
    | ((with_reducible (show wpList _ _ _ (Oper.mk _ (Op.slice 22 (.tmp 24) _ _ _) _ _ _ _ :: _) _ _)); refine wpList_val_g (by rfl) (exec_slice_lh (.tmp 24) (.const (.int .i64 40)) (.const (.int .i64 50)) rfl rfl rfl rfl BT.sl (H4.out _)) ?_)
    | (go_at_call 20; refine (Same_any (.slice a4 10 c4) _ [1, 3, 2, 1, 44, 0, 0, 0, 0, 7] _ [1, 3, 2, 1, 44, 0, 0, 0, 0, 7] [] _ (SS4.out.keep ((Frm.refl [] _).alloc _) (by simp)) (Hs.slb_new w2 [1, 3, 2, 1, 44, 0, 0, 0, 0, 7] 10 #[.int .u8 1, .int .u8 3, .int .u8 2, .int .u8 1, .int .u8 44, .int .u8 0, .int .u8 0, .int .u8 0, .int .u8 0, .int .u8 7] (0, 0) rfl rfl (by simp [maxLen]))).mono ?_; rintro r w3 ⟨rfl, rfl⟩))
  have f3 : Frm [] w2 (w2.alloc (.cells #[.int .u8 1, .int .u8 3, .int .u8 2, .int .u8 1, .int .u8 44, .int .u8 0, .int .u8 0, .int .u8 0, .int .u8 0, .int .u8 7] 5)) := (Frm.refl [] w2).alloc _
  have S3 := Lib.hid (S2.out.keep f3 (by simp))
  have F3 := Lib.hid (F2.out.trans f3 (by simp))
  clear f3 hcv
  generalize w2.alloc (.cells #[.int .u8 1, .int .u8 3, .int .u8 2, .int .u8 1, .int .u8 44, .int .u8 0, .int .u8 0, .int .u8 0, .int .u8 0, .int .u8 7] 5) = W3 at *
  have HUp := Lib.hid (HU1.out _ _ _ S3.out (HG.out.keep F3.out (by simp)))
  have hol := HOL.out
  go_upto_region 5 with (first
    | ((with_reducible (show wpList _ _ _ (Oper.mk _ (Op.alloc 28) _ _ _ _ :: _) _ _)); refine wpList_lay28 rfl rfl rfl _ _ rfl (l := l1) hol rfl rfl ?_)
    | (go_at_call 10; refine HUp.out.mono ?_; rintro r W4 ⟨rfl, f4⟩))
  have f5 : Frm [] W4 (W4.alloc (.cells (lc l1).toArray 28)) := (Frm.refl [] W4).alloc _
  have B5 := Lib.hid (LB.new W4 hol)
  have F5 := Lib.hid ((F3.out.trans f4 (by simp)).trans f5 (by simp))
  clear f4 f5 S3 F3 HUp hol S2 F2 H3 H4 SS4
  generalize W4.alloc (.cells (lc l1).toArray 28) = W5 at *
  generalize W4.heap.size = L at *
  have hq := HEQ.out
  have hgd := HGD.out
  refine wp_region_held_drew (S := fun z => Frm [] W5 z) (by kernel_rfl) ((Frm.refl [] W5).drew) (fun hHeld => ?_)
  refine wpAnyH_take (i := 0) (oi := { dst := some 35, op := Op.move (Operand.tmp 4), type := 29, pos := "outright.go:26", after := #[], guard := none }) (v := ?_) rfl (by kernel_rfl) (by kernel_rfl) (by kernel_rfl) (fun _ _ _ h => h) (Or.inl ⟨by rfl, ?_⟩) hHeld ?_
  rotate_left
  focus (intro z hSw; clear hSw; go_simp; try with_reducible rfl)
  try simp only [Act.put, List.setIfInBounds_toArray, List.set_cons_zero, List.set_cons_succ]
  refine wpAnyH_take (i := 1) (oi := { dst := some 36, op := Op.binOp BinOp.eql 29 (Operand.tmp 35) (Operand.const (Value.int IntKind.i64 0)) 29, type := 4, pos := "outright.go:26", after := #[{ on := 0, ground := Ground.data }], guard := none }) (v := ?_) rfl (by kernel_rfl) (by kernel_rfl) (by kernel_rfl) (fun _ _ _ h => h) (Or.inl ⟨by rfl, ?_⟩) hHeld ?_
  rotate_left
  focus (intro z hSw; clear hSw; go_simp; try with_reducible rfl)
  try simp only [Act.put, List.setIfInBounds_toArray, List.set_cons_zero, List.set_cons_succ]
  refine wpAnyH_take (i := 2) (oi := { dst := some 37, op := Op.move (Operand.tmp 36), type := 4, pos := "outright.go:26", after := #[{ on := 1, ground := Ground.data }], guard := none }) (v := ?_) rfl (by kernel_rfl) (by kernel_rfl) (by kernel_rfl) (fun _ _ _ h => h) (Or.inl ⟨by rfl, ?_⟩) hHeld ?_
  rotate_left
  focus (intro z hSw; clear hSw; go_simp; try with_reducible rfl)
  try simp only [Act.put, List.setIfInBounds_toArray, List.set_cons_zero, List.set_cons_succ]
  refine wpAnyH_take (i := 3) (oi := { dst := some 38, op := Op.load 28 (Operand.tmp 3), type := 28, pos := "outright.go:26", after := #[{ on := 2, ground := Ground.guard }], guard := some (2, true) }) rfl (by kernel_rfl) (by kernel_rfl) (by kernel_rfl) (fun _ _ _ h => h) (yieldsIf_ld (by rfl) 28 _ rfl _ rfl (fun z hSw => (B5.out.keep0 hSw).gets.all)) hHeld ?_
  try simp only [Act.put, List.setIfInBounds_toArray, List.set_cons_zero, List.set_cons_succ]
  refine wpAnyH_ready (rs := [4]) (by kernel_rfl) (by simp) ?_
  refine AllReadyH.cons (o := { dst := some 39, op := Op.call { callee := Callee.value (Operand.func 17), args := #[], argTypes := #[] }, type := 28, pos := "outright.go:26", after := #[{ on := 2, ground := Ground.chain }, { on := 2, ground := Ground.guard }], guard := some (2, true) }) rfl (fun K hK => ?_) AllReadyH.nil
  go_simp
  refine (HON.out _).mono ?_
  rintro r wn ⟨rfl, fn⟩
  refine hK.out _ _ ?_ (fun hNext => ?_)
  · exact hHeld.trans fn (by simp)
  clear hK K hHeld
  have hHeld := hNext
  clear hNext
  try simp only [Act.put, List.setIfInBounds_toArray, List.set_cons_zero, List.set_cons_succ]
  refine wpAnyH_take (i := 5) (oi := { dst := some 40, op := Op.binOp BinOp.eql 28 (Operand.tmp 38) (Operand.tmp 39) 28, type := 4, pos := "outright.go:26", after := #[{ on := 3, ground := Ground.data }, { on := 4, ground := Ground.data }, { on := 2, ground := Ground.guard }], guard := some (2, true) }) (v := ?_) rfl (by kernel_rfl) (by kernel_rfl) (by kernel_rfl) (fun _ _ _ h => h) (Or.inl ⟨by rfl, ?_⟩) hHeld ?_
  rotate_left
  focus (intro z hSw; clear hSw; go_simp; try with_reducible rfl)
  try simp only [Act.put, List.setIfInBounds_toArray, List.set_cons_zero, List.set_cons_succ]
  refine wpAnyH_take (i := 6) (oi := { dst := some 41, op := Op.pick (Operand.tmp 37) (Operand.tmp 40) (Operand.const (Value.bool false)), type := 4, pos := "outright.go:26", after := #[{ on := 2, ground := Ground.data }, { on := 5, ground := Ground.data }], guard := none }) (v := ?_) rfl (by kernel_rfl) (by kernel_rfl) (by kernel_rfl) (fun _ _ _ h => h) (Or.inl ⟨by rfl, ?_⟩) hHeld ?_
  rotate_left
  focus (intro z hSw; clear hSw; go_simp; try with_reducible rfl)
  try simp only [Act.put, List.setIfInBounds_toArray, List.set_cons_zero, List.set_cons_succ]
  refine wpAnyH_take (i := 7) (oi := { dst := some 42, op := Op.move (Operand.tmp 41), type := 4, pos := "outright.go:26", after := #[{ on := 6, ground := Ground.data }, { on := 4, ground := Ground.chain }], guard := none }) (v := ?_) rfl (by kernel_rfl) (by kernel_rfl) (by kernel_rfl) (fun _ _ _ h => h) (Or.inl ⟨by rfl, ?_⟩) hHeld ?_
  rotate_left
  focus (intro z hSw; clear hSw; go_simp; try with_reducible rfl)
  try simp only [Act.put, List.setIfInBounds_toArray, List.set_cons_zero, List.set_cons_succ]
  refine wpAnyH_take (i := 8) (oi := { dst := some 43, op := Op.load 28 (Operand.tmp 3), type := 28, pos := "outright.go:26", after := #[{ on := 7, ground := Ground.guard }], guard := some (7, true) }) rfl (by kernel_rfl) (by kernel_rfl) (by kernel_rfl) (fun _ _ _ h => h) (yieldsIf_ld (by rfl) 28 _ rfl _ rfl (fun z hSw => (B5.out.keep0 hSw).gets.all)) hHeld ?_
  try simp only [Act.put, List.setIfInBounds_toArray, List.set_cons_zero, List.set_cons_succ]
  refine wpAnyH_take (i := 9) (oi := { dst := some 44, op := Op.fieldAddr 28 (Operand.tmp 3) 0, type := 0, pos := "outright.go:26", after := #[{ on := 7, ground := Ground.guard }], guard := some (7, true) }) (v := ?_) rfl (by kernel_rfl) (by kernel_rfl) (by kernel_rfl) (fun _ _ _ h => h) (Or.inl ⟨by rfl, ?_⟩) hHeld ?_
  rotate_left
  focus (intro z hSw; clear hSw; go_simp; try with_reducible rfl)
  try simp only [Act.put, List.setIfInBounds_toArray, List.set_cons_zero, List.set_cons_succ]
  refine wpAnyH_take (i := 10) (oi := { dst := some 45, op := Op.load 26 (Operand.tmp 44), type := 26, pos := "outright.go:26", after := #[{ on := 9, ground := Ground.data }, { on := 7, ground := Ground.guard }], guard := some (7, true) }) rfl (by kernel_rfl) (by kernel_rfl) (by kernel_rfl) (fun _ _ _ h => h) (yieldsIf_ld (by rfl) 26 _ rfl _ rfl (fun z hSw => (B5.out.keep0 hSw).gets.sum)) hHeld ?_
  try simp only [Act.put, List.setIfInBounds_toArray, List.set_cons_zero, List.set_cons_succ]
  refine wpAnyH_ready (rs := [11]) (by kernel_rfl) (by simp) ?_
  refine AllReadyH.cons (o := { dst := some 46, op := Op.call { callee := Callee.value (Operand.func 15), args := #[Operand.tmp 43, Operand.tmp 45, Operand.const (Value.int IntKind.i64 1), Operand.const (Value.int IntKind.i64 7)], argTypes := #[28, 26, 3, 3] }, type := 4, pos := "outright.go:26", after := #[{ on := 8, ground := Ground.data }, { on := 10, ground := Ground.data }, { on := 7, ground := Ground.chain }, { on := 7, ground := Ground.guard }], guard := some (7, true) }) rfl (fun K hK => ?_) AllReadyH.nil
  go_simp
  refine (HT.out _).mono ?_
  rintro r wn ⟨rfl, fn⟩
  refine hK.out _ _ ?_ (fun hNext => ?_)
  · exact hHeld.trans fn (by simp)
  clear hK K hHeld
  have hHeld := hNext
  clear hNext
  try simp only [Act.put, List.setIfInBounds_toArray, List.set_cons_zero, List.set_cons_succ]
  refine wpAnyH_take (i := 12) (oi := { dst := some 47, op := Op.pick (Operand.tmp 42) (Operand.tmp 46) (Operand.const (Value.bool false)), type := 4, pos := "outright.go:26", after := #[{ on := 7, ground := Ground.data }, { on := 11, ground := Ground.data }], guard := none }) (v := ?_) rfl (by kernel_rfl) (by kernel_rfl) (by kernel_rfl) (fun _ _ _ h => h) (Or.inl ⟨by rfl, ?_⟩) hHeld ?_
  rotate_left
  focus (intro z hSw; clear hSw; go_simp; try with_reducible rfl)
  try simp only [Act.put, List.setIfInBounds_toArray, List.set_cons_zero, List.set_cons_succ]
  refine wpAnyH_take (i := 13) (oi := { dst := some 0, op := Op.assign (Operand.tmp 47), type := 4, pos := "outright.go:26", after := #[{ on := 12, ground := Ground.data }, { on := 11, ground := Ground.chain }, { on := 0, ground := Ground.phase }, { on := 1, ground := Ground.phase }, { on := 2, ground := Ground.phase }, { on := 3, ground := Ground.phase }, { on := 4, ground := Ground.phase }, { on := 5, ground := Ground.phase }, { on := 6, ground := Ground.phase }, { on := 7, ground := Ground.phase }, { on := 8, ground := Ground.phase }, { on := 9, ground := Ground.phase }, { on := 10, ground := Ground.phase }, { on := 11, ground := Ground.phase }, { on := 12, ground := Ground.phase }], guard := none }) (v := ?_) rfl (by kernel_rfl) (by kernel_rfl) (by kernel_rfl) (fun _ _ _ h => h) (Or.inl ⟨by rfl, ?_⟩) hHeld ?_
  rotate_left
  focus (intro z hSw; clear hSw; go_simp; try with_reducible rfl)
  try simp only [Act.put, List.setIfInBounds_toArray, List.set_cons_zero, List.set_cons_succ]
  refine wpAnyH_done (by kernel_rfl) ?_ _
  go_wp2_with fail
  go_ret
  exact ⟨rfl, F5.out.trans hHeld (by simp)⟩
end Go.Proofs.YtcnjjcnmjmcoiaaGreatDoor
