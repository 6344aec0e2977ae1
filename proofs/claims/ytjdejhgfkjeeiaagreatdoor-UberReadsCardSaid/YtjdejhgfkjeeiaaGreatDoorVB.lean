/-
  Contract of awake. No conditions but those that each theorem names.
-/
import Derived.Test.YtjdejhgfkjeeiaaGreatDoorVA
import Derived.Test.YtjdejhgfkjeeiaaGreatDoorUY
namespace Go.Proofs.YtjdejhgfkjeeiaaGreatDoor
open Go.RowKit
set_option linter.unusedVariables false
set_option linter.unusedSimpArgs false
set_option maxRecDepth 100000

open Pt (Pt may enc readPt readE zeroPt pc pv PtV SlA OwnA)
theorem slice_h {P : Program} {tS T : TypeId} (B : ByteTys P tS T) {w : World} {a : Option Addr} {n cap : Nat} {l sp : List UInt8} (h : SlB w (.slice a n cap) l sp) (hi : Nat) (h2 : hi ≤ l.length) :
    ∃ a' c', (∀ (y : Int) (wx : World), y = hi → (Instr.slice tS (.slice a n cap) none (some (.int .i64 y)) none).run P wx = .ok (.slice a' hi c') wx) ∧ SlB w (.slice a' hi c') (l.take hi) (l.drop hi ++ sp) := by
  obtain ⟨a2, c2, e, hle, hm⟩ := h.form
  cases e
  have hc := h.cut 0 hi (Nat.zero_le _) h2
  simp only [List.drop_zero, Nat.sub_zero] at hc
  refine ⟨_, _, fun y wx hy => ?_, hc⟩
  subst hy
  obtain ⟨i, hi', hz, hs, hby⟩ := info_parts B.info
  have he : P.elem tS = T := by simp [Program.elem, B.sl]
  have hsz : (sizeOf (P.elem tS)).run P wx = .ok 1 wx := by rw [he]; simp [sizeOf, typeInfo, hi', hs]
  rw [run_slice_h (P := P) wx tS a l.length cap (by rw [he]; exact B.sl) .i64 hi (by omega) (by omega), hsz]
  simp [Result.andThen, sliced]
theorem exec_slice_lhA {P : Program} {o : Oper} {a : Act} {w : World} {t : TypeId} {v u : Value} {x y : Int} (s lo hi : Operand) (hop : o.op = Op.slice t s (some lo) (some hi) none) (hs : a.eval s = v) (h1 : a.eval lo = .int .i64 x) (h2 : a.eval hi = .int .i64 y)
    (ht : P.underlying t = some (.slice (P.elem t))) (h : (Instr.slice t v (some (.int .i64 x)) (some (.int .i64 y)) none).run P w = .ok u w) : (execOp a.eval o).run P w = .ok (.value u) w := by
  simp [execOp, hop, hs, h1, h2, run_sliceAt_slice w t _ _ _ _ ht, h, Result.andThen]
theorem exec_slice_hA {P : Program} {o : Oper} {a : Act} {w : World} {t : TypeId} {v u : Value} {y : Int} (s hi : Operand) (hop : o.op = Op.slice t s none (some hi) none) (hs : a.eval s = v) (h2 : a.eval hi = .int .i64 y)
    (ht : P.underlying t = some (.slice (P.elem t))) (h : (Instr.slice t v none (some (.int .i64 y)) none).run P w = .ok u w) : (execOp a.eval o).run P w = .ok (.value u) w := by
  simp [execOp, hop, hs, h2, run_sliceAt_slice w t _ _ _ _ ht, h, Result.andThen]
def midB : List UInt8 := [0, 0, 0, 1, 2, 0, 1, 44, 0]
theorem one_mid : ((packU oneU).drop 40).take (49 - 40) = midB := by
  have h : packU oneU = (mark ++ oneU.pool) ++ (midB ++ (List.replicate 175 0 ++ Hs.sha (headU oneU))) := by
    have e : headU oneU = (mark ++ oneU.pool) ++ (midB ++ List.replicate 175 0) := by decide +kernel
    unfold packU
    rw [e]
    simp only [List.append_assoc]
  rw [h]
  exact seg_app _ _ _ 40 9 rfl rfl
/-- A yes that leaves all as it was. -/
def Yes (w : World) (e : Ending) (w' : World) : Prop := e = .returned (.bool true) ∧ Frm [] w w'
def PackOneP (PL : List UInt8) (w : World) (r : Ending) (w' : World) : Prop := ∃ a cap sp, r = .returned (.tuple #[.slice a 256 cap, .int .i64 0]) ∧ OwnB 5 w' (.slice a 256 cap) PL sp ∧ Frm [] w w'
theorem PackOne (w : World) (hG : Hs.Glob w) : Calls Tryz.prog 16 #[uv nilS oneU] w (PackOneP (packU oneU) w) := by
  refine (Pack_any _ oneU w (oneU_v w) (by decide) hG).mono fun r w' ⟨a, cap, sp, e, o, f, n⟩ => ?_
  rw [packO_yes oneU_may, packU_length oneU_wf oneU_may] at e
  rw [packO_yes oneU_may] at o
  rw [packU_length oneU_wf oneU_may] at o
  rw [mayE_yes oneU_may] at e
  exact ⟨a, cap, sp, e, o, f⟩
def UnpOneP (u : Ub) (w : World) (r : Ending) (w' : World) : Prop := ∃ a cap, r = .returned (.tuple #[uv (.slice a u.root.ads.length cap) u, .int .i64 0]) ∧ UbV w' (uv (.slice a u.root.ads.length cap) u) u ∧ Frm [] w w'
theorem UnpackOne {s0 s1 s2 : Addr} (v : Value) (sp : List UInt8) (w : World) (hS : SlB w v (packU oneU) sp) (hs : Sens w s0 s1 s2) (hG : Hs.Glob w) : Calls Tryz.prog 26 #[v] w (UnpOneP oneU w) := by
  refine (Unpack_any v _ sp w hS (by rw [packU_length oneU_wf oneU_may]; decide) hs hG).mono fun r w' h => ?_
  unfold UnpP at h
  rw [unp_pack oneU_wf oneU_may] at h
  obtain ⟨a, cap, sp, e, h1, h2, h3⟩ := h
  exact ⟨a, cap, e, ⟨a, cap, sp, rfl, h1, oneU_wf⟩, h2⟩
set_option maxHeartbeats 4000000 in
theorem awake_any {s0 s1 s2 : Addr} (w : World) (hs : Sens w s0 s1 s2) (hG : Hs.Glob w) : Calls Tryz.prog 14 #[] w (Yes w) := by
  have HG := Lib.hid hG
  have HSE := Lib.hid hs
  have HP1 := Lib.hid PackOne
  have HU1 := Lib.hid (fun v sp w h1 h2 h3 => UnpackOne (s0 := s0) (s1 := s1) (s2 := s2) v sp w h1 h2 h3)
  have HL := Lib.hid (packU_length oneU_wf oneU_may)
  have H8 := Lib.hid (packU_mark oneU)
  have H10 := Lib.hid one_mid
  have HON := Lib.hid One_any
  have HSU := Lib.hid (fun x w (hx : UbV w x oneU) => SameUber_any x (uv nilS oneU) oneU oneU w hx (oneU_v w) (by decide))
  have HSA := Lib.hid (fun x w (hx : UbV w x oneU) => USame_any x (uv nilS oneU) oneU oneU w hx (oneU_v w) (by decide))
  rw [sameU_refl] at HSU HSA
  have HWF := Lib.hid oneU_wf
  clear hG hs
  generalize packU oneU = PL at *
  generalize oneU = l1 at *
  go_enter Tryz.func14, Tryz.ntmps14
  go_upto_region 2 with (first
    | (go_at_call 30; refine (HON.out _).mono ?_; rintro r w1 ⟨rfl, f1⟩)
    | (go_at_call 16; refine (HP1.out _ (HG.out.keep f1 (by simp))).mono ?_; rintro r w2 ⟨a, cap, sp, rfl, o2, f2⟩))
  have F2 := Lib.hid (f1.trans f2 (by simp))
  have S2 := Lib.hid o2.sl
  obtain ⟨a3, c3, hs3, S3⟩ := slice_h BT o2.sl 8 (by rw [HL.out]; omega)
  obtain ⟨a4, c4, hs4, S4⟩ := slice_lh BT o2.sl 40 49 (by omega) (by rw [HL.out]; omega)
  rw [H8.out] at S3
  rw [H10.out] at S4
  have hcv := convert_bytes BT S3 Tryz.underlying9
  have H3 := Lib.hid (fun wx => hs3 8 wx rfl)
  have H4 := Lib.hid (fun wx => hs4 40 49 wx rfl rfl)
  have SS4 := Lib.hid S4
  clear hs3 hs4 S3 S4 o2 f1 f2
  go_upto_region 4 with (first
    | ((with_reducible (show wpList _ _ _ (Oper.mk _ (Op.slice 32 (.tmp 18) _ _ _) _ _ _ _ :: _) _ _)); refine wpList_val_g (by rfl) (exec_slice_hA (.tmp 18) (.const (.int .i64 8)) rfl rfl rfl BT.sl (H3.out _)) ?_)
    | ((with_reducible (show wpList _ _ _ (Oper.mk _ (Op.slice 32 (.tmp 24) _ _ _) _ _ _ _ :: _) _ _)); refine wpList_val_g (by rfl) (exec_slice_lhA (.tmp 24) (.const (.int .i64 40)) (.const (.int .i64 49)) rfl rfl rfl rfl BT.sl (H4.out _)) ?_)
    | (go_at_call 18; refine (Same_any (.slice a4 9 c4) _ midB _ midB [] _ (SS4.out.keep ((Frm.refl [] _).alloc _) (by simp)) (Hs.slb_new w2 midB 9 #[.int .u8 0, .int .u8 0, .int .u8 0, .int .u8 1, .int .u8 2, .int .u8 0, .int .u8 1, .int .u8 44, .int .u8 0] (0, 0) rfl rfl (by simp [maxLen, midB]))).mono ?_; rintro r w3 ⟨rfl, rfl⟩; rw [beq_self_eq_true]))
  have f3 : Frm [] w2 (w2.alloc (.cells #[.int .u8 0, .int .u8 0, .int .u8 0, .int .u8 1, .int .u8 2, .int .u8 0, .int .u8 1, .int .u8 44, .int .u8 0] 5)) := (Frm.refl [] w2).alloc _
  have S3 := Lib.hid (S2.out.keep f3 (by simp))
  have F3 := Lib.hid (F2.out.trans f3 (by simp))
  clear f3 hcv
  generalize w2.alloc (.cells #[.int .u8 0, .int .u8 0, .int .u8 0, .int .u8 1, .int .u8 2, .int .u8 0, .int .u8 1, .int .u8 44, .int .u8 0] 5) = W3 at *
  have HUp := Lib.hid (HU1.out _ _ _ S3.out (HSE.out.keep0 F3.out) (HG.out.keep F3.out (by simp)))
  have hwf := HWF.out
  go_upto_region 5 with (first
    | ((with_reducible (show wpList _ _ _ (Oper.mk _ (Op.alloc 28) _ _ _ _ :: _) _ _)); refine wpList_lay28 rfl rfl rfl _ _ rfl (u := l1) rfl hwf rfl rfl ?_)
    | (go_at_call 26; refine HUp.out.mono ?_; rintro r W4 ⟨xa, xc, rfl, hx, f4⟩))
  have f5 : Frm [] W4 (W4.alloc (.cells (uc (.slice xa l1.root.ads.length xc) l1).toArray 28)) := (Frm.refl [] W4).alloc _
  have B5 := Lib.hid (UB.new W4 (.slice xa l1.root.ads.length xc) hwf)
  have F5 := Lib.hid ((F3.out.trans f4 (by simp)).trans f5 (by simp))
  have HX := Lib.hid (hx.keep0 f5)
  clear f4 f5 S3 F3 HUp hwf S2 F2 H3 H4 SS4 hx
  generalize W4.alloc (.cells (uc (.slice xa l1.root.ads.length xc) l1).toArray 28) = W5 at *
  generalize W4.heap.size = L at *
  refine wp_region_held_drew (S := fun z => Frm [] W5 z) (by kernel_rfl) ((Frm.refl [] W5).drew) (fun hHeld => ?_)
  refine wpAnyH_take (i := 0) (oi := { dst := some 35, op := Op.move (Operand.tmp 4), type := 33, pos := "outright.go:20", after := #[], guard := none }) (v := ?_) rfl (by kernel_rfl) (by kernel_rfl) (by kernel_rfl) (fun _ _ _ h => h) (Or.inl ⟨by rfl, ?_⟩) hHeld ?_
  rotate_left
  focus (intro z hSw; clear hSw; go_simp; try with_reducible rfl)
  try simp only [Act.put, List.setIfInBounds_toArray, List.set_cons_zero, List.set_cons_succ]
  refine wpAnyH_take (i := 1) (oi := { dst := some 36, op := Op.binOp BinOp.eql 33 (Operand.tmp 35) (Operand.const (Value.int IntKind.i64 0)) 33, type := 4, pos := "outright.go:20", after := #[{ on := 0, ground := Ground.data }], guard := none }) (v := ?_) rfl (by kernel_rfl) (by kernel_rfl) (by kernel_rfl) (fun _ _ _ h => h) (Or.inl ⟨by rfl, ?_⟩) hHeld ?_
  rotate_left
  focus (intro z hSw; clear hSw; go_simp; try with_reducible rfl)
  try simp only [Act.put, List.setIfInBounds_toArray, List.set_cons_zero, List.set_cons_succ]
  refine wpAnyH_take (i := 2) (oi := { dst := some 37, op := Op.move (Operand.tmp 36), type := 4, pos := "outright.go:20", after := #[{ on := 1, ground := Ground.data }], guard := none }) (v := ?_) rfl (by kernel_rfl) (by kernel_rfl) (by kernel_rfl) (fun _ _ _ h => h) (Or.inl ⟨by rfl, ?_⟩) hHeld ?_
  rotate_left
  focus (intro z hSw; clear hSw; go_simp; try with_reducible rfl)
  try simp only [Act.put, List.setIfInBounds_toArray, List.set_cons_zero, List.set_cons_succ]
  refine wpAnyH_take (i := 3) (oi := { dst := some 38, op := Op.load 28 (Operand.tmp 3), type := 28, pos := "outright.go:20", after := #[{ on := 2, ground := Ground.guard }], guard := some (2, true) }) rfl (by kernel_rfl) (by kernel_rfl) (by kernel_rfl) (fun _ _ _ h => h) (yieldsIf_ld (by rfl) 28 _ rfl _ rfl (fun z hSw => (B5.out.keep0 hSw).gets.all)) hHeld ?_
  try simp only [Act.put, List.setIfInBounds_toArray, List.set_cons_zero, List.set_cons_succ]
  refine wpAnyH_ready (rs := [4]) (by kernel_rfl) (by simp) ?_
  refine AllReadyH.cons (o := { dst := some 39, op := Op.call { callee := Callee.value (Operand.func 30), args := #[], argTypes := #[] }, type := 28, pos := "outright.go:20", after := #[{ on := 2, ground := Ground.chain }, { on := 2, ground := Ground.guard }], guard := some (2, true) }) rfl (fun K hK => ?_) AllReadyH.nil
  go_simp
  refine (HON.out _).mono ?_
  rintro r wn ⟨rfl, fn⟩
  refine hK.out _ _ ?_ (fun hNext => ?_)
  · exact hHeld.trans fn (by simp)
  clear hK K hHeld
  have hHeld := hNext
  clear hNext
  try simp only [Act.put, List.setIfInBounds_toArray, List.set_cons_zero, List.set_cons_succ]
  refine wpAnyH_ready (rs := [5]) (by kernel_rfl) (by simp) ?_
  refine AllReadyH.cons (o := { dst := some 40, op := Op.call { callee := Callee.value (Operand.func 24), args := #[Operand.tmp 38, Operand.tmp 39], argTypes := #[28, 28] }, type := 4, pos := "outright.go:20", after := #[{ on := 3, ground := Ground.data }, { on := 4, ground := Ground.data }, { on := 4, ground := Ground.chain }, { on := 2, ground := Ground.guard }], guard := some (2, true) }) rfl (fun K hK => ?_) AllReadyH.nil
  go_simp
  refine (HSU.out _ _ (HX.out.keep0 hHeld)).mono ?_
  rintro r wn ⟨rfl, fn⟩
  refine hK.out _ _ ?_ (fun hNext => ?_)
  · exact hHeld.trans fn (by simp)
  clear hK K hHeld
  have hHeld := hNext
  clear hNext
  try simp only [Act.put, List.setIfInBounds_toArray, List.set_cons_zero, List.set_cons_succ]
  refine wpAnyH_take (i := 6) (oi := { dst := some 41, op := Op.pick (Operand.tmp 37) (Operand.tmp 40) (Operand.const (Value.bool false)), type := 4, pos := "outright.go:20", after := #[{ on := 2, ground := Ground.data }, { on := 5, ground := Ground.data }], guard := none }) (v := ?_) rfl (by kernel_rfl) (by kernel_rfl) (by kernel_rfl) (fun _ _ _ h => h) (Or.inl ⟨by rfl, ?_⟩) hHeld ?_
  rotate_left
  focus (intro z hSw; clear hSw; go_simp; try with_reducible rfl)
  try simp only [Act.put, List.setIfInBounds_toArray, List.set_cons_zero, List.set_cons_succ]
  refine wpAnyH_take (i := 7) (oi := { dst := some 42, op := Op.move (Operand.tmp 41), type := 4, pos := "outright.go:20", after := #[{ on := 6, ground := Ground.data }, { on := 5, ground := Ground.chain }], guard := none }) (v := ?_) rfl (by kernel_rfl) (by kernel_rfl) (by kernel_rfl) (fun _ _ _ h => h) (Or.inl ⟨by rfl, ?_⟩) hHeld ?_
  rotate_left
  focus (intro z hSw; clear hSw; go_simp; try with_reducible rfl)
  try simp only [Act.put, List.setIfInBounds_toArray, List.set_cons_zero, List.set_cons_succ]
  refine wpAnyH_take (i := 8) (oi := { dst := some 43, op := Op.load 28 (Operand.tmp 3), type := 28, pos := "outright.go:20", after := #[{ on := 7, ground := Ground.guard }], guard := some (7, true) }) rfl (by kernel_rfl) (by kernel_rfl) (by kernel_rfl) (fun _ _ _ h => h) (yieldsIf_ld (by rfl) 28 _ rfl _ rfl (fun z hSw => (B5.out.keep0 hSw).gets.all)) hHeld ?_
  try simp only [Act.put, List.setIfInBounds_toArray, List.set_cons_zero, List.set_cons_succ]
  refine wpAnyH_ready (rs := [9]) (by kernel_rfl) (by simp) ?_
  refine AllReadyH.cons (o := { dst := some 44, op := Op.call { callee := Callee.value (Operand.func 30), args := #[], argTypes := #[] }, type := 28, pos := "outright.go:20", after := #[{ on := 7, ground := Ground.chain }, { on := 7, ground := Ground.guard }], guard := some (7, true) }) rfl (fun K hK => ?_) AllReadyH.nil
  go_simp
  refine (HON.out _).mono ?_
  rintro r wn ⟨rfl, fn⟩
  refine hK.out _ _ ?_ (fun hNext => ?_)
  · exact hHeld.trans fn (by simp)
  clear hK K hHeld
  have hHeld := hNext
  clear hNext
  try simp only [Act.put, List.setIfInBounds_toArray, List.set_cons_zero, List.set_cons_succ]
  refine wpAnyH_ready (rs := [10]) (by kernel_rfl) (by simp) ?_
  refine AllReadyH.cons (o := { dst := some 45, op := Op.call { callee := Callee.value (Operand.func 21), args := #[Operand.tmp 43, Operand.tmp 44], argTypes := #[28, 28] }, type := 4, pos := "outright.go:20", after := #[{ on := 8, ground := Ground.data }, { on := 9, ground := Ground.data }, { on := 9, ground := Ground.chain }, { on := 7, ground := Ground.guard }], guard := some (7, true) }) rfl (fun K hK => ?_) AllReadyH.nil
  go_simp
  refine (HSA.out _ _ (HX.out.keep0 hHeld)).mono ?_
  rintro r wn ⟨rfl, fn⟩
  refine hK.out _ _ ?_ (fun hNext => ?_)
  · exact hHeld.trans fn (by simp)
  clear hK K hHeld
  have hHeld := hNext
  clear hNext
  try simp only [Act.put, List.setIfInBounds_toArray, List.set_cons_zero, List.set_cons_succ]
  refine wpAnyH_take (i := 11) (oi := { dst := some 46, op := Op.pick (Operand.tmp 42) (Operand.tmp 45) (Operand.const (Value.bool false)), type := 4, pos := "outright.go:20", after := #[{ on := 7, ground := Ground.data }, { on := 10, ground := Ground.data }], guard := none }) (v := ?_) rfl (by kernel_rfl) (by kernel_rfl) (by kernel_rfl) (fun _ _ _ h => h) (Or.inl ⟨by rfl, ?_⟩) hHeld ?_
  rotate_left
  focus (intro z hSw; clear hSw; go_simp; try with_reducible rfl)
  try simp only [Act.put, List.setIfInBounds_toArray, List.set_cons_zero, List.set_cons_succ]
  refine wpAnyH_take (i := 12) (oi := { dst := some 0, op := Op.assign (Operand.tmp 46), type := 4, pos := "outright.go:20", after := #[{ on := 11, ground := Ground.data }, { on := 10, ground := Ground.chain }, { on := 0, ground := Ground.phase }, { on := 1, ground := Ground.phase }, { on := 2, ground := Ground.phase }, { on := 3, ground := Ground.phase }, { on := 4, ground := Ground.phase }, { on := 5, ground := Ground.phase }, { on := 6, ground := Ground.phase }, { on := 7, ground := Ground.phase }, { on := 8, ground := Ground.phase }, { on := 9, ground := Ground.phase }, { on := 10, ground := Ground.phase }, { on := 11, ground := Ground.phase }], guard := none }) (v := ?_) rfl (by kernel_rfl) (by kernel_rfl) (by kernel_rfl) (fun _ _ _ h => h) (Or.inl ⟨by rfl, ?_⟩) hHeld ?_
  rotate_left
  focus (intro z hSw; clear hSw; go_simp; try with_reducible rfl)
  try simp only [Act.put, List.setIfInBounds_toArray, List.set_cons_zero, List.set_cons_succ]
  refine wpAnyH_done (by kernel_rfl) ?_ _
  go_wp2_with fail
  go_ret
  exact ⟨rfl, F5.out.trans hHeld (by simp)⟩
end Go.Proofs.YtjdejhgfkjeeiaaGreatDoor
