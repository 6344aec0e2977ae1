/-
  The walk of LabelPacks. No conditions but those that each theorem names.
-/
import Derived.Test.YtcnjjcnmjmcoiaaDoorLK
import Derived.Test.YtcnjjcnmjmcoiaaDoorLF
import Derived.Test.YtcnjjcnmjmcoiaaDoorRL

namespace Go.Proofs.YtcnjjcnmjmcoiaaDoor
open Go.RowKit
set_option linter.unusedVariables false
set_option linter.unusedSimpArgs false
set_option maxRecDepth 100000

theorem OverB (v : Value) (l sp : List UInt8) (w : World) (hO : OwnB 5 w v l sp) : Calls Tryd.prog 10 #[v] w fun r w' => r = .returned (.tuple #[]) ∧ Frm (blk v) w w' := by
  have hO' := hO
  obtain ⟨h1, ⟨rfl, h2, h3⟩ | ⟨g, cap, rfl, h3, h4, h5, h6⟩⟩ := hO'
  · have : sp = [] := by simpa [bvs] using h3
    exact Over_any _ l sp w hO (by rw [h2, this]; decide)
  · exact (Hs.Over_xor g _ cap l sp w hO).mono fun r w' ⟨e, _, f⟩ => ⟨e, by simpa [blk] using f⟩
set_option maxHeartbeats 4000000 in
theorem packs_law (l : Lab) (hw : WfL l) (w : World) (hG : Hs.Glob w) : Calls Tryd.prog 3 #[lv l] w (Yes w) := by
  have B1 := LB.new w hw.pool
  have hlv : lv l = .agg (lc l).toArray := rfl
  have f : Frm [] w (w.alloc (.cells (lc l).toArray 25)) := (Frm.refl [] w).alloc _
  have HG := Lib.hid hG
  have HA := Lib.hid (fun W (f : Frm [] w W) => awake_any W (HG.out.keep f (by simp)))
  have HP := Lib.hid (fun W (f : Frm [] w W) => Pack_any l hw.pool W (HG.out.keep f (by simp)))
  have HR := Lib.hid (fun W => RefPack_any l hw.pool W)
  have HC := Lib.hid (fun W => Check_any l hw.pool W)
  have HD := Lib.hid (fun W => RefCheck_any l hw.pool W)
  unfold PackP at HP HR
  rw [hlv]
  clear hlv hG hw
  generalize hA : (lc l).toArray = A at *
  go_enter Tryd.func3, Tryd.ntmps3
  go_upto_region 1 with (fail)
  generalize w.alloc (.cells A 25) = W0 at *
  have B0 := Lib.hid B1
  have F0 := Lib.hid f
  have G0 := Lib.hid B1.gets.all
  clear hA B1 f
  generalize packO l = P at *
  generalize mayE l = e at *
  go_upto_region 2 with (first | ((with_reducible (show wpList _ _ _ (Oper.mk _ (Op.load 25 _) _ _ _ _ :: _) _ _)); refine wpList_load_g (by rfl) 25 _ rfl _ rfl G0.out ?_) | (go_at_call 5; refine (HP.out _ F0.out).mono ?_; rintro r W1 ⟨a1, c1, s1, rfl, o1, f1, n1⟩))
  have F1 := Lib.hid (F0.out.trans f1 (by simp))
  have BL1 := Lib.hid (B0.out.keep0 f1)
  have G1 := Lib.hid BL1.out.gets.all
  have O1 := Lib.hid o1
  have NF := Lib.hid (show ∀ k ∈ blk (.slice a1 P.length c1), w.heap.size < k from fun k hk => Nat.lt_of_lt_of_le B0.out.lt (n1 k hk))
  clear f1 n1 o1 F0 B0 G0
  go_upto_region 3 with (first | ((with_reducible (show wpList _ _ _ (Oper.mk _ (Op.load 25 _) _ _ _ _ :: _) _ _)); refine wpList_load_g (by rfl) 25 _ rfl _ rfl G1.out ?_) | (go_at_call 6; refine (HR.out _).mono ?_; rintro r W2 ⟨a2, c2, s2, rfl, o2, f2, n2⟩))
  have F2 := Lib.hid (F1.out.trans f2 (by simp))
  have BL2 := Lib.hid (BL1.out.keep0 f2)
  have O12 := Lib.hid (O1.out.keep f2 (by simp))
  have O2 := Lib.hid o2
  have ND := Lib.hid (show ∀ k ∈ blk (.slice a2 P.length c2), k ∉ blk (.slice a1 P.length c1) from fun k hk hm => by have h1 := n2 k hk; have h2 := O1.out.lt k hm; omega)
  clear f2 o2 n2 F1 BL1 G1 O1
  go_upto_region 3 with (fail)
  refine wp_region_held_drew (S := fun z => Frm [] W2 z) (by kernel_rfl) ((Frm.refl [] W2).drew) (fun hHeld => ?_)
  refine wpAnyH_take (i := 0) (oi := { dst := some 19, op := Op.move (Operand.tmp 3), type := 26, pos := "law.go:15", after := #[], guard := none }) (v := ?_) rfl (by kernel_rfl) (by kernel_rfl) (by kernel_rfl) (fun _ _ _ h => h) (Or.inl ⟨by rfl, ?_⟩) hHeld ?_
  rotate_left
  focus (intro z hSw; clear hSw; go_simp; try with_reducible rfl)
  try simp only [Act.put, List.setIfInBounds_toArray, List.set_cons_zero, List.set_cons_succ]
  refine wpAnyH_take (i := 1) (oi := { dst := some 20, op := Op.move (Operand.tmp 5), type := 26, pos := "law.go:15", after := #[], guard := none }) (v := ?_) rfl (by kernel_rfl) (by kernel_rfl) (by kernel_rfl) (fun _ _ _ h => h) (Or.inl ⟨by rfl, ?_⟩) hHeld ?_
  rotate_left
  focus (intro z hSw; clear hSw; go_simp; try with_reducible rfl)
  try simp only [Act.put, List.setIfInBounds_toArray, List.set_cons_zero, List.set_cons_succ]
  refine wpAnyH_ready (rs := [2]) (by kernel_rfl) (by simp) ?_
  refine AllReadyH.cons (o := { dst := some 21, op := Op.call { callee := Callee.value (Operand.func 7), args := #[Operand.tmp 19, Operand.tmp 20], argTypes := #[26, 26] }, type := 4, pos := "law.go:15", after := #[{ on := 0, ground := Ground.data }, { on := 1, ground := Ground.data }], guard := none }) rfl (fun K hK => ?_) AllReadyH.nil
  go_simp
  refine (Same_any _ _ _ _ _ _ _ (O12.out.keep hHeld (by simp)).sl (O2.out.keep hHeld (by simp)).sl).mono ?_
  rintro r wn ⟨rfl, rfl⟩
  rw [show (P == P) = true from beq_self_eq_true P]
  refine hK.out _ _ ?_ (fun hNext => ?_)
  · exact hHeld
  clear hK K hHeld
  have hHeld := hNext
  clear hNext
  try simp only [Act.put, List.setIfInBounds_toArray, List.set_cons_zero, List.set_cons_succ]
  refine wpAnyH_take (i := 3) (oi := { dst := some 22, op := Op.unOp UnOp.not 4 (Operand.tmp 21), type := 4, pos := "law.go:15", after := #[{ on := 2, ground := Ground.data }], guard := none }) (v := ?_) rfl (by kernel_rfl) (by kernel_rfl) (by kernel_rfl) (fun _ _ _ h => h) (Or.inl ⟨by rfl, ?_⟩) hHeld ?_
  rotate_left
  focus (intro z hSw; clear hSw; go_simp; try with_reducible rfl)
  try simp only [Act.put, List.setIfInBounds_toArray, List.set_cons_zero, List.set_cons_succ]
  refine wpAnyH_take (i := 4) (oi := { dst := some 23, op := Op.move (Operand.tmp 22), type := 4, pos := "law.go:15", after := #[{ on := 3, ground := Ground.data }, { on := 2, ground := Ground.chain }], guard := none }) (v := ?_) rfl (by kernel_rfl) (by kernel_rfl) (by kernel_rfl) (fun _ _ _ h => h) (Or.inl ⟨by rfl, ?_⟩) hHeld ?_
  rotate_left
  focus (intro z hSw; clear hSw; go_simp; try with_reducible rfl)
  try simp only [Act.put, List.setIfInBounds_toArray, List.set_cons_zero, List.set_cons_succ]
  refine wpAnyH_take (i := 5) (oi := { dst := some 24, op := Op.move (Operand.tmp 4), type := 27, pos := "law.go:15", after := #[{ on := 4, ground := Ground.guard }], guard := some (4, false) }) (v := ?_) rfl (by kernel_rfl) (by kernel_rfl) (by kernel_rfl) (fun _ _ _ h => h) (Or.inl ⟨by rfl, ?_⟩) hHeld ?_
  rotate_left
  focus (intro z hSw; clear hSw; go_simp; try with_reducible rfl)
  try simp only [Act.put, List.setIfInBounds_toArray, List.set_cons_zero, List.set_cons_succ]
  refine wpAnyH_take (i := 6) (oi := { dst := some 25, op := Op.move (Operand.tmp 6), type := 27, pos := "law.go:15", after := #[{ on := 4, ground := Ground.guard }], guard := some (4, false) }) (v := ?_) rfl (by kernel_rfl) (by kernel_rfl) (by kernel_rfl) (fun _ _ _ h => h) (Or.inl ⟨by rfl, ?_⟩) hHeld ?_
  rotate_left
  focus (intro z hSw; clear hSw; go_simp; try with_reducible rfl)
  try simp only [Act.put, List.setIfInBounds_toArray, List.set_cons_zero, List.set_cons_succ]
  refine wpAnyH_take (i := 7) (oi := { dst := some 26, op := Op.binOp BinOp.neq 27 (Operand.tmp 24) (Operand.tmp 25) 27, type := 4, pos := "law.go:15", after := #[{ on := 5, ground := Ground.data }, { on := 6, ground := Ground.data }, { on := 4, ground := Ground.guard }], guard := some (4, false) }) (v := ?_) rfl (by kernel_rfl) (by kernel_rfl) (by kernel_rfl) (fun _ _ _ h => h) (Or.inl ⟨by rfl, ?_⟩) hHeld ?_
  rotate_left
  focus (intro z hSw; clear hSw; go_simp; try with_reducible rfl)
  try simp only [Act.put, List.setIfInBounds_toArray, List.set_cons_zero, List.set_cons_succ]
  refine wpAnyH_take (i := 8) (oi := { dst := some 27, op := Op.pick (Operand.tmp 23) (Operand.const (Value.bool true)) (Operand.tmp 26), type := 4, pos := "law.go:15", after := #[{ on := 4, ground := Ground.data }, { on := 7, ground := Ground.data }], guard := none }) (v := ?_) rfl (by kernel_rfl) (by kernel_rfl) (by kernel_rfl) (fun _ _ _ h => h) (Or.inl ⟨by rfl, ?_⟩) hHeld ?_
  rotate_left
  focus (intro z hSw; clear hSw; go_simp; try with_reducible rfl)
  try simp only [Act.put, List.setIfInBounds_toArray, List.set_cons_zero, List.set_cons_succ]
  refine wpAnyH_take (i := 9) (oi := { dst := some 28, op := Op.move (Operand.tmp 27), type := 4, pos := "law.go:15", after := #[{ on := 8, ground := Ground.data }, { on := 4, ground := Ground.chain }], guard := none }) (v := ?_) rfl (by kernel_rfl) (by kernel_rfl) (by kernel_rfl) (fun _ _ _ h => h) (Or.inl ⟨by rfl, ?_⟩) hHeld ?_
  rotate_left
  focus (intro z hSw; clear hSw; go_simp; try with_reducible rfl)
  try simp only [Act.put, List.setIfInBounds_toArray, List.set_cons_zero, List.set_cons_succ]
  refine wpAnyH_take (i := 10) (oi := { dst := some 29, op := Op.load 25 (Operand.tmp 1), type := 25, pos := "law.go:15", after := #[{ on := 9, ground := Ground.guard }], guard := some (9, false) }) rfl (by kernel_rfl) (by kernel_rfl) (by kernel_rfl) (fun _ _ _ h => h) (yieldsIf_ld (by rfl) 25 _ rfl _ rfl (fun z hSw => (BL2.out.keep0 hSw).gets.all)) hHeld ?_
  try simp only [Act.put, List.setIfInBounds_toArray, List.set_cons_zero, List.set_cons_succ]
  refine wpAnyH_take (i := 12) (oi := { dst := some 31, op := Op.load 25 (Operand.tmp 1), type := 25, pos := "law.go:15", after := #[{ on := 9, ground := Ground.guard }], guard := some (9, false) }) rfl (by kernel_rfl) (by kernel_rfl) (by kernel_rfl) (fun _ _ _ h => h) (yieldsIf_ld (by rfl) 25 _ rfl _ rfl (fun z hSw => (BL2.out.keep0 hSw).gets.all)) hHeld ?_
  try simp only [Act.put, List.setIfInBounds_toArray, List.set_cons_zero, List.set_cons_succ]
  refine wpAnyH_ready (rs := [11]) (by kernel_rfl) (by simp) ?_
  refine AllReadyH.cons (o := { dst := some 30, op := Op.call { callee := Callee.value (Operand.func 8), args := #[Operand.tmp 29], argTypes := #[25] }, type := 27, pos := "law.go:15", after := #[{ on := 10, ground := Ground.data }, { on := 9, ground := Ground.chain }, { on := 9, ground := Ground.guard }], guard := some (9, false) }) rfl (fun K hK => ?_) AllReadyH.nil
  go_simp
  refine (HC.out _).mono ?_
  rintro r wn ⟨rfl, fn⟩
  refine hK.out _ _ ?_ (fun hNext => ?_)
  · exact hHeld.trans fn (by simp)
  clear hK K hHeld
  have hHeld := hNext
  clear hNext
  try simp only [Act.put, List.setIfInBounds_toArray, List.set_cons_zero, List.set_cons_succ]
  refine wpAnyH_ready (rs := [13]) (by kernel_rfl) (by simp) ?_
  refine AllReadyH.cons (o := { dst := some 32, op := Op.call { callee := Callee.value (Operand.func 9), args := #[Operand.tmp 31], argTypes := #[25] }, type := 27, pos := "law.go:15", after := #[{ on := 12, ground := Ground.data }, { on := 11, ground := Ground.chain }, { on := 9, ground := Ground.guard }], guard := some (9, false) }) rfl (fun K hK => ?_) AllReadyH.nil
  go_simp
  refine (HD.out _).mono ?_
  rintro r wn ⟨rfl, fn⟩
  refine hK.out _ _ ?_ (fun hNext => ?_)
  · exact hHeld.trans fn (by simp)
  clear hK K hHeld
  have hHeld := hNext
  clear hNext
  try simp only [Act.put, List.setIfInBounds_toArray, List.set_cons_zero, List.set_cons_succ]
  refine wpAnyH_take (i := 14) (oi := { dst := some 33, op := Op.binOp BinOp.neq 27 (Operand.tmp 30) (Operand.tmp 32) 27, type := 4, pos := "law.go:15", after := #[{ on := 11, ground := Ground.data }, { on := 13, ground := Ground.data }, { on := 9, ground := Ground.guard }], guard := some (9, false) }) (v := ?_) rfl (by kernel_rfl) (by kernel_rfl) (by kernel_rfl) (fun _ _ _ h => h) (Or.inl ⟨by rfl, ?_⟩) hHeld ?_
  rotate_left
  focus (intro z hSw; clear hSw; go_simp; try with_reducible rfl)
  try simp only [Act.put, List.setIfInBounds_toArray, List.set_cons_zero, List.set_cons_succ]
  refine wpAnyH_take (i := 15) (oi := { dst := some 34, op := Op.pick (Operand.tmp 28) (Operand.const (Value.bool true)) (Operand.tmp 33), type := 4, pos := "law.go:15", after := #[{ on := 9, ground := Ground.data }, { on := 14, ground := Ground.data }], guard := none }) (v := ?_) rfl (by kernel_rfl) (by kernel_rfl) (by kernel_rfl) (fun _ _ _ h => h) (Or.inl ⟨by rfl, ?_⟩) hHeld ?_
  rotate_left
  focus (intro z hSw; clear hSw; go_simp; try with_reducible rfl)
  try simp only [Act.put, List.setIfInBounds_toArray, List.set_cons_zero, List.set_cons_succ]
  refine wpAnyH_done (by kernel_rfl) ?_ _
  go_upto_region 6 with (go_at_call 10; refine (OverB _ _ _ _ (O12.out.keep hHeld (by simp))).mono ?_; rintro r W4 ⟨rfl, f4⟩)
  have F4 := Lib.hid ((F2.out.trans hHeld (by simp)).trans f4 (fun i hi => .inr (Nat.le_of_lt (NF.out i hi))))
  have BL4 := Lib.hid ((BL2.out.keep0 hHeld).keep f4 (fun hm => Nat.lt_irrefl _ (NF.out _ hm)))
  have O4 := Lib.hid ((O2.out.keep hHeld (by simp)).keep f4 ND.out)
  have G4 := Lib.hid BL4.out.gets.all
  clear f4 hHeld F2 BL2 O12 O2 ND NF
  go_upto_region 7 with (first | ((with_reducible (show wpList _ _ _ (Oper.mk _ (Op.load 25 _) _ _ _ _ :: _) _ _)); refine wpList_load_g (by rfl) 25 _ rfl _ rfl G4.out ?_) | (go_at_call 5; refine (HP.out _ F4.out).mono ?_; rintro r W5 ⟨a7, c7, s7, rfl, o7, f7, n7⟩))
  have F5 := Lib.hid (F4.out.trans f7 (by simp))
  have HS := Lib.hid (Same_any _ _ _ _ _ _ _ o7.sl (O4.out.keep f7 (by simp)).sl)
  rw [show (P == P) = true from beq_self_eq_true P] at HS
  clear f7 o7 n7
  go_wp2_with (first | (go_at_call 7; refine HS.out.mono ?_; rintro r wn ⟨rfl, rfl⟩) | (go_at_call 11; refine (HA.out _ F5.out).mono ?_; rintro r W6 ⟨rfl, f6⟩))
  go_ret
  exact ⟨rfl, F5.out.trans f6 (by simp)⟩
end Go.Proofs.YtcnjjcnmjmcoiaaDoor
