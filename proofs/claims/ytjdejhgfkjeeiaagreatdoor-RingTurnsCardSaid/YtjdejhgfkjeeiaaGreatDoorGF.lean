/-
  The walk of awake. No conditions but those that each theorem names.
-/
import Derived.Test.YtjdejhgfkjeeiaaGreatDoorGE
namespace Go.Proofs.YtjdejhgfkjeeiaaGreatDoor
open Go.RowKit
set_option linter.unusedVariables false
set_option linter.unusedSimpArgs false
set_option maxRecDepth 100000

open Pt (Pt may enc readPt readE zeroPt pc pv PtV SlA OwnA)
open Kr (OwnE SlE Enco RowTys)
theorem bld24z (W : World) : (Instr.build 24 #[]).run Tryz.prog W = .ok (idv z32) W := by kernel_rfl
theorem exec_bld24z {o : Oper} {a : Act} (hop : o.op = Op.build 24 #[]) (W : World) : (execOp a.eval o).run Tryz.prog W = .ok (.value (idv z32)) W := by
  have hb := bld24z W
  simp [execOp, hop, hb, Result.andThen]
def YesR (w : World) (e : Ending) (w' : World) : Prop := e = .returned (.bool true) ∧ Frm [] w w'
theorem fits_of {l : List Ub} (h : l.length ≤ 1000) (h2 : ∀ u ∈ l, u.root = zeroPt) : Fits l := ⟨h, fun u hu => by rw [h2 u hu]; exact Nat.zero_le _⟩
set_option maxHeartbeats 16000000 in
theorem awakeR_any {s0 s1 s2 : Addr} (w : World) (hs : Sens w s0 s1 s2) (hG : Hs.Glob w) : Calls Tryz.prog 34 #[] w (YesR w) := by
  have HO5 := Lib.hid (fun W (f : Frm [] w W) => of_any 5 W (by decide) (by decide) (hG.keep f (by simp)))
  have HO6 := Lib.hid (fun W (f : Frm [] w W) => of_any 6 W (by decide) (by decide) (hG.keep f (by simp)))
  unfold OfP at HO5 HO6
  have HFO := Lib.hid (fun v W (f : Frm [] w W) (h : Ls W v [Zb, packU (ofU 5), packU (ofU 6), Zb]) => Found_any v [Zb, packU (ofU 5), packU (ofU 6), Zb] z32 W h (fun b hb => by
    simp at hb
    rcases hb with rfl | rfl | rfl | rfl
    · simp [Zb]
    · rw [packU_length (ofU_wf 5) (ofU_may (by decide) (by decide))]; decide
    · rw [packU_length (ofU_wf 6) (ofU_may (by decide) (by decide))]; decide
    · simp [Zb]) rfl (hs.keep0 f) (hG.keep f (by simp)))
  unfold FoundP at HFO
  rw [found56, show foundE [Zb, packU (ofU 5), packU (ofU 6), Zb] = 0 from rfl] at HFO
  have HBE := Lib.hid (fun v W (f : Frm [] w W) (h : Us W v [ofU 5, ofU 6, ofU 5]) => Best_any v [ofU 5, ofU 6, ofU 5] W h (fits_of (by decide) (fun u hu => by simp at hu; rcases hu with rfl | rfl | rfl <;> rfl)) (hs.keep0 f) (hG.keep f (by simp)))
  unfold BestP at HBE
  rw [best56] at HBE
  have HS1 := Lib.hid (fun x y W (hx : Us W x [ofU 5, ofU 6]) (hy : Us W y [ofU 5, ofU 6]) => SameUbs_true x y _ W hx hy (fits_of (by decide) (fun u hu => by simp at hu; rcases hu with rfl | rfl <;> rfl)))
  have HS2 := Lib.hid (fun x y W (hx : Us W x [ofU 6, ofU 5]) (hy : Us W y [ofU 6, ofU 5]) => SameUbs_true x y _ W hx hy (fits_of (by decide) (fun u hu => by simp at hu; rcases hu with rfl | rfl <;> rfl)))
  have HV5 := Lib.hid (fun W => ofU_v 5 W)
  have HV6 := Lib.hid (fun W => ofU_v 6 W)
  have hw5 := ofU_wf 5
  have hw6 := ofU_wf 6
  have HSL := Lib.hid (fun W => Slot_any 7 W)
  rw [show slotN 7 = 4 by decide, show slotB 7 = true by decide] at HSL
  clear hs hG
  obtain ⟨P5, hP5⟩ : ∃ P, packU (ofU 5) = P := ⟨_, rfl⟩
  obtain ⟨P6, hP6⟩ : ∃ P, packU (ofU 6) = P := ⟨_, rfl⟩
  rw [hP5] at HO5 HFO
  rw [hP6] at HO6 HFO
  clear hP5 hP6
  generalize ofU 5 = u5 at *
  generalize ofU 6 = u6 at *
  go_enter Tryz.func34, Tryz.ntmps34
  go_upto_region 2 with (first
    | ((with_reducible (show wpList _ _ _ (Oper.mk _ (Op.alloc 28) _ _ _ _ :: _) _ _)); refine wpList_lay28 rfl rfl rfl _ _ rfl (v := nilS) rfl (u := u5) hw5 rfl rfl ?_)
    | (go_at_call 47; refine (HO5.out _ (Frm.refl [] w)).mono ?_; rintro r w1 ⟨pa, pc, ps, rfl, po, f1, _⟩))
  have f2 : Frm [] w1 (w1.alloc (.cells (uc nilS u5).toArray 28)) := (Frm.refl [] w1).alloc _
  have G1 := Lib.hid (UB.new w1 nilS hw5)
  have S1 := Lib.hid ((po.keep f2 (by simp)).sl)
  have F2 := Lib.hid (f1.trans f2 (by simp))
  clear f1 f2 po
  generalize w1.alloc (.cells (uc nilS u5).toArray 28) = W2 at *
  generalize w1.heap.size = L1 at *
  go_upto_region 3 with (first
    | ((with_reducible (show wpList _ _ _ (Oper.mk _ (Op.alloc 28) _ _ _ _ :: _) _ _)); refine wpList_lay28 rfl rfl rfl _ _ rfl (v := nilS) rfl (u := u6) hw6 rfl rfl ?_)
    | (go_at_call 47; refine (HO6.out _ F2.out).mono ?_; rintro r w3 ⟨qa, qc, qs, rfl, qo, f3, _⟩))
  have f4 : Frm [] w3 (w3.alloc (.cells (uc nilS u6).toArray 28)) := (Frm.refl [] w3).alloc _
  have G3 := Lib.hid (UB.new w3 nilS hw6)
  have S3 := Lib.hid ((qo.keep f4 (by simp)).sl)
  have F4 := Lib.hid ((F2.out.trans f3 (by simp)).trans f4 (by simp))
  have G1b := Lib.hid (G1.out.keep0 (f3.trans f4 (by simp)))
  have S1b := Lib.hid (S1.out.keep (f3.trans f4 (by simp)) (by simp))
  clear f3 f4 qo G1 S1 F2
  generalize w3.alloc (.cells (uc nilS u6).toArray 28) = W4 at *
  generalize w3.heap.size = L3 at *
  have HFR := Lib.hid (four_any _ _ _ _ _ _ W4 S1b.out S3.out)
  unfold FourP at HFR
  go_upto_region 4 with (first
    | (go_at_call 48; refine HFR.out.mono ?_; rintro r w5 ⟨v5, rfl, l5, f5⟩; have F5 := Lib.hid (F4.out.trans f5 (by simp)); have L5 := Lib.hid l5; have G15 := Lib.hid (G1b.out.keep0 f5); have G35 := Lib.hid (G3.out.keep0 f5); clear f5 l5)
    | ((with_reducible (show wpList _ _ _ (Oper.mk _ (Op.build 24 _) _ _ _ _ :: _) _ _)); refine wpList_val rfl (exec_bld24z rfl _) ?_)
    | (go_at_call 36; refine (HFO.out _ _ F5.out L5.out).mono ?_; rintro r w6 ⟨v6, rs6, B6, rfl, t6, f6⟩))
  have G16 := Lib.hid (G15.out.keep0 f6)
  have G36 := Lib.hid (G35.out.keep0 f6)
  have F6 := Lib.hid (F5.out.trans f6 (by simp))
  have U6 := Lib.hid t6.us
  clear f6 t6 G15 G35 L5 F5 HFR S1b S3 G1b G3 F4
  go_upto_region 5 with (go_at_call 42; refine (HSL.out _).mono ?_; rintro r w7 ⟨rfl, hw7⟩; obtain rfl := hw7.symm)
  refine wp_region_held_drew (S := fun z => Frm [] w6 z) (by kernel_rfl) ((Frm.refl [] w6).drew) (fun hHeld => ?_)
  refine wpAnyH_take (i := 0) (oi := { dst := some 29, op := Op.move (Operand.tmp 6), type := 33, pos := "outright.go:31", after := #[], guard := none }) (v := ?_) rfl (by kernel_rfl) (by kernel_rfl) (by kernel_rfl) (fun _ _ _ h => h) (Or.inl ⟨by rfl, ?_⟩) hHeld ?_
  rotate_left
  focus (intro z hSw; clear hSw; go_simp; try with_reducible rfl)
  try simp only [Act.put, List.setIfInBounds_toArray, List.set_cons_zero, List.set_cons_succ]
  refine wpAnyH_take (i := 1) (oi := { dst := some 30, op := Op.binOp BinOp.eql 33 (Operand.tmp 29) (Operand.const (Value.int IntKind.i64 0)) 33, type := 4, pos := "outright.go:31", after := #[{ on := 0, ground := Ground.data }], guard := none }) (v := ?_) rfl (by kernel_rfl) (by kernel_rfl) (by kernel_rfl) (fun _ _ _ h => h) (Or.inl ⟨by rfl, ?_⟩) hHeld ?_
  rotate_left
  focus (intro z hSw; clear hSw; go_simp; try with_reducible rfl)
  try simp only [Act.put, List.setIfInBounds_toArray, List.set_cons_zero, List.set_cons_succ]
  refine wpAnyH_take (i := 2) (oi := { dst := some 31, op := Op.move (Operand.tmp 30), type := 4, pos := "outright.go:31", after := #[{ on := 1, ground := Ground.data }], guard := none }) (v := ?_) rfl (by kernel_rfl) (by kernel_rfl) (by kernel_rfl) (fun _ _ _ h => h) (Or.inl ⟨by rfl, ?_⟩) hHeld ?_
  rotate_left
  focus (intro z hSw; clear hSw; go_simp; try with_reducible rfl)
  try simp only [Act.put, List.setIfInBounds_toArray, List.set_cons_zero, List.set_cons_succ]
  refine wpAnyH_take (i := 3) (oi := { dst := some 32, op := Op.move (Operand.tmp 5), type := 30, pos := "outright.go:31", after := #[{ on := 2, ground := Ground.guard }], guard := some (2, true) }) (v := ?_) rfl (by kernel_rfl) (by kernel_rfl) (by kernel_rfl) (fun _ _ _ h => h) (Or.inl ⟨by rfl, ?_⟩) hHeld ?_
  rotate_left
  focus (intro z hSw; clear hSw; go_simp; try with_reducible rfl)
  try simp only [Act.put, List.setIfInBounds_toArray, List.set_cons_zero, List.set_cons_succ]
  refine wpAnyH_take (i := 4) (oi := { dst := some 33, op := Op.load 28 (Operand.tmp 1), type := 28, pos := "outright.go:31", after := #[{ on := 2, ground := Ground.guard }], guard := some (2, true) }) rfl (by kernel_rfl) (by kernel_rfl) (by kernel_rfl) (fun _ _ _ h => h) (yieldsIf_ld (by rfl) 28 _ rfl _ rfl (fun z hSw => (G16.out.keep0 hSw).gets.all)) hHeld ?_
  try simp only [Act.put, List.setIfInBounds_toArray, List.set_cons_zero, List.set_cons_succ]
  refine wpAnyH_take (i := 5) (oi := { dst := some 34, op := Op.load 28 (Operand.tmp 3), type := 28, pos := "outright.go:31", after := #[{ on := 2, ground := Ground.guard }], guard := some (2, true) }) rfl (by kernel_rfl) (by kernel_rfl) (by kernel_rfl) (fun _ _ _ h => h) (yieldsIf_ld (by rfl) 28 _ rfl _ rfl (fun z hSw => (G36.out.keep0 hSw).gets.all)) hHeld ?_
  try simp only [Act.put, List.setIfInBounds_toArray, List.set_cons_zero, List.set_cons_succ]
  refine wpAnyH_ready (rs := [6]) (by kernel_rfl) (by simp) ?_
  refine AllReadyH.cons (o := { dst := some 35, op := Op.buildSlice 30 2 #[(0, Operand.tmp 33), (1, Operand.tmp 34)], type := 30, pos := "outright.go:31", after := #[{ on := 4, ground := Ground.data }, { on := 5, ground := Ground.data }, { on := 2, ground := Ground.guard }], guard := some (2, true) }) rfl (fun K hK => ?_) ?_
  · refine step_us2 (by rfl) _ _ rfl rfl rfl (HV5.out _) (HV6.out _) ?_
    intro w36 u36 f36
    refine hK.out _ _ ?_ (fun hNext => ?_)
    · exact hHeld.trans f36 (by simp)
    clear hK K hHeld
    have hHeld := hNext
    clear hNext
    try simp only [Act.put, List.setIfInBounds_toArray, List.set_cons_zero, List.set_cons_succ]
    refine wpAnyH_ready (rs := [7]) (by kernel_rfl) (by simp) ?_
    refine AllReadyH.cons (o := { dst := some 36, op := Op.call { callee := Callee.value (Operand.func 38), args := #[Operand.tmp 32, Operand.tmp 35], argTypes := #[30, 30] }, type := 4, pos := "outright.go:31", after := #[{ on := 3, ground := Ground.data }, { on := 6, ground := Ground.data }, { on := 2, ground := Ground.chain }, { on := 2, ground := Ground.guard }], guard := some (2, true) }) rfl (fun K hK => ?_) ?_
    · go_simp
      refine (HS1.out _ _ _ (U6.out.keep0 hHeld) u36).mono ?_
      rintro r w37 ⟨rfl, f37⟩
      refine hK.out _ _ ?_ (fun hNext => ?_)
      · exact hHeld.trans f37 (by simp)
      clear hK K hHeld
      have hHeld := hNext
      clear hNext
      try simp only [Act.put, List.setIfInBounds_toArray, List.set_cons_zero, List.set_cons_succ]
      refine wpAnyH_take (i := 8) (oi := { dst := some 37, op := Op.pick (Operand.tmp 31) (Operand.tmp 36) (Operand.const (Value.bool false)), type := 4, pos := "outright.go:31", after := #[{ on := 2, ground := Ground.data }, { on := 7, ground := Ground.data }], guard := none }) (v := ?_) rfl (by kernel_rfl) (by kernel_rfl) (by kernel_rfl) (fun _ _ _ h => h) (Or.inl ⟨by rfl, ?_⟩) hHeld ?_
      rotate_left
      focus (intro z hSw; clear hSw; go_simp; try with_reducible rfl)
      try simp only [Act.put, List.setIfInBounds_toArray, List.set_cons_zero, List.set_cons_succ]
      refine wpAnyH_take (i := 9) (oi := { dst := some 38, op := Op.move (Operand.tmp 37), type := 4, pos := "outright.go:31", after := #[{ on := 8, ground := Ground.data }, { on := 7, ground := Ground.chain }], guard := none }) (v := ?_) rfl (by kernel_rfl) (by kernel_rfl) (by kernel_rfl) (fun _ _ _ h => h) (Or.inl ⟨by rfl, ?_⟩) hHeld ?_
      rotate_left
      focus (intro z hSw; clear hSw; go_simp; try with_reducible rfl)
      try simp only [Act.put, List.setIfInBounds_toArray, List.set_cons_zero, List.set_cons_succ]
      refine wpAnyH_take (i := 10) (oi := { dst := some 39, op := Op.move (Operand.tmp 7), type := 3, pos := "outright.go:31", after := #[{ on := 9, ground := Ground.guard }], guard := some (9, true) }) (v := ?_) rfl (by kernel_rfl) (by kernel_rfl) (by kernel_rfl) (fun _ _ _ h => h) (Or.inl ⟨by rfl, ?_⟩) hHeld ?_
      rotate_left
      focus (intro z hSw; clear hSw; go_simp; try with_reducible rfl)
      try simp only [Act.put, List.setIfInBounds_toArray, List.set_cons_zero, List.set_cons_succ]
      refine wpAnyH_take (i := 11) (oi := { dst := some 40, op := Op.binOp BinOp.eql 3 (Operand.tmp 39) (Operand.const (Value.int IntKind.i64 4)) 3, type := 4, pos := "outright.go:31", after := #[{ on := 10, ground := Ground.data }, { on := 9, ground := Ground.guard }], guard := some (9, true) }) (v := ?_) rfl (by kernel_rfl) (by kernel_rfl) (by kernel_rfl) (fun _ _ _ h => h) (Or.inl ⟨by rfl, ?_⟩) hHeld ?_
      rotate_left
      focus (intro z hSw; clear hSw; go_simp; try with_reducible rfl)
      try simp only [Act.put, List.setIfInBounds_toArray, List.set_cons_zero, List.set_cons_succ]
      refine wpAnyH_take (i := 12) (oi := { dst := some 41, op := Op.pick (Operand.tmp 38) (Operand.tmp 40) (Operand.const (Value.bool false)), type := 4, pos := "outright.go:31", after := #[{ on := 9, ground := Ground.data }, { on := 11, ground := Ground.data }], guard := none }) (v := ?_) rfl (by kernel_rfl) (by kernel_rfl) (by kernel_rfl) (fun _ _ _ h => h) (Or.inl ⟨by rfl, ?_⟩) hHeld ?_
      rotate_left
      focus (intro z hSw; clear hSw; go_simp; try with_reducible rfl)
      try simp only [Act.put, List.setIfInBounds_toArray, List.set_cons_zero, List.set_cons_succ]
      refine wpAnyH_take (i := 13) (oi := { dst := some 42, op := Op.move (Operand.tmp 41), type := 4, pos := "outright.go:31", after := #[{ on := 12, ground := Ground.data }, { on := 9, ground := Ground.chain }], guard := none }) (v := ?_) rfl (by kernel_rfl) (by kernel_rfl) (by kernel_rfl) (fun _ _ _ h => h) (Or.inl ⟨by rfl, ?_⟩) hHeld ?_
      rotate_left
      focus (intro z hSw; clear hSw; go_simp; try with_reducible rfl)
      try simp only [Act.put, List.setIfInBounds_toArray, List.set_cons_zero, List.set_cons_succ]
      refine wpAnyH_take (i := 14) (oi := { dst := some 43, op := Op.move (Operand.tmp 8), type := 4, pos := "outright.go:31", after := #[{ on := 13, ground := Ground.guard }], guard := some (13, true) }) (v := ?_) rfl (by kernel_rfl) (by kernel_rfl) (by kernel_rfl) (fun _ _ _ h => h) (Or.inl ⟨by rfl, ?_⟩) hHeld ?_
      rotate_left
      focus (intro z hSw; clear hSw; go_simp; try with_reducible rfl)
      try simp only [Act.put, List.setIfInBounds_toArray, List.set_cons_zero, List.set_cons_succ]
      refine wpAnyH_take (i := 15) (oi := { dst := some 44, op := Op.pick (Operand.tmp 42) (Operand.tmp 43) (Operand.const (Value.bool false)), type := 4, pos := "outright.go:31", after := #[{ on := 13, ground := Ground.data }, { on := 14, ground := Ground.data }], guard := none }) (v := ?_) rfl (by kernel_rfl) (by kernel_rfl) (by kernel_rfl) (fun _ _ _ h => h) (Or.inl ⟨by rfl, ?_⟩) hHeld ?_
      rotate_left
      focus (intro z hSw; clear hSw; go_simp; try with_reducible rfl)
      try simp only [Act.put, List.setIfInBounds_toArray, List.set_cons_zero, List.set_cons_succ]
      refine wpAnyH_take (i := 16) (oi := { dst := some 45, op := Op.move (Operand.tmp 44), type := 4, pos := "outright.go:31", after := #[{ on := 15, ground := Ground.data }, { on := 13, ground := Ground.chain }], guard := none }) (v := ?_) rfl (by kernel_rfl) (by kernel_rfl) (by kernel_rfl) (fun _ _ _ h => h) (Or.inl ⟨by rfl, ?_⟩) hHeld ?_
      rotate_left
      focus (intro z hSw; clear hSw; go_simp; try with_reducible rfl)
      try simp only [Act.put, List.setIfInBounds_toArray, List.set_cons_zero, List.set_cons_succ]
      refine wpAnyH_take (i := 17) (oi := { dst := some 46, op := Op.load 28 (Operand.tmp 1), type := 28, pos := "outright.go:31", after := #[{ on := 16, ground := Ground.guard }], guard := some (16, true) }) rfl (by kernel_rfl) (by kernel_rfl) (by kernel_rfl) (fun _ _ _ h => h) (yieldsIf_ld (by rfl) 28 _ rfl _ rfl (fun z hSw => (G16.out.keep0 hSw).gets.all)) hHeld ?_
      try simp only [Act.put, List.setIfInBounds_toArray, List.set_cons_zero, List.set_cons_succ]
      refine wpAnyH_take (i := 18) (oi := { dst := some 47, op := Op.load 28 (Operand.tmp 3), type := 28, pos := "outright.go:31", after := #[{ on := 16, ground := Ground.guard }], guard := some (16, true) }) rfl (by kernel_rfl) (by kernel_rfl) (by kernel_rfl) (fun _ _ _ h => h) (yieldsIf_ld (by rfl) 28 _ rfl _ rfl (fun z hSw => (G36.out.keep0 hSw).gets.all)) hHeld ?_
      try simp only [Act.put, List.setIfInBounds_toArray, List.set_cons_zero, List.set_cons_succ]
      refine wpAnyH_take (i := 19) (oi := { dst := some 48, op := Op.load 28 (Operand.tmp 1), type := 28, pos := "outright.go:31", after := #[{ on := 16, ground := Ground.guard }], guard := some (16, true) }) rfl (by kernel_rfl) (by kernel_rfl) (by kernel_rfl) (fun _ _ _ h => h) (yieldsIf_ld (by rfl) 28 _ rfl _ rfl (fun z hSw => (G16.out.keep0 hSw).gets.all)) hHeld ?_
      try simp only [Act.put, List.setIfInBounds_toArray, List.set_cons_zero, List.set_cons_succ]
      refine wpAnyH_take (i := 22) (oi := { dst := some 51, op := Op.load 28 (Operand.tmp 3), type := 28, pos := "outright.go:31", after := #[{ on := 16, ground := Ground.guard }], guard := some (16, true) }) rfl (by kernel_rfl) (by kernel_rfl) (by kernel_rfl) (fun _ _ _ h => h) (yieldsIf_ld (by rfl) 28 _ rfl _ rfl (fun z hSw => (G36.out.keep0 hSw).gets.all)) hHeld ?_
      try simp only [Act.put, List.setIfInBounds_toArray, List.set_cons_zero, List.set_cons_succ]
      refine wpAnyH_take (i := 23) (oi := { dst := some 52, op := Op.load 28 (Operand.tmp 1), type := 28, pos := "outright.go:31", after := #[{ on := 16, ground := Ground.guard }], guard := some (16, true) }) rfl (by kernel_rfl) (by kernel_rfl) (by kernel_rfl) (fun _ _ _ h => h) (yieldsIf_ld (by rfl) 28 _ rfl _ rfl (fun z hSw => (G16.out.keep0 hSw).gets.all)) hHeld ?_
      try simp only [Act.put, List.setIfInBounds_toArray, List.set_cons_zero, List.set_cons_succ]
      refine wpAnyH_ready (rs := [20, 24]) (by kernel_rfl) (by simp) ?_
      refine AllReadyH.cons (o := { dst := some 49, op := Op.buildSlice 30 3 #[(0, Operand.tmp 46), (1, Operand.tmp 47), (2, Operand.tmp 48)], type := 30, pos := "outright.go:31", after := #[{ on := 17, ground := Ground.data }, { on := 18, ground := Ground.data }, { on := 19, ground := Ground.data }, { on := 16, ground := Ground.guard }], guard := some (16, true) }) rfl (fun K hK => ?_) ?_
      · refine step_us3 (by rfl) _ _ _ rfl rfl rfl rfl (HV5.out _) (HV6.out _) (HV5.out _) ?_
        intro w20 u20 f20
        refine hK.out _ _ ?_ (fun hNext => ?_)
        · exact hHeld.trans f20 (by simp)
        clear hK K hHeld
        have hHeld := hNext
        clear hNext
        try simp only [Act.put, List.setIfInBounds_toArray, List.set_cons_zero, List.set_cons_succ]
        refine wpAnyH_ready (rs := [21, 24]) (by kernel_rfl) (by simp) ?_
        refine AllReadyH.cons (o := { dst := some 50, op := Op.call { callee := Callee.value (Operand.func 45), args := #[Operand.tmp 49], argTypes := #[30] }, type := 30, pos := "outright.go:31", after := #[{ on := 20, ground := Ground.data }, { on := 16, ground := Ground.chain }, { on := 16, ground := Ground.guard }], guard := some (16, true) }) rfl (fun K hK => ?_) ?_
        · go_simp
          refine (HBE.out _ _ (F6.out.trans hHeld (by simp)) (u20)).mono ?_
          rintro r w21 ⟨v21, rs21, B21, rfl, t21, f21⟩
          refine hK.out _ _ ?_ (fun hNext => ?_)
          · exact hHeld.trans f21 (by simp)
          clear hK K hHeld
          have hHeld := hNext
          clear hNext
          try simp only [Act.put, List.setIfInBounds_toArray, List.set_cons_zero, List.set_cons_succ]
          refine wpAnyH_ready (rs := [24]) (by kernel_rfl) (by simp) ?_
          refine AllReadyH.cons (o := { dst := some 53, op := Op.buildSlice 30 2 #[(0, Operand.tmp 51), (1, Operand.tmp 52)], type := 30, pos := "outright.go:31", after := #[{ on := 22, ground := Ground.data }, { on := 23, ground := Ground.data }, { on := 16, ground := Ground.guard }], guard := some (16, true) }) rfl (fun K hK => ?_) ?_
          · refine step_us2 (by rfl) _ _ rfl rfl rfl (HV6.out _) (HV5.out _) ?_
            intro w24 u24 f24
            refine hK.out _ _ ?_ (fun hNext => ?_)
            · exact hHeld.trans f24 (by simp)
            clear hK K hHeld
            have hHeld := hNext
            clear hNext
            try simp only [Act.put, List.setIfInBounds_toArray, List.set_cons_zero, List.set_cons_succ]
            refine wpAnyH_ready (rs := [25]) (by kernel_rfl) (by simp) ?_
            refine AllReadyH.cons (o := { dst := some 54, op := Op.call { callee := Callee.value (Operand.func 38), args := #[Operand.tmp 50, Operand.tmp 53], argTypes := #[30, 30] }, type := 4, pos := "outright.go:31", after := #[{ on := 21, ground := Ground.data }, { on := 24, ground := Ground.data }, { on := 21, ground := Ground.chain }, { on := 16, ground := Ground.guard }], guard := some (16, true) }) rfl (fun K hK => ?_) ?_
            · go_simp
              refine (HS2.out _ _ _ (t21.us.keep0 f24) (u24)).mono ?_
              rintro r w25 ⟨rfl, f25⟩
              refine hK.out _ _ ?_ (fun hNext => ?_)
              · exact hHeld.trans f25 (by simp)
              clear hK K hHeld
              have hHeld := hNext
              clear hNext
              try simp only [Act.put, List.setIfInBounds_toArray, List.set_cons_zero, List.set_cons_succ]
              refine wpAnyH_take (i := 26) (oi := { dst := some 55, op := Op.pick (Operand.tmp 45) (Operand.tmp 54) (Operand.const (Value.bool false)), type := 4, pos := "outright.go:31", after := #[{ on := 16, ground := Ground.data }, { on := 25, ground := Ground.data }], guard := none }) (v := ?_) rfl (by kernel_rfl) (by kernel_rfl) (by kernel_rfl) (fun _ _ _ h => h) (Or.inl ⟨by rfl, ?_⟩) hHeld ?_
              rotate_left
              focus (intro z hSw; clear hSw; go_simp; try with_reducible rfl)
              try simp only [Act.put, List.setIfInBounds_toArray, List.set_cons_zero, List.set_cons_succ]
              refine wpAnyH_take (i := 27) (oi := { dst := some 0, op := Op.assign (Operand.tmp 55), type := 4, pos := "outright.go:31", after := #[{ on := 26, ground := Ground.data }, { on := 25, ground := Ground.chain }, { on := 0, ground := Ground.phase }, { on := 1, ground := Ground.phase }, { on := 2, ground := Ground.phase }, { on := 3, ground := Ground.phase }, { on := 4, ground := Ground.phase }, { on := 5, ground := Ground.phase }, { on := 6, ground := Ground.phase }, { on := 7, ground := Ground.phase }, { on := 8, ground := Ground.phase }, { on := 9, ground := Ground.phase }, { on := 10, ground := Ground.phase }, { on := 11, ground := Ground.phase }, { on := 12, ground := Ground.phase }, { on := 13, ground := Ground.phase }, { on := 14, ground := Ground.phase }, { on := 15, ground := Ground.phase }, { on := 16, ground := Ground.phase }, { on := 17, ground := Ground.phase }, { on := 18, ground := Ground.phase }, { on := 19, ground := Ground.phase }, { on := 20, ground := Ground.phase }, { on := 21, ground := Ground.phase }, { on := 22, ground := Ground.phase }, { on := 23, ground := Ground.phase }, { on := 24, ground := Ground.phase }, { on := 25, ground := Ground.phase }, { on := 26, ground := Ground.phase }], guard := none }) (v := ?_) rfl (by kernel_rfl) (by kernel_rfl) (by kernel_rfl) (fun _ _ _ h => h) (Or.inl ⟨by rfl, ?_⟩) hHeld ?_
              rotate_left
              focus (intro z hSw; clear hSw; go_simp; try with_reducible rfl)
              try simp only [Act.put, List.setIfInBounds_toArray, List.set_cons_zero, List.set_cons_succ]
              refine wpAnyH_done (by kernel_rfl) ?_ _
              go_wp2_with fail
              go_ret
              exact ⟨rfl, F6.out.trans hHeld (by simp)⟩
            exact AllReadyH.nil
          exact AllReadyH.nil
        refine AllReadyH.cons (o := { dst := some 53, op := Op.buildSlice 30 2 #[(0, Operand.tmp 51), (1, Operand.tmp 52)], type := 30, pos := "outright.go:31", after := #[{ on := 22, ground := Ground.data }, { on := 23, ground := Ground.data }, { on := 16, ground := Ground.guard }], guard := some (16, true) }) rfl (fun K hK => ?_) ?_
        · refine step_us2 (by rfl) _ _ rfl rfl rfl (HV6.out _) (HV5.out _) ?_
          intro w24 u24 f24
          refine hK.out _ _ ?_ (fun hNext => ?_)
          · exact hHeld.trans f24 (by simp)
          clear hK K hHeld
          have hHeld := hNext
          clear hNext
          try simp only [Act.put, List.setIfInBounds_toArray, List.set_cons_zero, List.set_cons_succ]
          refine wpAnyH_ready (rs := [21]) (by kernel_rfl) (by simp) ?_
          refine AllReadyH.cons (o := { dst := some 50, op := Op.call { callee := Callee.value (Operand.func 45), args := #[Operand.tmp 49], argTypes := #[30] }, type := 30, pos := "outright.go:31", after := #[{ on := 20, ground := Ground.data }, { on := 16, ground := Ground.chain }, { on := 16, ground := Ground.guard }], guard := some (16, true) }) rfl (fun K hK => ?_) ?_
          · go_simp
            refine (HBE.out _ _ (F6.out.trans hHeld (by simp)) (u20.keep0 f24)).mono ?_
            rintro r w21 ⟨v21, rs21, B21, rfl, t21, f21⟩
            refine hK.out _ _ ?_ (fun hNext => ?_)
            · exact hHeld.trans f21 (by simp)
            clear hK K hHeld
            have hHeld := hNext
            clear hNext
            try simp only [Act.put, List.setIfInBounds_toArray, List.set_cons_zero, List.set_cons_succ]
            refine wpAnyH_ready (rs := [25]) (by kernel_rfl) (by simp) ?_
            refine AllReadyH.cons (o := { dst := some 54, op := Op.call { callee := Callee.value (Operand.func 38), args := #[Operand.tmp 50, Operand.tmp 53], argTypes := #[30, 30] }, type := 4, pos := "outright.go:31", after := #[{ on := 21, ground := Ground.data }, { on := 24, ground := Ground.data }, { on := 21, ground := Ground.chain }, { on := 16, ground := Ground.guard }], guard := some (16, true) }) rfl (fun K hK => ?_) ?_
            · go_simp
              refine (HS2.out _ _ _ (t21.us) (u24.keep0 f21)).mono ?_
              rintro r w25 ⟨rfl, f25⟩
              refine hK.out _ _ ?_ (fun hNext => ?_)
              · exact hHeld.trans f25 (by simp)
              clear hK K hHeld
              have hHeld := hNext
              clear hNext
              try simp only [Act.put, List.setIfInBounds_toArray, List.set_cons_zero, List.set_cons_succ]
              refine wpAnyH_take (i := 26) (oi := { dst := some 55, op := Op.pick (Operand.tmp 45) (Operand.tmp 54) (Operand.const (Value.bool false)), type := 4, pos := "outright.go:31", after := #[{ on := 16, ground := Ground.data }, { on := 25, ground := Ground.data }], guard := none }) (v := ?_) rfl (by kernel_rfl) (by kernel_rfl) (by kernel_rfl) (fun _ _ _ h => h) (Or.inl ⟨by rfl, ?_⟩) hHeld ?_
              rotate_left
              focus (intro z hSw; clear hSw; go_simp; try with_reducible rfl)
              try simp only [Act.put, List.setIfInBounds_toArray, List.set_cons_zero, List.set_cons_succ]
              refine wpAnyH_take (i := 27) (oi := { dst := some 0, op := Op.assign (Operand.tmp 55), type := 4, pos := "outright.go:31", after := #[{ on := 26, ground := Ground.data }, { on := 25, ground := Ground.chain }, { on := 0, ground := Ground.phase }, { on := 1, ground := Ground.phase }, { on := 2, ground := Ground.phase }, { on := 3, ground := Ground.phase }, { on := 4, ground := Ground.phase }, { on := 5, ground := Ground.phase }, { on := 6, ground := Ground.phase }, { on := 7, ground := Ground.phase }, { on := 8, ground := Ground.phase }, { on := 9, ground := Ground.phase }, { on := 10, ground := Ground.phase }, { on := 11, ground := Ground.phase }, { on := 12, ground := Ground.phase }, { on := 13, ground := Ground.phase }, { on := 14, ground := Ground.phase }, { on := 15, ground := Ground.phase }, { on := 16, ground := Ground.phase }, { on := 17, ground := Ground.phase }, { on := 18, ground := Ground.phase }, { on := 19, ground := Ground.phase }, { on := 20, ground := Ground.phase }, { on := 21, ground := Ground.phase }, { on := 22, ground := Ground.phase }, { on := 23, ground := Ground.phase }, { on := 24, ground := Ground.phase }, { on := 25, ground := Ground.phase }, { on := 26, ground := Ground.phase }], guard := none }) (v := ?_) rfl (by kernel_rfl) (by kernel_rfl) (by kernel_rfl) (fun _ _ _ h => h) (Or.inl ⟨by rfl, ?_⟩) hHeld ?_
              rotate_left
              focus (intro z hSw; clear hSw; go_simp; try with_reducible rfl)
              try simp only [Act.put, List.setIfInBounds_toArray, List.set_cons_zero, List.set_cons_succ]
              refine wpAnyH_done (by kernel_rfl) ?_ _
              go_wp2_with fail
              go_ret
              exact ⟨rfl, F6.out.trans hHeld (by simp)⟩
            exact AllReadyH.nil
          exact AllReadyH.nil
        exact AllReadyH.nil
      refine AllReadyH.cons (o := { dst := some 53, op := Op.buildSlice 30 2 #[(0, Operand.tmp 51), (1, Operand.tmp 52)], type := 30, pos := "outright.go:31", after := #[{ on := 22, ground := Ground.data }, { on := 23, ground := Ground.data }, { on := 16, ground := Ground.guard }], guard := some (16, true) }) rfl (fun K hK => ?_) ?_
      · refine step_us2 (by rfl) _ _ rfl rfl rfl (HV6.out _) (HV5.out _) ?_
        intro w24 u24 f24
        refine hK.out _ _ ?_ (fun hNext => ?_)
        · exact hHeld.trans f24 (by simp)
        clear hK K hHeld
        have hHeld := hNext
        clear hNext
        try simp only [Act.put, List.setIfInBounds_toArray, List.set_cons_zero, List.set_cons_succ]
        refine wpAnyH_ready (rs := [20]) (by kernel_rfl) (by simp) ?_
        refine AllReadyH.cons (o := { dst := some 49, op := Op.buildSlice 30 3 #[(0, Operand.tmp 46), (1, Operand.tmp 47), (2, Operand.tmp 48)], type := 30, pos := "outright.go:31", after := #[{ on := 17, ground := Ground.data }, { on := 18, ground := Ground.data }, { on := 19, ground := Ground.data }, { on := 16, ground := Ground.guard }], guard := some (16, true) }) rfl (fun K hK => ?_) ?_
        · refine step_us3 (by rfl) _ _ _ rfl rfl rfl rfl (HV5.out _) (HV6.out _) (HV5.out _) ?_
          intro w20 u20 f20
          refine hK.out _ _ ?_ (fun hNext => ?_)
          · exact hHeld.trans f20 (by simp)
          clear hK K hHeld
          have hHeld := hNext
          clear hNext
          try simp only [Act.put, List.setIfInBounds_toArray, List.set_cons_zero, List.set_cons_succ]
          refine wpAnyH_ready (rs := [21]) (by kernel_rfl) (by simp) ?_
          refine AllReadyH.cons (o := { dst := some 50, op := Op.call { callee := Callee.value (Operand.func 45), args := #[Operand.tmp 49], argTypes := #[30] }, type := 30, pos := "outright.go:31", after := #[{ on := 20, ground := Ground.data }, { on := 16, ground := Ground.chain }, { on := 16, ground := Ground.guard }], guard := some (16, true) }) rfl (fun K hK => ?_) ?_
          · go_simp
            refine (HBE.out _ _ (F6.out.trans hHeld (by simp)) (u20)).mono ?_
            rintro r w21 ⟨v21, rs21, B21, rfl, t21, f21⟩
            refine hK.out _ _ ?_ (fun hNext => ?_)
            · exact hHeld.trans f21 (by simp)
            clear hK K hHeld
            have hHeld := hNext
            clear hNext
            try simp only [Act.put, List.setIfInBounds_toArray, List.set_cons_zero, List.set_cons_succ]
            refine wpAnyH_ready (rs := [25]) (by kernel_rfl) (by simp) ?_
            refine AllReadyH.cons (o := { dst := some 54, op := Op.call { callee := Callee.value (Operand.func 38), args := #[Operand.tmp 50, Operand.tmp 53], argTypes := #[30, 30] }, type := 4, pos := "outright.go:31", after := #[{ on := 21, ground := Ground.data }, { on := 24, ground := Ground.data }, { on := 21, ground := Ground.chain }, { on := 16, ground := Ground.guard }], guard := some (16, true) }) rfl (fun K hK => ?_) ?_
            · go_simp
              refine (HS2.out _ _ _ (t21.us) (u24.keep0 (f20.trans f21 (by simp)))).mono ?_
              rintro r w25 ⟨rfl, f25⟩
              refine hK.out _ _ ?_ (fun hNext => ?_)
              · exact hHeld.trans f25 (by simp)
              clear hK K hHeld
              have hHeld := hNext
              clear hNext
              try simp only [Act.put, List.setIfInBounds_toArray, List.set_cons_zero, List.set_cons_succ]
              refine wpAnyH_take (i := 26) (oi := { dst := some 55, op := Op.pick (Operand.tmp 45) (Operand.tmp 54) (Operand.const (Value.bool false)), type := 4, pos := "outright.go:31", after := #[{ on := 16, ground := Ground.data }, { on := 25, ground := Ground.data }], guard := none }) (v := ?_) rfl (by kernel_rfl) (by kernel_rfl) (by kernel_rfl) (fun _ _ _ h => h) (Or.inl ⟨by rfl, ?_⟩) hHeld ?_
              rotate_left
              focus (intro z hSw; clear hSw; go_simp; try with_reducible rfl)
              try simp only [Act.put, List.setIfInBounds_toArray, List.set_cons_zero, List.set_cons_succ]
              refine wpAnyH_take (i := 27) (oi := { dst := some 0, op := Op.assign (Operand.tmp 55), type := 4, pos := "outright.go:31", after := #[{ on := 26, ground := Ground.data }, { on := 25, ground := Ground.chain }, { on := 0, ground := Ground.phase }, { on := 1, ground := Ground.phase }, { on := 2, ground := Ground.phase }, { on := 3, ground := Ground.phase }, { on := 4, ground := Ground.phase }, { on := 5, ground := Ground.phase }, { on := 6, ground := Ground.phase }, { on := 7, ground := Ground.phase }, { on := 8, ground := Ground.phase }, { on := 9, ground := Ground.phase }, { on := 10, ground := Ground.phase }, { on := 11, ground := Ground.phase }, { on := 12, ground := Ground.phase }, { on := 13, ground := Ground.phase }, { on := 14, ground := Ground.phase }, { on := 15, ground := Ground.phase }, { on := 16, ground := Ground.phase }, { on := 17, ground := Ground.phase }, { on := 18, ground := Ground.phase }, { on := 19, ground := Ground.phase }, { on := 20, ground := Ground.phase }, { on := 21, ground := Ground.phase }, { on := 22, ground := Ground.phase }, { on := 23, ground := Ground.phase }, { on := 24, ground := Ground.phase }, { on := 25, ground := Ground.phase }, { on := 26, ground := Ground.phase }], guard := none }) (v := ?_) rfl (by kernel_rfl) (by kernel_rfl) (by kernel_rfl) (fun _ _ _ h => h) (Or.inl ⟨by rfl, ?_⟩) hHeld ?_
              rotate_left
              focus (intro z hSw; clear hSw; go_simp; try with_reducible rfl)
              try simp only [Act.put, List.setIfInBounds_toArray, List.set_cons_zero, List.set_cons_succ]
              refine wpAnyH_done (by kernel_rfl) ?_ _
              go_wp2_with fail
              go_ret
              exact ⟨rfl, F6.out.trans hHeld (by simp)⟩
            exact AllReadyH.nil
          exact AllReadyH.nil
        exact AllReadyH.nil
      exact AllReadyH.nil
    exact AllReadyH.nil
  exact AllReadyH.nil
end Go.Proofs.YtjdejhgfkjeeiaaGreatDoor
