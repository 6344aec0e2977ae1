/-
  The walk of HashTexts; no conditions but those that each theorem names.
-/
import Derived.Test.YtopjbiccipgnjaaDoorHS
import Derived.Test.YtopjbiccipgnjaaDoorHT
import Derived.Deep.MidRow
import Derived.Deep.RegionHeld3
namespace Go.Proofs.YtopjbiccipgnjaaDoor
open Go.RowKit
set_option linter.unusedVariables false
set_option linter.unusedSimpArgs false
set_option maxRecDepth 1000000

theorem prs_form (s : List UInt8) : ∃ D e at_, D.length = 32 ∧ prsV s = .tuple #[.agg (bvs D).toArray, .agg #[.int .i64 e, .int .i64 at_]] := by
  unfold prsV
  split
  · exact ⟨List.replicate 32 0, _, _, by simp, rfl⟩
  · split
    · exact ⟨List.replicate 32 0, _, _, by simp, rfl⟩
    · exact ⟨idK s 64, _, _, idK_length _ _, rfl⟩
theorem IsB.range {w : World} {b : Nat} {T : TypeId} {l : List UInt8} (h : IsB w b T l) : w.rangeAt b 0 (bvs l) := fun j v hv => by
  rw [Nat.zero_add, cell_of_heap h]; simpa using hv
theorem Frm.range {L : List Nat} {w w' : World} (f : Frm L w w') {b : Nat} {cs : List Value} (h : w.rangeAt b 0 cs) (hb : b ∉ L) : w'.rangeAt b 0 cs := fun j v hv => f.cell (h j v hv) hb
def Flt (w : World) (b : Nat) (e at_ : Int) : Prop := w.heap[b]? = some (.cells #[.int .i64 e, .int .i64 at_] 43 (0, 0))
abbrev SS (w w1 w4 : World) (va vb vd : List Value) (e at_ : Int) (y : World) : Prop :=
  Frm [] w y ∧ y.rangeAt w.heap.size 0 va ∧ y.rangeAt (w.heap.size + 1) 0 vb ∧ y.rangeAt w1.heap.size 0 vd ∧ y.rangeAt w4.heap.size 0 vd ∧ y.cell? ⟨w1.heap.size + 1, 0, none⟩ = some (.int .i64 e) ∧ y.cell? ⟨w1.heap.size + 1, 1, none⟩ = some (.int .i64 at_) ∧ y.cell? ⟨w4.heap.size + 1, 0, none⟩ = some (.int .i64 e) ∧ y.cell? ⟨w4.heap.size + 1, 1, none⟩ = some (.int .i64 at_)
theorem SS.keep {w w1 w4 : World} {va vb vd : List Value} {e at_ : Int} {y y' : World} (h : SS w w1 w4 va vb vd e at_ y) (ff : Frm [] y y') : SS w w1 w4 va vb vd e at_ y' := by
  obtain ⟨h1, h2, h3, h4, h5, h6, h7, h8, h9⟩ := h
  exact ⟨h1.trans ff (by simp), ff.range h2 (by simp), ff.range h3 (by simp), ff.range h4 (by simp), ff.range h5 (by simp), ff.cell h6 (by simp), ff.cell h7 (by simp), ff.cell h8 (by simp), ff.cell h9 (by simp)⟩
set_option maxHeartbeats 4000000 in
theorem texts_any (a b : List UInt8) (ha : a.length = 32) (hb : b.length = 32) (s : ByteArray) (hs : s.size ≤ 200) (w : World) (hG : Glob w) :
    Calls Tryd.prog 5 #[.agg (bvs a).toArray, .agg (bvs b).toArray, .string s] w fun r w' => YesF w r w' := by
  have hP1 := fun W => Parse_any s (by omega) W
  have hP2 := fun W => RefParse_any s (by omega) W
  obtain ⟨D, e, at_, hD, hp⟩ := prs_form s.data.toList
  rw [hp] at hP1 hP2
  have HP1 := Lib.hid hP1
  have HP2 := Lib.hid hP2
  have HA := Lib.hid ha
  have HB := Lib.hid hb
  have HD := Lib.hid hD
  have HDS := Lib.hid (show (bvs D).toArray.size = 32 by rw [List.size_toArray, bvs_length, hD])
  have HG := Lib.hid hG
  have hs9 : (s.size : Int) ≤ 200 := by omega
  clear hP1 hP2 ha hb hD hG hp hs
  have IA := Lib.hid (show IsB ((w.alloc (.cells (bvs a).toArray 29)).alloc (.cells (bvs b).toArray 29)) w.heap.size 29 a from heap_alloc_lt (heap_alloc_new _ _))
  have IB := Lib.hid (show IsB ((w.alloc (.cells (bvs a).toArray 29)).alloc (.cells (bvs b).toArray 29)) (w.heap.size + 1) 29 b from heap_alloc_at (by simp))
  have F0 := Lib.hid (((Frm.refl [] w).alloc (.cells (bvs a).toArray 29)).alloc (.cells (bvs b).toArray 29))
  go_enter Tryd.func5, Tryd.ntmps5
  go_upto_region 3 with (fail)
  change Code.wp _ _ _ _ ((w.alloc (.cells (bvs a).toArray 29)).alloc (.cells (bvs b).toArray 29))
  generalize (w.alloc (.cells (bvs a).toArray 29)).alloc (.cells (bvs b).toArray 29) = w0 at *
  refine wp_region_lit ?_
  refine wpList_step (fun K hK => ?_)
  go_simp
  refine hK _ _ ?_
  clear hK K
  refine wpList_step (fun K hK => ?_)
  go_simp
  refine (HP1.out _).mono ?_
  rintro r w1 ⟨rfl, f1⟩
  have F1 := Lib.hid (F0.out.trans f1 (by simp))
  have IA1 := Lib.hid (IA.out.keepF f1)
  have IB1 := Lib.hid (IB.out.keepF f1)
  clear f1
  refine hK _ _ ?_
  clear hK K
  refine wpList_step (fun K hK => ?_)
  go_simp
  refine hK _ _ ?_
  clear hK K
  refine wpList_step (fun K hK => ?_)
  go_simp
  refine hK _ _ ?_
  clear hK K
  refine wpList_step (fun K hK => ?_)
  go_simp
  refine hK _ _ ?_
  clear hK K
  refine wpList_step (fun K hK => ?_)
  go_simp
  refine hK _ _ ?_
  clear hK K
  refine wpList_step (fun K hK => ?_)
  go_simp
  refine hK _ _ ?_
  clear hK K
  refine wpList_store_row rfl 29 (.tmp 7) (.tmp 18) rfl w1.heap.size (bvs D).toArray rfl rfl 29 _ (heap_alloc_lt (heap_alloc_new _ _)) (by rw [HDS.out]; exact i29) (by rw [HDS.out]; rfl) (bvs_oneA _) ?_
  have f2 := (((Frm.refl [] w1).alloc (.cells Z32 29)).alloc (.cells #[.int .i64 0, .int .i64 0] 43)).setRow w1.heap.size (bvs D).toArray (.inr (Nat.le_refl _))
  have h2 : IsB (((w1.alloc (.cells Z32 29)).alloc (.cells #[.int .i64 0, .int .i64 0] 43)).setRow w1.heap.size (bvs D).toArray) w1.heap.size 29 D := setRow_heap _ _ _ _ _ _ (heap_alloc_lt (heap_alloc_new _ _))
  have g2 : Flt (((w1.alloc (.cells Z32 29)).alloc (.cells #[.int .i64 0, .int .i64 0] 43)).setRow w1.heap.size (bvs D).toArray) (w1.heap.size + 1) 0 0 := (setRow_other _ _ _ _ (by omega)).trans (heap_alloc_at (by simp))
  change wpList _ _ _ _ _ (((w1.alloc (.cells Z32 29)).alloc (.cells #[.int .i64 0, .int .i64 0] 43)).setRow w1.heap.size (bvs D).toArray)
  generalize ((w1.alloc (.cells Z32 29)).alloc (.cells #[.int .i64 0, .int .i64 0] 43)).setRow w1.heap.size (bvs D).toArray = w2 at *
  obtain ⟨c0, c1, z0⟩ := cells2 g2
  have F2 := Lib.hid (F1.out.trans f2 (by simp))
  have IA2 := Lib.hid (IA1.out.keepF f2)
  have IB2 := Lib.hid (IB1.out.keepF f2)
  have ID2 := Lib.hid h2
  have G2 := Lib.hid g2
  have Z1 := Lib.hid F1.out.size
  clear f2 h2 g2
  refine wpList_step (fun K hK => ?_)
  go_simp
  refine hK _ _ ?_
  clear hK K
  refine wpList_nil ?_
  have F3 := Lib.hid ((F2.out.setCell ⟨w1.heap.size + 1, 0, none⟩ (.int .i64 e) (.inr (by have := Z1.out; simp; omega))).setCell ⟨w1.heap.size + 1, 1, none⟩ (.int .i64 at_) (.inr (by have := Z1.out; simp; omega)))
  have F3a := Lib.hid (((Frm.refl [w1.heap.size + 1] w2).setCell ⟨w1.heap.size + 1, 0, none⟩ (.int .i64 e) (.inl (by simp))).setCell ⟨w1.heap.size + 1, 1, none⟩ (.int .i64 at_) (.inl (by simp)))
  have G3 := Lib.hid (show Flt ((w2.setCell ⟨w1.heap.size + 1, 0, none⟩ (.int .i64 e)).setCell ⟨w1.heap.size + 1, 1, none⟩ (.int .i64 at_)) (w1.heap.size + 1) e at_ from heap_setCell_same _ (heap_setCell_same _ G2.out))
  have hz0 : w.heap.size + 1 < w0.heap.size := (Array.getElem?_eq_some_iff.1 IB.out).1
  have hz1 : w.heap.size + 1 < w1.heap.size := (Array.getElem?_eq_some_iff.1 IB1.out).1
  have IA3 := Lib.hid (F3a.out.heap IA2.out (by simp; omega))
  have IB3 := Lib.hid (F3a.out.heap IB2.out (by simp; omega))
  have ID3 := Lib.hid (F3a.out.heap ID2.out (by simp))
  have HZ1 := Lib.hid hz1
  clear c0 c1 z0 hz0 hz1
  go_upto_region 4 with (fail)
  generalize ((w2.setCell ⟨w1.heap.size + 1, 0, none⟩ (.int .i64 e)).setCell ⟨w1.heap.size + 1, 1, none⟩ (.int .i64 at_)) = w3 at *
  clear F3a IA2 IB2 ID2 G2 F2 IA1 IB1 IA IB F1
  refine wp_region_lit ?_
  refine wpList_step (fun K hK => ?_)
  go_simp
  refine hK _ _ ?_
  clear hK K
  refine wpList_step (fun K hK => ?_)
  go_simp
  refine (HP2.out _).mono ?_
  rintro r w4 ⟨rfl, f4⟩
  have F4 := Lib.hid (F3.out.trans f4 (by simp))
  have IA4 := Lib.hid (f4.heap IA3.out (by simp))
  have IB4 := Lib.hid (f4.heap IB3.out (by simp))
  have ID4 := Lib.hid (f4.heap ID3.out (by simp))
  have G4 := Lib.hid (f4.heap G3.out (by simp))
  clear f4
  refine hK _ _ ?_
  clear hK K
  refine wpList_step (fun K hK => ?_)
  go_simp
  refine hK _ _ ?_
  clear hK K
  refine wpList_step (fun K hK => ?_)
  go_simp
  refine hK _ _ ?_
  clear hK K
  refine wpList_step (fun K hK => ?_)
  go_simp
  refine hK _ _ ?_
  clear hK K
  refine wpList_step (fun K hK => ?_)
  go_simp
  refine hK _ _ ?_
  clear hK K
  refine wpList_step (fun K hK => ?_)
  go_simp
  refine hK _ _ ?_
  clear hK K
  refine wpList_store_row rfl 29 (.tmp 9) (.tmp 23) rfl w4.heap.size (bvs D).toArray rfl rfl 29 _ (heap_alloc_lt (heap_alloc_new _ _)) (by rw [HDS.out]; exact i29) (by rw [HDS.out]; rfl) (bvs_oneA _) ?_
  have f5 := (((Frm.refl [] w4).alloc (.cells Z32 29)).alloc (.cells #[.int .i64 0, .int .i64 0] 43)).setRow w4.heap.size (bvs D).toArray (.inr (Nat.le_refl _))
  have h5 : IsB (((w4.alloc (.cells Z32 29)).alloc (.cells #[.int .i64 0, .int .i64 0] 43)).setRow w4.heap.size (bvs D).toArray) w4.heap.size 29 D := setRow_heap _ _ _ _ _ _ (heap_alloc_lt (heap_alloc_new _ _))
  have g5 : Flt (((w4.alloc (.cells Z32 29)).alloc (.cells #[.int .i64 0, .int .i64 0] 43)).setRow w4.heap.size (bvs D).toArray) (w4.heap.size + 1) 0 0 := (setRow_other _ _ _ _ (by omega)).trans (heap_alloc_at (by simp))
  change wpList _ _ _ _ _ (((w4.alloc (.cells Z32 29)).alloc (.cells #[.int .i64 0, .int .i64 0] 43)).setRow w4.heap.size (bvs D).toArray)
  generalize ((w4.alloc (.cells Z32 29)).alloc (.cells #[.int .i64 0, .int .i64 0] 43)).setRow w4.heap.size (bvs D).toArray = w5 at *
  obtain ⟨c0, c1, z0⟩ := cells2 g5
  have F5 := Lib.hid (F4.out.trans f5 (by simp))
  have IA5 := Lib.hid (f5.heap IA4.out (by simp))
  have IB5 := Lib.hid (f5.heap IB4.out (by simp))
  have ID5 := Lib.hid (f5.heap ID4.out (by simp))
  have G5 := Lib.hid (f5.heap G4.out (by simp))
  have IE5 := Lib.hid h5
  have E5 := Lib.hid g5
  have Z4 := Lib.hid F4.out.size
  have HZ4 := Lib.hid (Array.getElem?_eq_some_iff.1 G4.out).1
  clear f5 h5 g5
  refine wpList_step (fun K hK => ?_)
  go_simp
  refine hK _ _ ?_
  clear hK K
  refine wpList_nil ?_
  have F6 := Lib.hid ((F5.out.setCell ⟨w4.heap.size + 1, 0, none⟩ (.int .i64 e) (.inr (by have := Z4.out; simp; omega))).setCell ⟨w4.heap.size + 1, 1, none⟩ (.int .i64 at_) (.inr (by have := Z4.out; simp; omega)))
  have F6a := (((Frm.refl [w4.heap.size + 1] w5).setCell ⟨w4.heap.size + 1, 0, none⟩ (.int .i64 e) (.inl (by simp))).setCell ⟨w4.heap.size + 1, 1, none⟩ (.int .i64 at_) (.inl (by simp)))
  have E6 := (show Flt ((w5.setCell ⟨w4.heap.size + 1, 0, none⟩ (.int .i64 e)).setCell ⟨w4.heap.size + 1, 1, none⟩ (.int .i64 at_)) (w4.heap.size + 1) e at_ from heap_setCell_same _ (heap_setCell_same _ E5.out))
  have hz4 := HZ4.out
  have hz1 := HZ1.out
  have IA6 := (F6a.heap IA5.out (by simp; omega))
  have IB6 := (F6a.heap IB5.out (by simp; omega))
  have ID6 := (F6a.heap ID5.out (by simp; omega))
  have G6 := (F6a.heap G5.out (by simp; omega))
  have IE6 := (F6a.heap IE5.out (by simp))
  clear c0 c1 z0 F6a
  go_upto_region 5 with (fail)
  generalize ((w5.setCell ⟨w4.heap.size + 1, 0, none⟩ (.int .i64 e)).setCell ⟨w4.heap.size + 1, 1, none⟩ (.int .i64 at_)) = w6 at *
  have HG6 := Lib.hid (HG.out.keep F6.out (by simp))
  clear IA5 IB5 ID5 G5 IE5 E5 F5 IA4 IB4 ID4 G4 F4 IA3 IB3 ID3 G3 F3
  have rA := IsB.range (show IsB w6 w.heap.size 29 a from IA6)
  have rB := IsB.range (show IsB w6 (w.heap.size + 1) 29 b from IB6)
  have rD := IsB.range (show IsB w6 w1.heap.size 29 D from ID6)
  have rE := IsB.range (show IsB w6 w4.heap.size 29 D from IE6)
  obtain ⟨p0, p1, _⟩ := cells2 G6
  obtain ⟨q0, q1, _⟩ := cells2 E6
  clear IA6 IB6 ID6 IE6 G6 E6
  have hu29 := d29
  have ia : (Tryd.prog.info? 29).map (·.size) = some (bvs a).length := by rw [bvs_length, HA.out]; exact i29
  have ib : (Tryd.prog.info? 29).map (·.size) = some (bvs b).length := by rw [bvs_length, HB.out]; exact i29
  have id' : (Tryd.prog.info? 29).map (·.size) = some (bvs D).length := by rw [bvs_length, HD.out]; exact i29
  have heq : ∀ W, (binOp .eql 29 (.agg (bvs D).toArray) (.agg (bvs D).toArray)).run Tryd.prog W = .ok (.bool true) W := fun W => by
    rw [eql29 D D HD.out HD.out W]; simp
  have hgd : ∀ x y W, (eqGuard .eql 29 x y (.agg (bvs D).toArray) (.agg (bvs D).toArray)).run Tryd.prog W = .ok () W := fun x y W => guard_agg _ _ _ _ _ _ (by kernel_rfl) W
  have cL := fun W => Less_any a b HA.out HB.out W
  have cM := fun W => RefLess_any a b HA.out HB.out W
  have cT := fun W => Text_any a HA.out W
  have cU := fun W => RefText_any a HA.out W
  have cA := fun W (f : Frm [] w W) => awake_any W (HG.out.keep f (by simp))
  generalize decide (Lib.compareBytes a b < 0) = c at *
  generalize (⟨(txt a).toArray⟩ : ByteArray) = T at *
  generalize bvs a = va at *
  generalize bvs b = vb at *
  generalize bvs D = vd at *
  have CL := Lib.hid cL
  have CM := Lib.hid cM
  have CT := Lib.hid cT
  have CU := Lib.hid cU
  have CA := Lib.hid cA
  clear cL cM cT cU cA
  have F6' := F6.out
  refine wp_region_held_drew (S := SS w w1 w4 va vb vd e at_) (by kernel_rfl) ⟨F6'.drew, rA, rB, rD, rE, p0, p1, q0, q1⟩ (fun hHeld => ?_)
  refine wpAnyH_take (i := 0) (oi := { dst := some 25, op := Op.load 29 (Operand.tmp 3), type := 29, pos := "law.go:43", after := #[], guard := none }) rfl (by kernel_rfl) (by kernel_rfl) (by kernel_rfl) (fun _ _ _ h => h) (yieldsIf_load_mid (by rfl) 29 (.tmp 3) rfl w.heap.size 0 rfl va _ (fun _ h => h.2.1) hu29 rfl ia) hHeld ?_
  try simp only [Act.put, List.setIfInBounds_toArray, List.set_cons_zero, List.set_cons_succ]
  refine wpAnyH_take (i := 1) (oi := { dst := some 26, op := Op.load 29 (Operand.tmp 4), type := 29, pos := "law.go:43", after := #[], guard := none }) rfl (by kernel_rfl) (by kernel_rfl) (by kernel_rfl) (fun _ _ _ h => h) (yieldsIf_load_mid (by rfl) 29 (.tmp 4) rfl (w.heap.size + 1) 0 rfl vb _ (fun _ h => h.2.2.1) hu29 rfl ib) hHeld ?_
  try simp only [Act.put, List.setIfInBounds_toArray, List.set_cons_zero, List.set_cons_succ]
  refine wpAnyH_take (i := 3) (oi := { dst := some 28, op := Op.load 29 (Operand.tmp 3), type := 29, pos := "law.go:43", after := #[], guard := none }) rfl (by kernel_rfl) (by kernel_rfl) (by kernel_rfl) (fun _ _ _ h => h) (yieldsIf_load_mid (by rfl) 29 (.tmp 3) rfl w.heap.size 0 rfl va _ (fun _ h => h.2.1) hu29 rfl ia) hHeld ?_
  try simp only [Act.put, List.setIfInBounds_toArray, List.set_cons_zero, List.set_cons_succ]
  refine wpAnyH_take (i := 4) (oi := { dst := some 29, op := Op.load 29 (Operand.tmp 4), type := 29, pos := "law.go:43", after := #[], guard := none }) rfl (by kernel_rfl) (by kernel_rfl) (by kernel_rfl) (fun _ _ _ h => h) (yieldsIf_load_mid (by rfl) 29 (.tmp 4) rfl (w.heap.size + 1) 0 rfl vb _ (fun _ h => h.2.2.1) hu29 rfl ib) hHeld ?_
  try simp only [Act.put, List.setIfInBounds_toArray, List.set_cons_zero, List.set_cons_succ]
  refine wpAnyH_ready (rs := [2]) (by kernel_rfl) (by simp) ?_
  refine AllReadyH.cons (o := { dst := some 27, op := Op.call { callee := Callee.value (Operand.func 25), args := #[Operand.tmp 25, Operand.tmp 26], argTypes := #[29, 29] }, type := 4, pos := "law.go:43", after := #[{ on := 0, ground := Ground.data }, { on := 1, ground := Ground.data }], guard := none }) rfl (fun K hK => ?_) AllReadyH.nil
  go_simp
  refine (CL.out _).mono ?_
  rintro r wx ⟨rfl, ff⟩
  refine hK.out _ _ ?_ (fun hNext => ?_)
  · exact SS.keep hHeld ff
  clear hK K hHeld
  have hHeld := hNext
  clear hNext
  try simp only [Act.put, List.setIfInBounds_toArray, List.set_cons_zero, List.set_cons_succ]
  refine wpAnyH_ready (rs := [5]) (by kernel_rfl) (by simp) ?_
  refine AllReadyH.cons (o := { dst := some 30, op := Op.call { callee := Callee.value (Operand.func 26), args := #[Operand.tmp 28, Operand.tmp 29], argTypes := #[29, 29] }, type := 4, pos := "law.go:43", after := #[{ on := 3, ground := Ground.data }, { on := 4, ground := Ground.data }, { on := 2, ground := Ground.chain }], guard := none }) rfl (fun K hK => ?_) AllReadyH.nil
  go_simp
  refine (CM.out _).mono ?_
  rintro r wx ⟨rfl, ff⟩
  refine hK.out _ _ ?_ (fun hNext => ?_)
  · exact SS.keep hHeld ff
  clear hK K hHeld
  have hHeld := hNext
  clear hNext
  try simp only [Act.put, List.setIfInBounds_toArray, List.set_cons_zero, List.set_cons_succ]
  refine wpAnyH_take (i := 6) (oi := { dst := some 31, op := Op.binOp BinOp.eql 4 (Operand.tmp 27) (Operand.tmp 30) 4, type := 4, pos := "law.go:43", after := #[{ on := 2, ground := Ground.data }, { on := 5, ground := Ground.data }], guard := none }) (v := ?_) rfl (by kernel_rfl) (by kernel_rfl) (by kernel_rfl) (fun _ _ _ h => h) (Or.inl ⟨by rfl, ?_⟩) hHeld ?_
  rotate_left
  focus (intro w hSw; clear hSw; go_simp; try with_reducible rfl)
  try simp only [Act.put, List.setIfInBounds_toArray, List.set_cons_zero, List.set_cons_succ]
  refine wpAnyH_take (i := 7) (oi := { dst := some 32, op := Op.move (Operand.tmp 31), type := 4, pos := "law.go:43", after := #[{ on := 6, ground := Ground.data }, { on := 5, ground := Ground.chain }], guard := none }) (v := ?_) rfl (by kernel_rfl) (by kernel_rfl) (by kernel_rfl) (fun _ _ _ h => h) (Or.inl ⟨by rfl, ?_⟩) hHeld ?_
  rotate_left
  focus (intro w hSw; clear hSw; go_simp; try with_reducible rfl)
  try simp only [Act.put, List.setIfInBounds_toArray, List.set_cons_zero, List.set_cons_succ]
  refine wpAnyH_take (i := 8) (oi := { dst := some 33, op := Op.load 29 (Operand.tmp 3), type := 29, pos := "law.go:43", after := #[{ on := 7, ground := Ground.guard }], guard := some (7, true) }) rfl (by kernel_rfl) (by kernel_rfl) (by kernel_rfl) (fun _ _ _ h => h) (yieldsIf_load_mid (by rfl) 29 (.tmp 3) rfl w.heap.size 0 rfl va _ (fun _ h => h.2.1) hu29 rfl ia) hHeld ?_
  try simp only [Act.put, List.setIfInBounds_toArray, List.set_cons_zero, List.set_cons_succ]
  refine wpAnyH_take (i := 10) (oi := { dst := some 35, op := Op.load 29 (Operand.tmp 3), type := 29, pos := "law.go:43", after := #[{ on := 7, ground := Ground.guard }], guard := some (7, true) }) rfl (by kernel_rfl) (by kernel_rfl) (by kernel_rfl) (fun _ _ _ h => h) (yieldsIf_load_mid (by rfl) 29 (.tmp 3) rfl w.heap.size 0 rfl va _ (fun _ h => h.2.1) hu29 rfl ia) hHeld ?_
  try simp only [Act.put, List.setIfInBounds_toArray, List.set_cons_zero, List.set_cons_succ]
  refine wpAnyH_ready (rs := [9]) (by kernel_rfl) (by simp) ?_
  refine AllReadyH.cons (o := { dst := some 34, op := Op.call { callee := Callee.value (Operand.func 27), args := #[Operand.tmp 33], argTypes := #[29] }, type := 9, pos := "law.go:43", after := #[{ on := 8, ground := Ground.data }, { on := 7, ground := Ground.chain }, { on := 7, ground := Ground.guard }], guard := some (7, true) }) rfl (fun K hK => ?_) AllReadyH.nil
  go_simp
  refine (CT.out _).mono ?_
  rintro r wx ⟨rfl, ff⟩
  refine hK.out _ _ ?_ (fun hNext => ?_)
  · exact SS.keep hHeld ff
  clear hK K hHeld
  have hHeld := hNext
  clear hNext
  try simp only [Act.put, List.setIfInBounds_toArray, List.set_cons_zero, List.set_cons_succ]
  refine wpAnyH_ready (rs := [11]) (by kernel_rfl) (by simp) ?_
  refine AllReadyH.cons (o := { dst := some 36, op := Op.call { callee := Callee.value (Operand.func 28), args := #[Operand.tmp 35], argTypes := #[29] }, type := 9, pos := "law.go:43", after := #[{ on := 10, ground := Ground.data }, { on := 9, ground := Ground.chain }, { on := 7, ground := Ground.guard }], guard := some (7, true) }) rfl (fun K hK => ?_) AllReadyH.nil
  go_simp
  refine (CU.out _).mono ?_
  rintro r wx ⟨rfl, ff⟩
  refine hK.out _ _ ?_ (fun hNext => ?_)
  · exact SS.keep hHeld ff
  clear hK K hHeld
  have hHeld := hNext
  clear hNext
  try simp only [Act.put, List.setIfInBounds_toArray, List.set_cons_zero, List.set_cons_succ]
  refine wpAnyH_take (i := 12) (oi := { dst := some 37, op := Op.binOp BinOp.eql 9 (Operand.tmp 34) (Operand.tmp 36) 9, type := 4, pos := "law.go:43", after := #[{ on := 9, ground := Ground.data }, { on := 11, ground := Ground.data }, { on := 7, ground := Ground.guard }], guard := some (7, true) }) (v := ?_) rfl (by kernel_rfl) (by kernel_rfl) (by kernel_rfl) (fun _ _ _ h => h) (Or.inl ⟨by rfl, ?_⟩) hHeld ?_
  rotate_left
  focus (intro w hSw; clear hSw; go_simp; try with_reducible rfl)
  try simp only [Act.put, List.setIfInBounds_toArray, List.set_cons_zero, List.set_cons_succ]
  refine wpAnyH_take (i := 13) (oi := { dst := some 38, op := Op.pick (Operand.tmp 32) (Operand.tmp 37) (Operand.const (Value.bool false)), type := 4, pos := "law.go:43", after := #[{ on := 7, ground := Ground.data }, { on := 12, ground := Ground.data }], guard := none }) (v := ?_) rfl (by kernel_rfl) (by kernel_rfl) (by kernel_rfl) (fun _ _ _ h => h) (Or.inl ⟨by rfl, ?_⟩) hHeld ?_
  rotate_left
  focus (intro w hSw; clear hSw; go_simp; try with_reducible rfl)
  try simp only [Act.put, List.setIfInBounds_toArray, List.set_cons_zero, List.set_cons_succ]
  refine wpAnyH_take (i := 14) (oi := { dst := some 39, op := Op.move (Operand.tmp 38), type := 4, pos := "law.go:43", after := #[{ on := 13, ground := Ground.data }, { on := 11, ground := Ground.chain }], guard := none }) (v := ?_) rfl (by kernel_rfl) (by kernel_rfl) (by kernel_rfl) (fun _ _ _ h => h) (Or.inl ⟨by rfl, ?_⟩) hHeld ?_
  rotate_left
  focus (intro w hSw; clear hSw; go_simp; try with_reducible rfl)
  try simp only [Act.put, List.setIfInBounds_toArray, List.set_cons_zero, List.set_cons_succ]
  refine wpAnyH_take (i := 15) (oi := { dst := some 40, op := Op.load 29 (Operand.tmp 7), type := 29, pos := "law.go:43", after := #[{ on := 14, ground := Ground.guard }], guard := some (14, true) }) rfl (by kernel_rfl) (by kernel_rfl) (by kernel_rfl) (fun _ _ _ h => h) (yieldsIf_load_mid (by rfl) 29 (.tmp 7) rfl w1.heap.size 0 rfl vd _ (fun _ h => h.2.2.2.1) hu29 rfl id') hHeld ?_
  try simp only [Act.put, List.setIfInBounds_toArray, List.set_cons_zero, List.set_cons_succ]
  refine wpAnyH_take (i := 16) (oi := { dst := some 41, op := Op.load 29 (Operand.tmp 9), type := 29, pos := "law.go:43", after := #[{ on := 14, ground := Ground.guard }], guard := some (14, true) }) rfl (by kernel_rfl) (by kernel_rfl) (by kernel_rfl) (fun _ _ _ h => h) (yieldsIf_load_mid (by rfl) 29 (.tmp 9) rfl w4.heap.size 0 rfl vd _ (fun _ h => h.2.2.2.2.1) hu29 rfl id') hHeld ?_
  try simp only [Act.put, List.setIfInBounds_toArray, List.set_cons_zero, List.set_cons_succ]
  refine wpAnyH_take (i := 17) (oi := { dst := some 42, op := Op.binOp BinOp.eql 29 (Operand.tmp 40) (Operand.tmp 41) 29, type := 4, pos := "law.go:43", after := #[{ on := 15, ground := Ground.data }, { on := 16, ground := Ground.data }, { on := 14, ground := Ground.guard }], guard := some (14, true) }) (v := ?_) rfl (by kernel_rfl) (by kernel_rfl) (by kernel_rfl) (fun _ _ _ h => h) (Or.inl ⟨by rfl, ?_⟩) hHeld ?_
  rotate_left
  focus (intro w hSw; clear hSw; go_simp; try with_reducible rfl)
  try simp only [Act.put, List.setIfInBounds_toArray, List.set_cons_zero, List.set_cons_succ]
  refine wpAnyH_take (i := 18) (oi := { dst := some 43, op := Op.pick (Operand.tmp 39) (Operand.tmp 42) (Operand.const (Value.bool false)), type := 4, pos := "law.go:43", after := #[{ on := 14, ground := Ground.data }, { on := 17, ground := Ground.data }], guard := none }) (v := ?_) rfl (by kernel_rfl) (by kernel_rfl) (by kernel_rfl) (fun _ _ _ h => h) (Or.inl ⟨by rfl, ?_⟩) hHeld ?_
  rotate_left
  focus (intro w hSw; clear hSw; go_simp; try with_reducible rfl)
  try simp only [Act.put, List.setIfInBounds_toArray, List.set_cons_zero, List.set_cons_succ]
  refine wpAnyH_take (i := 19) (oi := { dst := some 44, op := Op.move (Operand.tmp 43), type := 4, pos := "law.go:43", after := #[{ on := 18, ground := Ground.data }, { on := 14, ground := Ground.chain }], guard := none }) (v := ?_) rfl (by kernel_rfl) (by kernel_rfl) (by kernel_rfl) (fun _ _ _ h => h) (Or.inl ⟨by rfl, ?_⟩) hHeld ?_
  rotate_left
  focus (intro w hSw; clear hSw; go_simp; try with_reducible rfl)
  try simp only [Act.put, List.setIfInBounds_toArray, List.set_cons_zero, List.set_cons_succ]
  refine wpAnyH_take (i := 20) (oi := { dst := some 45, op := Op.load 43 (Operand.tmp 8), type := 43, pos := "law.go:43", after := #[{ on := 19, ground := Ground.guard }], guard := some (19, true) }) (v := ?_) rfl (by kernel_rfl) (by kernel_rfl) (by kernel_rfl) (fun _ _ _ h => h) (Or.inl ⟨by rfl, ?_⟩) hHeld ?_
  rotate_left
  focus (intro w hSw; obtain ⟨_, _, _, _, _, k0, k1, k2, k3⟩ := hSw; go_simp; try with_reducible rfl)
  try simp only [Act.put, List.setIfInBounds_toArray, List.set_cons_zero, List.set_cons_succ]
  refine wpAnyH_take (i := 21) (oi := { dst := some 46, op := Op.load 43 (Operand.tmp 10), type := 43, pos := "law.go:43", after := #[{ on := 19, ground := Ground.guard }], guard := some (19, true) }) (v := ?_) rfl (by kernel_rfl) (by kernel_rfl) (by kernel_rfl) (fun _ _ _ h => h) (Or.inl ⟨by rfl, ?_⟩) hHeld ?_
  rotate_left
  focus (intro w hSw; obtain ⟨_, _, _, _, _, k0, k1, k2, k3⟩ := hSw; go_simp; try with_reducible rfl)
  try simp only [Act.put, List.setIfInBounds_toArray, List.set_cons_zero, List.set_cons_succ]
  refine wpAnyH_take (i := 22) (oi := { dst := some 47, op := Op.binOp BinOp.eql 43 (Operand.tmp 45) (Operand.tmp 46) 43, type := 4, pos := "law.go:43", after := #[{ on := 20, ground := Ground.data }, { on := 21, ground := Ground.data }, { on := 19, ground := Ground.guard }], guard := some (19, true) }) (v := ?_) rfl (by kernel_rfl) (by kernel_rfl) (by kernel_rfl) (fun _ _ _ h => h) (Or.inl ⟨by rfl, ?_⟩) hHeld ?_
  rotate_left
  focus (intro w hSw; clear hSw; go_simp; try with_reducible rfl)
  try simp only [Act.put, List.setIfInBounds_toArray, List.set_cons_zero, List.set_cons_succ]
  refine wpAnyH_take (i := 23) (oi := { dst := some 48, op := Op.pick (Operand.tmp 44) (Operand.tmp 47) (Operand.const (Value.bool false)), type := 4, pos := "law.go:43", after := #[{ on := 19, ground := Ground.data }, { on := 22, ground := Ground.data }], guard := none }) (v := ?_) rfl (by kernel_rfl) (by kernel_rfl) (by kernel_rfl) (fun _ _ _ h => h) (Or.inl ⟨by rfl, ?_⟩) hHeld ?_
  rotate_left
  focus (intro w hSw; clear hSw; go_simp; try with_reducible rfl)
  try simp only [Act.put, List.setIfInBounds_toArray, List.set_cons_zero, List.set_cons_succ]
  refine wpAnyH_take (i := 24) (oi := { dst := some 49, op := Op.move (Operand.tmp 48), type := 4, pos := "law.go:43", after := #[{ on := 23, ground := Ground.data }, { on := 19, ground := Ground.chain }], guard := none }) (v := ?_) rfl (by kernel_rfl) (by kernel_rfl) (by kernel_rfl) (fun _ _ _ h => h) (Or.inl ⟨by rfl, ?_⟩) hHeld ?_
  rotate_left
  focus (intro w hSw; clear hSw; go_simp; try with_reducible rfl)
  try simp only [Act.put, List.setIfInBounds_toArray, List.set_cons_zero, List.set_cons_succ]
  refine wpAnyH_ready (rs := [25]) (by kernel_rfl) (by simp) ?_
  refine AllReadyH.cons (o := { dst := some 50, op := Op.call { callee := Callee.value (Operand.func 9), args := #[], argTypes := #[] }, type := 4, pos := "law.go:43", after := #[{ on := 24, ground := Ground.chain }, { on := 24, ground := Ground.guard }], guard := some (24, true) }) rfl (fun K hK => ?_) AllReadyH.nil
  go_simp
  refine (CA.out _ hHeld.1).mono ?_
  rintro r wx ⟨rfl, ff⟩
  refine hK.out _ _ ?_ (fun hNext => ?_)
  · exact SS.keep hHeld ff
  clear hK K hHeld
  have hHeld := hNext
  clear hNext
  try simp only [Act.put, List.setIfInBounds_toArray, List.set_cons_zero, List.set_cons_succ]
  refine wpAnyH_take (i := 26) (oi := { dst := some 51, op := Op.pick (Operand.tmp 49) (Operand.tmp 50) (Operand.const (Value.bool false)), type := 4, pos := "law.go:43", after := #[{ on := 24, ground := Ground.data }, { on := 25, ground := Ground.data }], guard := none }) (v := ?_) rfl (by kernel_rfl) (by kernel_rfl) (by kernel_rfl) (fun _ _ _ h => h) (Or.inl ⟨by rfl, ?_⟩) hHeld ?_
  rotate_left
  focus (intro w hSw; clear hSw; go_simp; try with_reducible rfl)
  try simp only [Act.put, List.setIfInBounds_toArray, List.set_cons_zero, List.set_cons_succ]
  refine wpAnyH_take (i := 27) (oi := { dst := some 6, op := Op.assign (Operand.tmp 51), type := 4, pos := "law.go:43", after := #[{ on := 26, ground := Ground.data }, { on := 25, ground := Ground.chain }, { on := 0, ground := Ground.phase }, { on := 1, ground := Ground.phase }, { on := 2, ground := Ground.phase }, { on := 3, ground := Ground.phase }, { on := 4, ground := Ground.phase }, { on := 5, ground := Ground.phase }, { on := 6, ground := Ground.phase }, { on := 7, ground := Ground.phase }, { on := 8, ground := Ground.phase }, { on := 9, ground := Ground.phase }, { on := 10, ground := Ground.phase }, { on := 11, ground := Ground.phase }, { on := 12, ground := Ground.phase }, { on := 13, ground := Ground.phase }, { on := 14, ground := Ground.phase }, { on := 15, ground := Ground.phase }, { on := 16, ground := Ground.phase }, { on := 17, ground := Ground.phase }, { on := 18, ground := Ground.phase }, { on := 19, ground := Ground.phase }, { on := 20, ground := Ground.phase }, { on := 21, ground := Ground.phase }, { on := 22, ground := Ground.phase }, { on := 23, ground := Ground.phase }, { on := 24, ground := Ground.phase }, { on := 25, ground := Ground.phase }, { on := 26, ground := Ground.phase }], guard := none }) (v := ?_) rfl (by kernel_rfl) (by kernel_rfl) (by kernel_rfl) (fun _ _ _ h => h) (Or.inl ⟨by rfl, ?_⟩) hHeld ?_
  rotate_left
  focus (intro w hSw; clear hSw; go_simp; try with_reducible rfl)
  try simp only [Act.put, List.setIfInBounds_toArray, List.set_cons_zero, List.set_cons_succ]
  refine wpAnyH_done (by kernel_rfl) ?_ _

  go_wp2_with fail
  go_ret
  exact ⟨rfl, hHeld.1⟩
set_option maxHeartbeats 1000000 in
theorem texts_long (a b : List UInt8) (ha : a.length = 32) (hb : b.length = 32) (s : ByteArray) (hs : 200 < s.size) (w : World) (hG : Glob w) :
    Calls Tryd.prog 5 #[.agg (bvs a).toArray, .agg (bvs b).toArray, .string s] w fun r w' => YesF w r w' := by
  have F0 := Lib.hid (((Frm.refl [] w).alloc (.cells (bvs a).toArray 29)).alloc (.cells (bvs b).toArray 29))
  have HG := Lib.hid hG
  have hs9 : (200 : Int) < (s.size : Int) := by omega
  clear hG ha hb hs
  go_enter Tryd.func5, Tryd.ntmps5
  go_wp2_with fail
  refine (awake_any _ (HG.out.keep F0.out (by simp))).mono ?_
  rintro r w1 ⟨rfl, f1⟩
  have F1 := Lib.hid (F0.out.trans f1 (by simp))
  clear f1
  go_wp2_with fail
  go_ret
  exact ⟨rfl, F1.out⟩
theorem texts_all (a b : List UInt8) (ha : a.length = 32) (hb : b.length = 32) (s : ByteArray) (w : World) (hG : Glob w) :
    Calls Tryd.prog 5 #[.agg (bvs a).toArray, .agg (bvs b).toArray, .string s] w fun r w' => YesF w r w' := by
  by_cases h : s.size ≤ 200
  · exact texts_any a b ha hb s h w hG
  · exact texts_long a b ha hb s (by omega) w hG
end Go.Proofs.YtopjbiccipgnjaaDoor
