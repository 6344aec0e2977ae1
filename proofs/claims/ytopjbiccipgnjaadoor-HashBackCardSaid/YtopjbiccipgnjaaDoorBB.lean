/-
  The walk of HashBack; no conditions but those that each theorem names.
-/
import Derived.Test.YtopjbiccipgnjaaDoorBA
import Derived.Test.YtopjbiccipgnjaaDoorHU
import Derived.Test.YtopjbiccipgnjaaDoorHO
namespace Go.Proofs.YtopjbiccipgnjaaDoor
open Go.RowKit
set_option linter.unusedVariables false
set_option linter.unusedSimpArgs false
set_option maxRecDepth 1000000

theorem wpList_val_g {P : Program} {ops : Array Oper} {rest : List Oper} {o : Oper} {a : Act} {w w' : World} {Q : Exit → Act → World → Prop} {v : Value} (hw : Region.wanted o (yielded ops a.tmps) = true)
    (h : (execOp a.eval o).run P w = .ok (.value v) w') (k : wpList P ops Q rest (a.put o.dst v) w') : wpList P ops Q (o :: rest) a w :=
  wpList_step fun K hK => by
    rw [if_pos hw]
    unfold Oper.wp
    rw [h]
    exact hK _ _ k
theorem neq29 (l m : List UInt8) (hl : l.length = 32) (hm : m.length = 32) (W : World) : (binOp .neq 29 (.agg (bvs l).toArray) (.agg (bvs m).toArray)).run Tryd.prog W = .ok (.bool (!(l == m))) W := by
  have h := eql29 l m hl hm W
  rw [run_eql_struct] at h
  rw [run_neq_struct]
  cases hr : (Op.equalIn 10000 29 (.agg (bvs l).toArray) (.agg (bvs m).toArray)).run Tryd.prog W with
  | ok x w' => rw [hr] at h; simp [Result.andThen] at h ⊢; exact ⟨by rw [h.1], h.2⟩
  | halt x w' => rw [hr] at h; simp [Result.andThen] at h
def S4 (w : World) (va vb : List Value) (y : World) : Prop := Frm [] w y ∧ y.rangeAt w.heap.size 0 va ∧ y.rangeAt (w.heap.size + 1) 0 vb
theorem S4.keep {w : World} {va vb : List Value} {y y' : World} (h : S4 w va vb y) (ff : Frm [] y y') : S4 w va vb y' := by
  obtain ⟨h1, h2, h3⟩ := h
  exact ⟨h1.trans ff (by simp), ff.range h2 (by simp), ff.range h3 (by simp)⟩
def S6 (w : World) (bD bF : Nat) (va vb vd : List Value) (y : World) : Prop :=
  Frm [] w y ∧ y.rangeAt w.heap.size 0 va ∧ y.rangeAt (w.heap.size + 1) 0 vb ∧ y.rangeAt bD 0 vd ∧ y.cell? ⟨bF, 0, none⟩ = some (.int .i64 0)
theorem S6.keep {w : World} {bD bF : Nat} {va vb vd : List Value} {y y' : World} (h : S6 w bD bF va vb vd y) (ff : Frm [] y y') : S6 w bD bF va vb vd y' := by
  obtain ⟨h1, h2, h3, h4, h5⟩ := h
  exact ⟨h1.trans ff (by simp), ff.range h2 (by simp), ff.range h3 (by simp), ff.range h4 (by simp), ff.cell h5 (by simp)⟩
set_option maxHeartbeats 8000000 in
theorem back_any (a b : List UInt8) (ha : a.length = 32) (hb : b.length = 32) (s : ByteArray) (hs : s.size ≤ 200) (w : World) (hG : Glob w) :
    Calls Tryd.prog 8 #[.agg (bvs a).toArray, .agg (bvs b).toArray, .string s] w fun r w' => YesF w r w' := by
  have HA := Lib.hid ha
  have HB := Lib.hid hb
  have HG := Lib.hid hG
  have HS := Lib.hid hs
  have hs9 : (s.size : Int) ≤ 200 := by omega
  have IA := Lib.hid (show IsB ((w.alloc (.cells (bvs a).toArray 29)).alloc (.cells (bvs b).toArray 29)) w.heap.size 29 a from heap_alloc_lt (heap_alloc_new _ _))
  have IB := Lib.hid (show IsB ((w.alloc (.cells (bvs a).toArray 29)).alloc (.cells (bvs b).toArray 29)) (w.heap.size + 1) 29 b from heap_alloc_at (by simp))
  have F0 := Lib.hid (((Frm.refl [] w).alloc (.cells (bvs a).toArray 29)).alloc (.cells (bvs b).toArray 29))
  have hu29 := d29
  have ia : (Tryd.prog.info? 29).map (·.size) = some (bvs a).length := by rw [bvs_length, ha]; exact i29
  have ib : (Tryd.prog.info? 29).map (·.size) = some (bvs b).length := by rw [bvs_length, hb]; exact i29
  have cT := fun W => Text_any a ha W
  have cU := fun W => Text_any b hb W
  have cP := fun W => Parse_any ⟨(txt a).toArray⟩ (by rw [show (⟨(txt a).toArray⟩ : ByteArray).size = (txt a).length from rfl, txt_length]; omega) W
  rw [show (⟨(txt a).toArray⟩ : ByteArray).data.toList = txt a from rfl, prs_txt a ha] at cP
  have hsz : (((⟨(txt a).toArray⟩ : ByteArray).size : Nat) : Int) = 64 := by rw [show (⟨(txt a).toArray⟩ : ByteArray).size = (txt a).length from rfl, txt_length]; omega
  have hls : Op.bytesLess (⟨(txt a).toArray⟩ : ByteArray).toList (⟨(txt b).toArray⟩ : ByteArray).toList = decide (Lib.compareBytes a b < 0) := by
    rw [ByteArray.toList_mk, ByteArray.toList_mk]; exact less_txt a b (by omega)
  have hes : ((⟨(txt a).toArray⟩ : ByteArray).toList == (⟨(txt b).toArray⟩ : ByteArray).toList) = (a == b) := by
    rw [ByteArray.toList_mk, ByteArray.toList_mk]; exact txt_inj a b (by omega)
  have cL := fun W => Less_any a b ha hb W
  have cM : a ≠ b → ∀ W, Calls Tryd.prog 25 #[.agg (bvs b).toArray, .agg (bvs a).toArray] W fun r w' => r = .returned (.bool (!decide (Lib.compareBytes a b < 0))) ∧ Frm [] W w' := fun hne W => by
    rw [← less_not a b (by omega) hne]; exact Less_any b a hb ha W
  have hda : ∀ W, (binOp .neq 29 (.agg (bvs a).toArray) (.agg (bvs a).toArray)).run Tryd.prog W = .ok (.bool false) W := fun W => by rw [neq29 a a ha ha W]; simp
  have hab : ∀ W, (binOp .neq 29 (.agg (bvs a).toArray) (.agg (bvs b).toArray)).run Tryd.prog W = .ok (.bool (!(a == b))) W := fun W => neq29 a b ha hb W
  have hae : ∀ W, (binOp .eql 29 (.agg (bvs a).toArray) (.agg (bvs b).toArray)).run Tryd.prog W = .ok (.bool (a == b)) W := fun W => eql29 a b ha hb W
  have hgd : ∀ op x y xs ys W, (eqGuard op 29 x y (.agg xs) (.agg ys)).run Tryd.prog W = .ok () W := fun op x y xs ys W => guard_agg _ _ _ _ _ _ (by kernel_rfl) W
  have hq : (a == b) = false → a ≠ b := fun h e => by subst e; simp at h
  have hone : (bvs a).toArray.all (·.oneCell') = true := bvs_oneA a
  have hvs : (bvs a).toArray.size = 32 := by rw [List.size_toArray, bvs_length, ha]
  unfold tV at cP
  generalize (⟨(txt a).toArray⟩ : ByteArray) = sT at *
  generalize (⟨(txt b).toArray⟩ : ByteArray) = sU at *
  generalize decide (Lib.compareBytes a b < 0) = c at *
  generalize hqq : (a == b) = q at *
  have hcc : (c == !c) = false := by cases c <;> rfl
  have hcc2 : (c != c) = false := by cases c <;> rfl
  have hqq2 : (q != q) = false := by cases q <;> rfl
  have CT := Lib.hid cT
  have CU := Lib.hid cU
  have CP := Lib.hid cP
  have CL := Lib.hid cL
  have CM := Lib.hid cM
  have HDA := Lib.hid hda
  have HAB := Lib.hid hab
  have HAE := Lib.hid hae
  have HGD := Lib.hid hgd
  have HLS := Lib.hid hls
  have HES := Lib.hid hes
  have HSZ := Lib.hid hsz
  have HQ := Lib.hid hq
  have HONE := Lib.hid hone
  have HVS := Lib.hid hvs
  clear cT cU cP cL cM hda hab hae hgd hls hes hsz hq hqq hone hvs ha hb hG hs
  go_enter Tryd.func8, Tryd.ntmps8
  go_wp2_with fail
  generalize (w.alloc (.cells (bvs a).toArray 29)).alloc (.cells (bvs b).toArray 29) = w0 at *
  refine (known_any _ (HG.out.keep F0.out (by simp))).mono ?_
  rintro r w1 ⟨rfl, f1⟩
  have F1 := Lib.hid (F0.out.trans f1 (by simp))
  have rA := IsB.range (IA.out.keepF f1)
  have rB := IsB.range (IB.out.keepF f1)
  have HZ := Lib.hid (lt_heap (IB.out.keepF f1))
  clear f1 IA IB F0
  go_upto_region 4 with (fail)
  generalize bvs a = va at *
  generalize bvs b = vb at *
  refine wp_region_held_drew (S := S4 w va vb) (by kernel_rfl) ⟨F1.out.drew, rA, rB⟩ (fun hHeld => ?_)
  refine wpAnyH_take (i := 0) (oi := { dst := some 19, op := Op.load 29 (Operand.tmp 3), type := 29, pos := "outright.go:105", after := #[], guard := none }) rfl (by kernel_rfl) (by kernel_rfl) (by kernel_rfl) (fun _ _ _ h => h) (yieldsIf_load_mid (by rfl) 29 (.tmp 3) rfl w.heap.size 0 rfl va _ (fun _ h => h.2.1) hu29 rfl ia) hHeld ?_
  try simp only [Act.put, List.setIfInBounds_toArray, List.set_cons_zero, List.set_cons_succ]
  refine wpAnyH_take (i := 2) (oi := { dst := some 21, op := Op.load 29 (Operand.tmp 4), type := 29, pos := "outright.go:105", after := #[], guard := none }) rfl (by kernel_rfl) (by kernel_rfl) (by kernel_rfl) (fun _ _ _ h => h) (yieldsIf_load_mid (by rfl) 29 (.tmp 4) rfl (w.heap.size + 1) 0 rfl vb _ (fun _ h => h.2.2) hu29 rfl ib) hHeld ?_
  try simp only [Act.put, List.setIfInBounds_toArray, List.set_cons_zero, List.set_cons_succ]
  refine wpAnyH_ready (rs := [1]) (by kernel_rfl) (by simp) ?_
  refine AllReadyH.cons (o := { dst := some 20, op := Op.call { callee := Callee.value (Operand.func 27), args := #[Operand.tmp 19], argTypes := #[29] }, type := 9, pos := "outright.go:105", after := #[{ on := 0, ground := Ground.data }], guard := none }) rfl (fun K hK => ?_) AllReadyH.nil
  go_simp
  refine (CT.out _).mono ?_
  rintro r wx ⟨rfl, ff⟩
  refine hK.out _ _ ?_ (fun hNext => ?_)
  · exact hHeld.keep ff
  clear hK K hHeld
  have hHeld := hNext
  clear hNext
  try simp only [Act.put, List.setIfInBounds_toArray, List.set_cons_zero, List.set_cons_succ]
  refine wpAnyH_ready (rs := [3]) (by kernel_rfl) (by simp) ?_
  refine AllReadyH.cons (o := { dst := some 22, op := Op.call { callee := Callee.value (Operand.func 27), args := #[Operand.tmp 21], argTypes := #[29] }, type := 9, pos := "outright.go:105", after := #[{ on := 2, ground := Ground.data }, { on := 1, ground := Ground.chain }], guard := none }) rfl (fun K hK => ?_) AllReadyH.nil
  go_simp
  refine (CU.out _).mono ?_
  rintro r wx ⟨rfl, ff⟩
  refine hK.out _ _ ?_ (fun hNext => ?_)
  · exact hHeld.keep ff
  clear hK K hHeld
  have hHeld := hNext
  clear hNext
  try simp only [Act.put, List.setIfInBounds_toArray, List.set_cons_zero, List.set_cons_succ]
  refine wpAnyH_take (i := 4) (oi := { dst := some 8, op := Op.assign (Operand.tmp 20), type := 9, pos := "outright.go:105", after := #[{ on := 1, ground := Ground.data }, { on := 3, ground := Ground.chain }, { on := 0, ground := Ground.phase }, { on := 1, ground := Ground.phase }, { on := 2, ground := Ground.textOnly Departure.lateStores }, { on := 3, ground := Ground.textOnly Departure.lateStoresUnsure }], guard := none }) (v := ?_) rfl (by kernel_rfl) (by kernel_rfl) (by kernel_rfl) (fun _ _ _ h => h) (Or.inl ⟨by rfl, ?_⟩) hHeld ?_
  rotate_left
  focus (intro w hSw; clear hSw; go_simp; try with_reducible rfl)
  try simp only [Act.put, List.setIfInBounds_toArray, List.set_cons_zero, List.set_cons_succ]
  refine wpAnyH_take (i := 5) (oi := { dst := some 9, op := Op.assign (Operand.tmp 22), type := 9, pos := "outright.go:105", after := #[{ on := 3, ground := Ground.data }, { on := 4, ground := Ground.chain }, { on := 0, ground := Ground.phase }, { on := 1, ground := Ground.phase }, { on := 2, ground := Ground.phase }, { on := 3, ground := Ground.phase }, { on := 4, ground := Ground.phase }], guard := none }) (v := ?_) rfl (by kernel_rfl) (by kernel_rfl) (by kernel_rfl) (fun _ _ _ h => h) (Or.inl ⟨by rfl, ?_⟩) hHeld ?_
  rotate_left
  focus (intro w hSw; clear hSw; go_simp; try with_reducible rfl)
  try simp only [Act.put, List.setIfInBounds_toArray, List.set_cons_zero, List.set_cons_succ]
  refine wpAnyH_done (by kernel_rfl) ?_ _
  go_upto_region 5 with (fail)
  obtain ⟨hf, hra, hrb⟩ := hHeld
  refine wp_region_lit ?_
  refine wpList_step (fun K hK => ?_)
  go_simp
  refine hK _ _ ?_
  clear hK K
  refine wpList_step (fun K hK => ?_)
  go_simp
  refine (CP.out _).mono ?_
  rintro r w2 ⟨rfl, f2⟩
  have F2 := Lib.hid (hf.trans f2 (by simp))
  have RA := Lib.hid (f2.range hra (by simp))
  have RB := Lib.hid (f2.range hrb (by simp))
  clear f2 hf hra hrb
  refine hK _ _ ?_
  clear hK K
  refine wpList_step (fun K hK => ?_)
  go_simp
  refine hK _ _ ?_
  clear hK K
  refine wpList_step (fun K hK => ?_)
  go_simp
  refine hK _ _ ?_
  clear hK K
  refine wpList_step (fun K hK => ?_)
  go_simp
  refine hK _ _ ?_
  clear hK K
  refine wpList_step (fun K hK => ?_)
  go_simp
  refine hK _ _ ?_
  clear hK K
  refine wpList_step (fun K hK => ?_)
  go_simp
  refine hK _ _ ?_
  clear hK K
  refine wpList_store_row rfl 29 (.tmp 10) (.tmp 26) rfl w2.heap.size va.toArray rfl rfl 29 _ (heap_alloc_lt (heap_alloc_new _ (.cells Z32 29))) (by rw [HVS.out]; exact i29) (by rw [HVS.out]; rfl) HONE.out ?_
  have f3 := (((Frm.refl [] w2).alloc (.cells Z32 29)).alloc (.cells #[.int .i64 0, .int .i64 0] 43)).setRow w2.heap.size va.toArray (.inr (Nat.le_refl _))
  have h3 : (((w2.alloc (.cells Z32 29)).alloc (.cells #[.int .i64 0, .int .i64 0] 43)).setRow w2.heap.size va.toArray).heap[w2.heap.size]? = some (.cells va.toArray 29 (0, 0)) := setRow_heap _ _ _ _ _ _ (heap_alloc_lt (heap_alloc_new _ (.cells Z32 29)))
  have g3 : Flt (((w2.alloc (.cells Z32 29)).alloc (.cells #[.int .i64 0, .int .i64 0] 43)).setRow w2.heap.size va.toArray) (w2.heap.size + 1) 0 0 := (setRow_other _ _ _ _ (by omega)).trans (heap_alloc_at (by simp))
  change wpList _ _ _ _ _ (((w2.alloc (.cells Z32 29)).alloc (.cells #[.int .i64 0, .int .i64 0] 43)).setRow w2.heap.size va.toArray)
  generalize ((w2.alloc (.cells Z32 29)).alloc (.cells #[.int .i64 0, .int .i64 0] 43)).setRow w2.heap.size va.toArray = w3 at *
  obtain ⟨c0, c1, z0⟩ := cells2 g3
  have F3 := Lib.hid (F2.out.trans f3 (by simp))
  have RA3 := Lib.hid (f3.range RA.out (by simp))
  have RB3 := Lib.hid (f3.range RB.out (by simp))
  have H3 := Lib.hid h3
  have G3 := Lib.hid g3
  have Z1 := Lib.hid F2.out.size
  have hzz : w.heap.size + 1 < w2.heap.size := by
    have := RB.out 0
    have h0 : vb[0]? = some vb[0]! := by
      have : vb.length = 32 := by have := ib; rw [i29] at this; simpa using this.symm
      rw [List.getElem?_eq_getElem (by omega), getElem!_pos vb 0 (by omega)]
    have h1 := RB.out 0 _ h0
    exact World.block_lt_of_cell? _ _ h1
  have HZ2 := Lib.hid hzz
  clear f3 h3 g3 hzz RA RB F2
  refine wpList_step (fun K hK => ?_)
  go_simp
  refine hK _ _ ?_
  clear hK K
  refine wpList_nil ?_
  have F4 := Lib.hid ((F3.out.setCell ⟨w2.heap.size + 1, 0, none⟩ (.int .i64 0) (.inr (by have := Z1.out; simp; omega))).setCell ⟨w2.heap.size + 1, 1, none⟩ (.int .i64 0) (.inr (by have := Z1.out; simp; omega)))
  have F4a := ((Frm.refl [w2.heap.size + 1] w3).setCell ⟨w2.heap.size + 1, 0, none⟩ (.int .i64 0) (.inl (by simp))).setCell ⟨w2.heap.size + 1, 1, none⟩ (.int .i64 0) (.inl (by simp))
  have g4 : Flt ((w3.setCell ⟨w2.heap.size + 1, 0, none⟩ (.int .i64 0)).setCell ⟨w2.heap.size + 1, 1, none⟩ (.int .i64 0)) (w2.heap.size + 1) 0 0 := heap_setCell_same _ (heap_setCell_same _ G3.out)
  have hz2 := HZ2.out
  have rA4 := F4a.range RA3.out (by simp; omega)
  have rB4 := F4a.range RB3.out (by simp; omega)
  have h4 := F4a.heap H3.out (by simp)
  have rD4 : World.rangeAt _ w2.heap.size 0 va := fun j v hv => by rw [Nat.zero_add, cell_of_heap h4]; simpa using hv
  obtain ⟨p0, _, _⟩ := cells2 g4
  clear c0 c1 z0 F4a h4 g4
  have id' := ia
  have hda := HDA.out
  have hab := HAB.out
  have hae := HAE.out
  have hgd := HGD.out
  have hls := HLS.out
  have hes := HES.out
  have hsz := HSZ.out
  go_upto_region 6 with (fail)
  generalize ((w3.setCell ⟨w2.heap.size + 1, 0, none⟩ (.int .i64 0)).setCell ⟨w2.heap.size + 1, 1, none⟩ (.int .i64 0)) = w4 at *
  cases q
  · refine wp_region_held_drew (S := S6 w w2.heap.size (w2.heap.size + 1) va vb va) (by kernel_rfl) ⟨F4.out.drew, rA4, rB4, rD4, p0⟩ (fun hHeld => ?_)
    refine wpAnyH_take (i := 0) (oi := { dst := some 28, op := Op.fieldAddr 43 (Operand.tmp 11) 0, type := 0, pos := "outright.go:107", after := #[], guard := none }) (v := ?_) rfl (by kernel_rfl) (by kernel_rfl) (by kernel_rfl) (fun _ _ _ h => h) (Or.inl ⟨by rfl, ?_⟩) hHeld ?_
    rotate_left
    focus (intro w hSw; clear hSw; go_simp; try with_reducible rfl)
    try simp only [Act.put, List.setIfInBounds_toArray, List.set_cons_zero, List.set_cons_succ]
    refine wpAnyH_take (i := 1) (oi := { dst := some 29, op := Op.load 37 (Operand.tmp 28), type := 37, pos := "outright.go:107", after := #[{ on := 0, ground := Ground.data }], guard := none }) (v := ?_) rfl (by kernel_rfl) (by kernel_rfl) (by kernel_rfl) (fun _ _ _ h => h) (Or.inl ⟨by rfl, ?_⟩) hHeld ?_
    rotate_left
    focus (intro w hSw; obtain ⟨_, _, _, _, k0⟩ := hSw; go_simp; try with_reducible rfl)
    try simp only [Act.put, List.setIfInBounds_toArray, List.set_cons_zero, List.set_cons_succ]
    refine wpAnyH_take (i := 2) (oi := { dst := some 30, op := Op.binOp BinOp.neq 37 (Operand.tmp 29) (Operand.const (Value.int IntKind.i64 0)) 37, type := 4, pos := "outright.go:107", after := #[{ on := 1, ground := Ground.data }], guard := none }) (v := ?_) rfl (by kernel_rfl) (by kernel_rfl) (by kernel_rfl) (fun _ _ _ h => h) (Or.inl ⟨by rfl, ?_⟩) hHeld ?_
    rotate_left
    focus (intro w hSw; clear hSw; go_simp; try with_reducible rfl)
    try simp only [Act.put, List.setIfInBounds_toArray, List.set_cons_zero, List.set_cons_succ]
    refine wpAnyH_take (i := 3) (oi := { dst := some 31, op := Op.move (Operand.tmp 30), type := 4, pos := "outright.go:107", after := #[{ on := 2, ground := Ground.data }], guard := none }) (v := ?_) rfl (by kernel_rfl) (by kernel_rfl) (by kernel_rfl) (fun _ _ _ h => h) (Or.inl ⟨by rfl, ?_⟩) hHeld ?_
    rotate_left
    focus (intro w hSw; clear hSw; go_simp; try with_reducible rfl)
    try simp only [Act.put, List.setIfInBounds_toArray, List.set_cons_zero, List.set_cons_succ]
    refine wpAnyH_take (i := 4) (oi := { dst := some 32, op := Op.load 29 (Operand.tmp 10), type := 29, pos := "outright.go:107", after := #[{ on := 3, ground := Ground.guard }], guard := some (3, false) }) rfl (by kernel_rfl) (by kernel_rfl) (by kernel_rfl) (fun _ _ _ h => h) (yieldsIf_load_mid (by rfl) 29 (.tmp 10) rfl w2.heap.size 0 rfl va _ (fun _ h => h.2.2.2.1) hu29 rfl id') hHeld ?_
    try simp only [Act.put, List.setIfInBounds_toArray, List.set_cons_zero, List.set_cons_succ]
    refine wpAnyH_take (i := 5) (oi := { dst := some 33, op := Op.load 29 (Operand.tmp 3), type := 29, pos := "outright.go:107", after := #[{ on := 3, ground := Ground.guard }], guard := some (3, false) }) rfl (by kernel_rfl) (by kernel_rfl) (by kernel_rfl) (fun _ _ _ h => h) (yieldsIf_load_mid (by rfl) 29 (.tmp 3) rfl w.heap.size 0 rfl va _ (fun _ h => h.2.1) hu29 rfl ia) hHeld ?_
    try simp only [Act.put, List.setIfInBounds_toArray, List.set_cons_zero, List.set_cons_succ]
    refine wpAnyH_take (i := 6) (oi := { dst := some 34, op := Op.binOp BinOp.neq 29 (Operand.tmp 32) (Operand.tmp 33) 29, type := 4, pos := "outright.go:107", after := #[{ on := 4, ground := Ground.data }, { on := 5, ground := Ground.data }, { on := 3, ground := Ground.guard }], guard := some (3, false) }) (v := ?_) rfl (by kernel_rfl) (by kernel_rfl) (by kernel_rfl) (fun _ _ _ h => h) (Or.inl ⟨by rfl, ?_⟩) hHeld ?_
    rotate_left
    focus (intro w hSw; clear hSw; go_simp; try with_reducible rfl)
    try simp only [Act.put, List.setIfInBounds_toArray, List.set_cons_zero, List.set_cons_succ]
    refine wpAnyH_take (i := 7) (oi := { dst := some 35, op := Op.pick (Operand.tmp 31) (Operand.const (Value.bool true)) (Operand.tmp 34), type := 4, pos := "outright.go:107", after := #[{ on := 3, ground := Ground.data }, { on := 6, ground := Ground.data }], guard := none }) (v := ?_) rfl (by kernel_rfl) (by kernel_rfl) (by kernel_rfl) (fun _ _ _ h => h) (Or.inl ⟨by rfl, ?_⟩) hHeld ?_
    rotate_left
    focus (intro w hSw; clear hSw; go_simp; try with_reducible rfl)
    try simp only [Act.put, List.setIfInBounds_toArray, List.set_cons_zero, List.set_cons_succ]
    refine wpAnyH_take (i := 8) (oi := { dst := some 36, op := Op.move (Operand.tmp 35), type := 4, pos := "outright.go:107", after := #[{ on := 7, ground := Ground.data }, { on := 3, ground := Ground.chain }], guard := none }) (v := ?_) rfl (by kernel_rfl) (by kernel_rfl) (by kernel_rfl) (fun _ _ _ h => h) (Or.inl ⟨by rfl, ?_⟩) hHeld ?_
    rotate_left
    focus (intro w hSw; clear hSw; go_simp; try with_reducible rfl)
    try simp only [Act.put, List.setIfInBounds_toArray, List.set_cons_zero, List.set_cons_succ]
    refine wpAnyH_take (i := 9) (oi := { dst := some 37, op := Op.move (Operand.tmp 8), type := 9, pos := "outright.go:107", after := #[{ on := 8, ground := Ground.guard }], guard := some (8, false) }) (v := ?_) rfl (by kernel_rfl) (by kernel_rfl) (by kernel_rfl) (fun _ _ _ h => h) (Or.inl ⟨by rfl, ?_⟩) hHeld ?_
    rotate_left
    focus (intro w hSw; clear hSw; go_simp; try with_reducible rfl)
    try simp only [Act.put, List.setIfInBounds_toArray, List.set_cons_zero, List.set_cons_succ]
    refine wpAnyH_take (i := 10) (oi := { dst := some 38, op := Op.call { callee := Callee.builtin Builtin.len, args := #[Operand.tmp 37], argTypes := #[9] }, type := 3, pos := "outright.go:107", after := #[{ on := 9, ground := Ground.data }, { on := 8, ground := Ground.guard }], guard := some (8, false) }) (v := ?_) rfl (by kernel_rfl) (by kernel_rfl) (by kernel_rfl) (fun _ _ _ h => h) (Or.inl ⟨by rfl, ?_⟩) hHeld ?_
    rotate_left
    focus (intro w hSw; clear hSw; go_simp; try with_reducible rfl)
    try simp only [Act.put, List.setIfInBounds_toArray, List.set_cons_zero, List.set_cons_succ]
    refine wpAnyH_take (i := 11) (oi := { dst := some 39, op := Op.binOp BinOp.neq 3 (Operand.tmp 38) (Operand.const (Value.int IntKind.i64 64)) 3, type := 4, pos := "outright.go:107", after := #[{ on := 10, ground := Ground.data }, { on := 8, ground := Ground.guard }], guard := some (8, false) }) (v := ?_) rfl (by kernel_rfl) (by kernel_rfl) (by kernel_rfl) (fun _ _ _ h => h) (Or.inl ⟨by rfl, ?_⟩) hHeld ?_
    rotate_left
    focus (intro w hSw; clear hSw; go_simp; try with_reducible rfl)
    try simp only [Act.put, List.setIfInBounds_toArray, List.set_cons_zero, List.set_cons_succ]
    refine wpAnyH_take (i := 12) (oi := { dst := some 40, op := Op.pick (Operand.tmp 36) (Operand.const (Value.bool true)) (Operand.tmp 39), type := 4, pos := "outright.go:107", after := #[{ on := 8, ground := Ground.data }, { on := 11, ground := Ground.data }], guard := none }) (v := ?_) rfl (by kernel_rfl) (by kernel_rfl) (by kernel_rfl) (fun _ _ _ h => h) (Or.inl ⟨by rfl, ?_⟩) hHeld ?_
    rotate_left
    focus (intro w hSw; clear hSw; go_simp; try with_reducible rfl)
    try simp only [Act.put, List.setIfInBounds_toArray, List.set_cons_zero, List.set_cons_succ]
    refine wpAnyH_take (i := 13) (oi := { dst := some 41, op := Op.move (Operand.tmp 40), type := 4, pos := "outright.go:107", after := #[{ on := 12, ground := Ground.data }, { on := 8, ground := Ground.chain }], guard := none }) (v := ?_) rfl (by kernel_rfl) (by kernel_rfl) (by kernel_rfl) (fun _ _ _ h => h) (Or.inl ⟨by rfl, ?_⟩) hHeld ?_
    rotate_left
    focus (intro w hSw; clear hSw; go_simp; try with_reducible rfl)
    try simp only [Act.put, List.setIfInBounds_toArray, List.set_cons_zero, List.set_cons_succ]
    refine wpAnyH_take (i := 14) (oi := { dst := some 42, op := Op.load 29 (Operand.tmp 3), type := 29, pos := "outright.go:107", after := #[{ on := 13, ground := Ground.guard }], guard := some (13, false) }) rfl (by kernel_rfl) (by kernel_rfl) (by kernel_rfl) (fun _ _ _ h => h) (yieldsIf_load_mid (by rfl) 29 (.tmp 3) rfl w.heap.size 0 rfl va _ (fun _ h => h.2.1) hu29 rfl ia) hHeld ?_
    try simp only [Act.put, List.setIfInBounds_toArray, List.set_cons_zero, List.set_cons_succ]
    refine wpAnyH_take (i := 15) (oi := { dst := some 43, op := Op.load 29 (Operand.tmp 4), type := 29, pos := "outright.go:107", after := #[{ on := 13, ground := Ground.guard }], guard := some (13, false) }) rfl (by kernel_rfl) (by kernel_rfl) (by kernel_rfl) (fun _ _ _ h => h) (yieldsIf_load_mid (by rfl) 29 (.tmp 4) rfl (w.heap.size + 1) 0 rfl vb _ (fun _ h => h.2.2.1) hu29 rfl ib) hHeld ?_
    try simp only [Act.put, List.setIfInBounds_toArray, List.set_cons_zero, List.set_cons_succ]
    refine wpAnyH_take (i := 17) (oi := { dst := some 45, op := Op.move (Operand.tmp 8), type := 9, pos := "outright.go:107", after := #[{ on := 13, ground := Ground.guard }], guard := some (13, false) }) (v := ?_) rfl (by kernel_rfl) (by kernel_rfl) (by kernel_rfl) (fun _ _ _ h => h) (Or.inl ⟨by rfl, ?_⟩) hHeld ?_
    rotate_left
    focus (intro w hSw; clear hSw; go_simp; try with_reducible rfl)
    try simp only [Act.put, List.setIfInBounds_toArray, List.set_cons_zero, List.set_cons_succ]
    refine wpAnyH_take (i := 18) (oi := { dst := some 46, op := Op.move (Operand.tmp 9), type := 9, pos := "outright.go:107", after := #[{ on := 13, ground := Ground.guard }], guard := some (13, false) }) (v := ?_) rfl (by kernel_rfl) (by kernel_rfl) (by kernel_rfl) (fun _ _ _ h => h) (Or.inl ⟨by rfl, ?_⟩) hHeld ?_
    rotate_left
    focus (intro w hSw; clear hSw; go_simp; try with_reducible rfl)
    try simp only [Act.put, List.setIfInBounds_toArray, List.set_cons_zero, List.set_cons_succ]
    refine wpAnyH_take (i := 19) (oi := { dst := some 47, op := Op.binOp BinOp.lss 9 (Operand.tmp 45) (Operand.tmp 46) 9, type := 4, pos := "outright.go:107", after := #[{ on := 17, ground := Ground.data }, { on := 18, ground := Ground.data }, { on := 13, ground := Ground.guard }], guard := some (13, false) }) (v := ?_) rfl (by kernel_rfl) (by kernel_rfl) (by kernel_rfl) (fun _ _ _ h => h) (Or.inl ⟨by rfl, ?_⟩) hHeld ?_
    rotate_left
    focus (intro w hSw; clear hSw; go_simp; try with_reducible rfl)
    try simp only [Act.put, List.setIfInBounds_toArray, List.set_cons_zero, List.set_cons_succ]
    refine wpAnyH_ready (rs := [16]) (by kernel_rfl) (by simp) ?_
    refine AllReadyH.cons (o := { dst := some 44, op := Op.call { callee := Callee.value (Operand.func 25), args := #[Operand.tmp 42, Operand.tmp 43], argTypes := #[29, 29] }, type := 4, pos := "outright.go:107", after := #[{ on := 14, ground := Ground.data }, { on := 15, ground := Ground.data }, { on := 13, ground := Ground.chain }, { on := 13, ground := Ground.guard }], guard := some (13, false) }) rfl (fun K hK => ?_) AllReadyH.nil
    go_simp
    refine (CL.out _).mono ?_
    rintro r wx ⟨rfl, ff⟩
    refine hK.out _ _ ?_ (fun hNext => ?_)
    · exact hHeld.keep ff
    clear hK K hHeld
    have hHeld := hNext
    clear hNext
    try simp only [Act.put, List.setIfInBounds_toArray, List.set_cons_zero, List.set_cons_succ]
    refine wpAnyH_take (i := 20) (oi := { dst := some 48, op := Op.binOp BinOp.neq 4 (Operand.tmp 44) (Operand.tmp 47) 4, type := 4, pos := "outright.go:107", after := #[{ on := 16, ground := Ground.data }, { on := 19, ground := Ground.data }, { on := 13, ground := Ground.guard }], guard := some (13, false) }) (v := ?_) rfl (by kernel_rfl) (by kernel_rfl) (by kernel_rfl) (fun _ _ _ h => h) (Or.inl ⟨by rfl, ?_⟩) hHeld ?_
    rotate_left
    focus (intro w hSw; clear hSw; go_simp; try with_reducible rfl)
    try simp only [Act.put, List.setIfInBounds_toArray, List.set_cons_zero, List.set_cons_succ]
    refine wpAnyH_take (i := 21) (oi := { dst := some 49, op := Op.pick (Operand.tmp 41) (Operand.const (Value.bool true)) (Operand.tmp 48), type := 4, pos := "outright.go:107", after := #[{ on := 13, ground := Ground.data }, { on := 20, ground := Ground.data }], guard := none }) (v := ?_) rfl (by kernel_rfl) (by kernel_rfl) (by kernel_rfl) (fun _ _ _ h => h) (Or.inl ⟨by rfl, ?_⟩) hHeld ?_
    rotate_left
    focus (intro w hSw; clear hSw; go_simp; try with_reducible rfl)
    try simp only [Act.put, List.setIfInBounds_toArray, List.set_cons_zero, List.set_cons_succ]
    refine wpAnyH_take (i := 22) (oi := { dst := some 50, op := Op.move (Operand.tmp 49), type := 4, pos := "outright.go:107", after := #[{ on := 21, ground := Ground.data }, { on := 16, ground := Ground.chain }], guard := none }) (v := ?_) rfl (by kernel_rfl) (by kernel_rfl) (by kernel_rfl) (fun _ _ _ h => h) (Or.inl ⟨by rfl, ?_⟩) hHeld ?_
    rotate_left
    focus (intro w hSw; clear hSw; go_simp; try with_reducible rfl)
    try simp only [Act.put, List.setIfInBounds_toArray, List.set_cons_zero, List.set_cons_succ]
    refine wpAnyH_take (i := 23) (oi := { dst := some 51, op := Op.load 29 (Operand.tmp 3), type := 29, pos := "outright.go:107", after := #[{ on := 22, ground := Ground.guard }], guard := some (22, false) }) rfl (by kernel_rfl) (by kernel_rfl) (by kernel_rfl) (fun _ _ _ h => h) (yieldsIf_load_mid (by rfl) 29 (.tmp 3) rfl w.heap.size 0 rfl va _ (fun _ h => h.2.1) hu29 rfl ia) hHeld ?_
    try simp only [Act.put, List.setIfInBounds_toArray, List.set_cons_zero, List.set_cons_succ]
    refine wpAnyH_take (i := 24) (oi := { dst := some 52, op := Op.load 29 (Operand.tmp 4), type := 29, pos := "outright.go:107", after := #[{ on := 22, ground := Ground.guard }], guard := some (22, false) }) rfl (by kernel_rfl) (by kernel_rfl) (by kernel_rfl) (fun _ _ _ h => h) (yieldsIf_load_mid (by rfl) 29 (.tmp 4) rfl (w.heap.size + 1) 0 rfl vb _ (fun _ h => h.2.2.1) hu29 rfl ib) hHeld ?_
    try simp only [Act.put, List.setIfInBounds_toArray, List.set_cons_zero, List.set_cons_succ]
    refine wpAnyH_take (i := 25) (oi := { dst := some 53, op := Op.binOp BinOp.eql 29 (Operand.tmp 51) (Operand.tmp 52) 29, type := 4, pos := "outright.go:107", after := #[{ on := 23, ground := Ground.data }, { on := 24, ground := Ground.data }, { on := 22, ground := Ground.guard }], guard := some (22, false) }) (v := ?_) rfl (by kernel_rfl) (by kernel_rfl) (by kernel_rfl) (fun _ _ _ h => h) (Or.inl ⟨by rfl, ?_⟩) hHeld ?_
    rotate_left
    focus (intro w hSw; clear hSw; go_simp; try with_reducible rfl)
    try simp only [Act.put, List.setIfInBounds_toArray, List.set_cons_zero, List.set_cons_succ]
    refine wpAnyH_take (i := 26) (oi := { dst := some 54, op := Op.move (Operand.tmp 8), type := 9, pos := "outright.go:107", after := #[{ on := 22, ground := Ground.guard }], guard := some (22, false) }) (v := ?_) rfl (by kernel_rfl) (by kernel_rfl) (by kernel_rfl) (fun _ _ _ h => h) (Or.inl ⟨by rfl, ?_⟩) hHeld ?_
    rotate_left
    focus (intro w hSw; clear hSw; go_simp; try with_reducible rfl)
    try simp only [Act.put, List.setIfInBounds_toArray, List.set_cons_zero, List.set_cons_succ]
    refine wpAnyH_take (i := 27) (oi := { dst := some 55, op := Op.move (Operand.tmp 9), type := 9, pos := "outright.go:107", after := #[{ on := 22, ground := Ground.guard }], guard := some (22, false) }) (v := ?_) rfl (by kernel_rfl) (by kernel_rfl) (by kernel_rfl) (fun _ _ _ h => h) (Or.inl ⟨by rfl, ?_⟩) hHeld ?_
    rotate_left
    focus (intro w hSw; clear hSw; go_simp; try with_reducible rfl)
    try simp only [Act.put, List.setIfInBounds_toArray, List.set_cons_zero, List.set_cons_succ]
    refine wpAnyH_take (i := 28) (oi := { dst := some 56, op := Op.binOp BinOp.eql 9 (Operand.tmp 54) (Operand.tmp 55) 9, type := 4, pos := "outright.go:107", after := #[{ on := 26, ground := Ground.data }, { on := 27, ground := Ground.data }, { on := 22, ground := Ground.guard }], guard := some (22, false) }) (v := ?_) rfl (by kernel_rfl) (by kernel_rfl) (by kernel_rfl) (fun _ _ _ h => h) (Or.inl ⟨by rfl, ?_⟩) hHeld ?_
    rotate_left
    focus (intro w hSw; clear hSw; go_simp; try with_reducible rfl)
    try simp only [Act.put, List.setIfInBounds_toArray, List.set_cons_zero, List.set_cons_succ]
    refine wpAnyH_take (i := 29) (oi := { dst := some 57, op := Op.binOp BinOp.neq 4 (Operand.tmp 53) (Operand.tmp 56) 4, type := 4, pos := "outright.go:107", after := #[{ on := 25, ground := Ground.data }, { on := 28, ground := Ground.data }, { on := 22, ground := Ground.guard }], guard := some (22, false) }) (v := ?_) rfl (by kernel_rfl) (by kernel_rfl) (by kernel_rfl) (fun _ _ _ h => h) (Or.inl ⟨by rfl, ?_⟩) hHeld ?_
    rotate_left
    focus (intro w hSw; clear hSw; go_simp; try with_reducible rfl)
    try simp only [Act.put, List.setIfInBounds_toArray, List.set_cons_zero, List.set_cons_succ]
    refine wpAnyH_take (i := 30) (oi := { dst := some 58, op := Op.pick (Operand.tmp 50) (Operand.const (Value.bool true)) (Operand.tmp 57), type := 4, pos := "outright.go:107", after := #[{ on := 22, ground := Ground.data }, { on := 29, ground := Ground.data }], guard := none }) (v := ?_) rfl (by kernel_rfl) (by kernel_rfl) (by kernel_rfl) (fun _ _ _ h => h) (Or.inl ⟨by rfl, ?_⟩) hHeld ?_
    rotate_left
    focus (intro w hSw; clear hSw; go_simp; try with_reducible rfl)
    try simp only [Act.put, List.setIfInBounds_toArray, List.set_cons_zero, List.set_cons_succ]
    refine wpAnyH_take (i := 31) (oi := { dst := some 59, op := Op.move (Operand.tmp 58), type := 4, pos := "outright.go:107", after := #[{ on := 30, ground := Ground.data }, { on := 22, ground := Ground.chain }], guard := none }) (v := ?_) rfl (by kernel_rfl) (by kernel_rfl) (by kernel_rfl) (fun _ _ _ h => h) (Or.inl ⟨by rfl, ?_⟩) hHeld ?_
    rotate_left
    focus (intro w hSw; clear hSw; go_simp; try with_reducible rfl)
    try simp only [Act.put, List.setIfInBounds_toArray, List.set_cons_zero, List.set_cons_succ]
    refine wpAnyH_take (i := 32) (oi := { dst := some 60, op := Op.load 29 (Operand.tmp 3), type := 29, pos := "outright.go:107", after := #[{ on := 31, ground := Ground.guard }], guard := some (31, false) }) rfl (by kernel_rfl) (by kernel_rfl) (by kernel_rfl) (fun _ _ _ h => h) (yieldsIf_load_mid (by rfl) 29 (.tmp 3) rfl w.heap.size 0 rfl va _ (fun _ h => h.2.1) hu29 rfl ia) hHeld ?_
    try simp only [Act.put, List.setIfInBounds_toArray, List.set_cons_zero, List.set_cons_succ]
    refine wpAnyH_take (i := 33) (oi := { dst := some 61, op := Op.load 29 (Operand.tmp 4), type := 29, pos := "outright.go:107", after := #[{ on := 31, ground := Ground.guard }], guard := some (31, false) }) rfl (by kernel_rfl) (by kernel_rfl) (by kernel_rfl) (fun _ _ _ h => h) (yieldsIf_load_mid (by rfl) 29 (.tmp 4) rfl (w.heap.size + 1) 0 rfl vb _ (fun _ h => h.2.2.1) hu29 rfl ib) hHeld ?_
    try simp only [Act.put, List.setIfInBounds_toArray, List.set_cons_zero, List.set_cons_succ]
    refine wpAnyH_take (i := 34) (oi := { dst := some 62, op := Op.binOp BinOp.neq 29 (Operand.tmp 60) (Operand.tmp 61) 29, type := 4, pos := "outright.go:107", after := #[{ on := 32, ground := Ground.data }, { on := 33, ground := Ground.data }, { on := 31, ground := Ground.guard }], guard := some (31, false) }) (v := ?_) rfl (by kernel_rfl) (by kernel_rfl) (by kernel_rfl) (fun _ _ _ h => h) (Or.inl ⟨by rfl, ?_⟩) hHeld ?_
    rotate_left
    focus (intro w hSw; clear hSw; go_simp; try with_reducible rfl)
    try simp only [Act.put, List.setIfInBounds_toArray, List.set_cons_zero, List.set_cons_succ]
    refine wpAnyH_take (i := 35) (oi := { dst := some 63, op := Op.move (Operand.tmp 62), type := 4, pos := "outright.go:107", after := #[{ on := 34, ground := Ground.data }, { on := 31, ground := Ground.chain }, { on := 31, ground := Ground.guard }], guard := some (31, false) }) (v := ?_) rfl (by kernel_rfl) (by kernel_rfl) (by kernel_rfl) (fun _ _ _ h => h) (Or.inl ⟨by rfl, ?_⟩) hHeld ?_
    rotate_left
    focus (intro w hSw; clear hSw; go_simp; try with_reducible rfl)
    try simp only [Act.put, List.setIfInBounds_toArray, List.set_cons_zero, List.set_cons_succ]
    refine wpAnyH_take (i := 36) (oi := { dst := some 64, op := Op.load 29 (Operand.tmp 3), type := 29, pos := "outright.go:107", after := #[{ on := 35, ground := Ground.guard }], guard := some (35, true) }) rfl (by kernel_rfl) (by kernel_rfl) (by kernel_rfl) (fun _ _ _ h => h) (yieldsIf_load_mid (by rfl) 29 (.tmp 3) rfl w.heap.size 0 rfl va _ (fun _ h => h.2.1) hu29 rfl ia) hHeld ?_
    try simp only [Act.put, List.setIfInBounds_toArray, List.set_cons_zero, List.set_cons_succ]
    refine wpAnyH_take (i := 37) (oi := { dst := some 65, op := Op.load 29 (Operand.tmp 4), type := 29, pos := "outright.go:107", after := #[{ on := 35, ground := Ground.guard }], guard := some (35, true) }) rfl (by kernel_rfl) (by kernel_rfl) (by kernel_rfl) (fun _ _ _ h => h) (yieldsIf_load_mid (by rfl) 29 (.tmp 4) rfl (w.heap.size + 1) 0 rfl vb _ (fun _ h => h.2.2.1) hu29 rfl ib) hHeld ?_
    try simp only [Act.put, List.setIfInBounds_toArray, List.set_cons_zero, List.set_cons_succ]
    refine wpAnyH_take (i := 39) (oi := { dst := some 67, op := Op.load 29 (Operand.tmp 4), type := 29, pos := "outright.go:107", after := #[{ on := 35, ground := Ground.guard }], guard := some (35, true) }) rfl (by kernel_rfl) (by kernel_rfl) (by kernel_rfl) (fun _ _ _ h => h) (yieldsIf_load_mid (by rfl) 29 (.tmp 4) rfl (w.heap.size + 1) 0 rfl vb _ (fun _ h => h.2.2.1) hu29 rfl ib) hHeld ?_
    try simp only [Act.put, List.setIfInBounds_toArray, List.set_cons_zero, List.set_cons_succ]
    refine wpAnyH_take (i := 40) (oi := { dst := some 68, op := Op.load 29 (Operand.tmp 3), type := 29, pos := "outright.go:107", after := #[{ on := 35, ground := Ground.guard }], guard := some (35, true) }) rfl (by kernel_rfl) (by kernel_rfl) (by kernel_rfl) (fun _ _ _ h => h) (yieldsIf_load_mid (by rfl) 29 (.tmp 3) rfl w.heap.size 0 rfl va _ (fun _ h => h.2.1) hu29 rfl ia) hHeld ?_
    try simp only [Act.put, List.setIfInBounds_toArray, List.set_cons_zero, List.set_cons_succ]
    refine wpAnyH_ready (rs := [38]) (by kernel_rfl) (by simp) ?_
    refine AllReadyH.cons (o := { dst := some 66, op := Op.call { callee := Callee.value (Operand.func 25), args := #[Operand.tmp 64, Operand.tmp 65], argTypes := #[29, 29] }, type := 4, pos := "outright.go:107", after := #[{ on := 36, ground := Ground.data }, { on := 37, ground := Ground.data }, { on := 35, ground := Ground.chain }, { on := 35, ground := Ground.guard }], guard := some (35, true) }) rfl (fun K hK => ?_) AllReadyH.nil
    go_simp
    refine (CL.out _).mono ?_
    rintro r wx ⟨rfl, ff⟩
    refine hK.out _ _ ?_ (fun hNext => ?_)
    · exact hHeld.keep ff
    clear hK K hHeld
    have hHeld := hNext
    clear hNext
    try simp only [Act.put, List.setIfInBounds_toArray, List.set_cons_zero, List.set_cons_succ]
    refine wpAnyH_ready (rs := [41]) (by kernel_rfl) (by simp) ?_
    refine AllReadyH.cons (o := { dst := some 69, op := Op.call { callee := Callee.value (Operand.func 25), args := #[Operand.tmp 67, Operand.tmp 68], argTypes := #[29, 29] }, type := 4, pos := "outright.go:107", after := #[{ on := 39, ground := Ground.data }, { on := 40, ground := Ground.data }, { on := 38, ground := Ground.chain }, { on := 35, ground := Ground.guard }], guard := some (35, true) }) rfl (fun K hK => ?_) AllReadyH.nil
    go_simp
    refine (CM.out (HQ.out rfl) _).mono ?_
    rintro r wx ⟨rfl, ff⟩
    refine hK.out _ _ ?_ (fun hNext => ?_)
    · exact hHeld.keep ff
    clear hK K hHeld
    have hHeld := hNext
    clear hNext
    try simp only [Act.put, List.setIfInBounds_toArray, List.set_cons_zero, List.set_cons_succ]
    refine wpAnyH_take (i := 42) (oi := { dst := some 70, op := Op.binOp BinOp.eql 4 (Operand.tmp 66) (Operand.tmp 69) 4, type := 4, pos := "outright.go:107", after := #[{ on := 38, ground := Ground.data }, { on := 41, ground := Ground.data }, { on := 35, ground := Ground.guard }], guard := some (35, true) }) (v := ?_) rfl (by kernel_rfl) (by kernel_rfl) (by kernel_rfl) (fun _ _ _ h => h) (Or.inl ⟨by rfl, ?_⟩) hHeld ?_
    rotate_left
    focus (intro w hSw; clear hSw; go_simp; try with_reducible rfl)
    try simp only [Act.put, List.setIfInBounds_toArray, List.set_cons_zero, List.set_cons_succ]
    refine wpAnyH_take (i := 43) (oi := { dst := some 71, op := Op.pick (Operand.tmp 63) (Operand.tmp 70) (Operand.const (Value.bool false)), type := 4, pos := "outright.go:107", after := #[{ on := 35, ground := Ground.data }, { on := 42, ground := Ground.data }, { on := 31, ground := Ground.guard }], guard := some (31, false) }) (v := ?_) rfl (by kernel_rfl) (by kernel_rfl) (by kernel_rfl) (fun _ _ _ h => h) (Or.inl ⟨by rfl, ?_⟩) hHeld ?_
    rotate_left
    focus (intro w hSw; clear hSw; go_simp; try with_reducible rfl)
    try simp only [Act.put, List.setIfInBounds_toArray, List.set_cons_zero, List.set_cons_succ]
    refine wpAnyH_take (i := 44) (oi := { dst := some 72, op := Op.pick (Operand.tmp 59) (Operand.const (Value.bool true)) (Operand.tmp 71), type := 4, pos := "outright.go:107", after := #[{ on := 31, ground := Ground.data }, { on := 43, ground := Ground.data }], guard := none }) (v := ?_) rfl (by kernel_rfl) (by kernel_rfl) (by kernel_rfl) (fun _ _ _ h => h) (Or.inl ⟨by rfl, ?_⟩) hHeld ?_
    rotate_left
    focus (intro w hSw; clear hSw; go_simp; try with_reducible rfl)
    try simp only [Act.put, List.setIfInBounds_toArray, List.set_cons_zero, List.set_cons_succ]
    refine wpAnyH_done (by kernel_rfl) ?_ _
    obtain ⟨hf5, _, _, _, _⟩ := hHeld
    have F5 := Lib.hid hf5
    clear hf5 hda hab hae hls hes hsz p0 rA4 rB4 rD4 hz2
    have hsl : s.data.toList.length = s.size := by simp
    rcases prs_form2 s.data.toList with ⟨e, at_, he, ha0, ha1, ha2, hp⟩ | ⟨D, hD, hDs, hp⟩
    · have cQ := fun W => Parse_any s (by have := HS.out; omega) W
      rw [hp] at cQ
      have CQ := Lib.hid cQ
      rw [hsl] at ha1
      have he1 : ((e : Int) != 0) = true := by simpa using he
      have hz29 : ∀ W, (binOp .eql 29 (.agg Z32) (.agg Z32)).run Tryd.prog W = .ok (.bool true) W := fun W => by
        have := eql29 (List.replicate 32 0) (List.replicate 32 0) (by simp) (by simp) W
        simpa [Z32] using this
      have hb29 := build29
      have hz30 : ∀ W, (Op.equalIn 10000 29 (.agg Z32) (.agg Z32)).run Tryd.prog W = .ok true W := fun W => by
        have h := hz29 W
        rw [run_eql_struct] at h
        cases hr : (Op.equalIn 10000 29 (.agg Z32) (.agg Z32)).run Tryd.prog W with
        | ok x w' => rw [hr] at h; simp [Result.andThen] at h; rw [h.1, h.2]
        | halt x w' => rw [hr] at h; simp [Result.andThen] at h
      clear cQ hp hsl he
      go_upto_region 8 with (fail)
      refine wp_region_lit ?_
      refine wpList_step (fun K hK => ?_)
      go_simp
      refine hK _ _ ?_
      clear hK K
      refine wpList_step (fun K hK => ?_)
      go_simp
      refine (CQ.out _).mono ?_
      rintro r w6 ⟨rfl, f6⟩
      have F6 := Lib.hid (F5.out.trans f6 (by simp))
      clear f6
      refine hK _ _ ?_
      clear hK K
      refine wpList_step (fun K hK => ?_)
      go_simp
      refine hK _ _ ?_
      clear hK K
      refine wpList_step (fun K hK => ?_)
      go_simp
      refine hK _ _ ?_
      clear hK K
      refine wpList_step (fun K hK => ?_)
      go_simp
      refine hK _ _ ?_
      clear hK K
      refine wpList_step (fun K hK => ?_)
      go_simp
      refine hK _ _ ?_
      clear hK K
      refine wpList_step (fun K hK => ?_)
      go_simp
      refine hK _ _ ?_
      clear hK K
      refine wpList_store_row rfl 29 (.tmp 12) (.tmp 76) rfl w6.heap.size Z32 rfl rfl 29 _ (heap_alloc_lt (heap_alloc_new _ (.cells Z32 29))) i29 rfl Z32_one ?_
      have f7 := (((Frm.refl [] w6).alloc (.cells Z32 29)).alloc (.cells #[.int .i64 0, .int .i64 0] 43)).setRow w6.heap.size Z32 (.inr (Nat.le_refl _))
      have h7 : (((w6.alloc (.cells Z32 29)).alloc (.cells #[.int .i64 0, .int .i64 0] 43)).setRow w6.heap.size Z32).heap[w6.heap.size]? = some (.cells Z32 29 (0, 0)) := setRow_heap _ _ _ _ _ _ (heap_alloc_lt (heap_alloc_new _ (.cells Z32 29)))
      have g7 : Flt (((w6.alloc (.cells Z32 29)).alloc (.cells #[.int .i64 0, .int .i64 0] 43)).setRow w6.heap.size Z32) (w6.heap.size + 1) 0 0 := (setRow_other _ _ _ _ (by omega)).trans (heap_alloc_at (by simp))
      change wpList _ _ _ _ _ (((w6.alloc (.cells Z32 29)).alloc (.cells #[.int .i64 0, .int .i64 0] 43)).setRow w6.heap.size Z32)
      generalize ((w6.alloc (.cells Z32 29)).alloc (.cells #[.int .i64 0, .int .i64 0] 43)).setRow w6.heap.size Z32 = w7 at *
      obtain ⟨c0, c1, z0⟩ := cells2 g7
      have Z6 := Lib.hid F6.out.size
      have F7 := Lib.hid (F6.out.trans f7 (by simp))
      have H7 := Lib.hid h7
      have G7 := Lib.hid g7
      clear f7 h7 g7
      refine wpList_step (fun K hK => ?_)
      go_simp
      refine hK _ _ ?_
      clear hK K
      refine wpList_nil ?_
      have F8 := Lib.hid ((F7.out.setCell ⟨w6.heap.size + 1, 0, none⟩ (.int .i64 e) (.inr (by have := Z6.out; simp; omega))).setCell ⟨w6.heap.size + 1, 1, none⟩ (.int .i64 at_) (.inr (by have := Z6.out; simp; omega)))
      have F8a := ((Frm.refl [w6.heap.size + 1] w7).setCell ⟨w6.heap.size + 1, 0, none⟩ (.int .i64 e) (.inl (by simp))).setCell ⟨w6.heap.size + 1, 1, none⟩ (.int .i64 at_) (.inl (by simp))
      have g8 : Flt ((w7.setCell ⟨w6.heap.size + 1, 0, none⟩ (.int .i64 e)).setCell ⟨w6.heap.size + 1, 1, none⟩ (.int .i64 at_)) (w6.heap.size + 1) e at_ := heap_setCell_same _ (heap_setCell_same _ G7.out)
      have H8 := Lib.hid (F8a.heap H7.out (by simp))
      clear c0 c1 z0 F8a
      generalize ((w7.setCell ⟨w6.heap.size + 1, 0, none⟩ (.int .i64 e)).setCell ⟨w6.heap.size + 1, 1, none⟩ (.int .i64 at_)) = w8 at *
      obtain ⟨p0, p1, _⟩ := cells2 g8
      clear g8
      go_upto_region 10 with (fail)
      refine wp_region_lit ?_
      refine wpList_step (fun K hK => ?_)
      go_simp
      refine hK _ _ ?_
      clear hK K
      refine wpList_step (fun K hK => ?_)
      go_simp
      refine hK _ _ ?_
      clear hK K
      refine wpList_step (fun K hK => ?_)
      go_simp
      refine hK _ _ ?_
      clear hK K
      refine wpList_step (fun K hK => ?_)
      go_simp
      refine hK _ _ ?_
      clear hK K
      refine wpList_step (fun K hK => ?_)
      go_simp
      refine hK _ _ ?_
      clear hK K
      refine wpList_step (fun K hK => ?_)
      go_simp
      refine hK _ _ ?_
      clear hK K
      refine wpList_step (fun K hK => ?_)
      go_simp
      refine hK _ _ ?_
      clear hK K
      refine wpList_step (fun K hK => ?_)
      go_simp
      refine hK _ _ ?_
      clear hK K
      refine wpList_step (fun K hK => ?_)
      go_simp
      refine hK _ _ ?_
      clear hK K
      refine wpList_step (fun K hK => ?_)
      go_simp
      refine hK _ _ ?_
      clear hK K
      refine wpList_step (fun K hK => ?_)
      go_simp
      refine hK _ _ ?_
      clear hK K
      refine wpList_step (fun K hK => ?_)
      go_simp
      refine hK _ _ ?_
      clear hK K
      refine wpList_step (fun K hK => ?_)
      go_simp
      refine hK _ _ ?_
      clear hK K
      refine wpList_step (fun K hK => ?_)
      go_simp
      refine hK _ _ ?_
      clear hK K
      refine wpList_step (fun K hK => ?_)
      go_simp
      refine hK _ _ ?_
      clear hK K
      refine wpList_step (fun K hK => ?_)
      go_simp
      refine hK _ _ ?_
      clear hK K
      refine wpList_step (fun K hK => ?_)
      go_simp
      refine hK _ _ ?_
      clear hK K
      refine wpList_step (fun K hK => ?_)
      go_simp
      refine hK _ _ ?_
      clear hK K
      refine wpList_step (fun K hK => ?_)
      go_simp
      refine hK _ _ ?_
      clear hK K
      refine wpList_load_row_g (by go_simp) 29 (.tmp 12) rfl w6.heap.size rfl 29 Z32 (0, 0) _ H8.out d29 rfl i29 ?_
      refine wpList_val_g (v := .agg Z32) (w' := w8) (by go_simp) (by simp [execOp, hb29, Result.andThen]) ?_
      refine wpList_step (fun K hK => ?_)
      go_simp
      refine hK _ _ ?_
      clear hK K
      refine wpList_step (fun K hK => ?_)
      go_simp
      refine hK _ _ ?_
      clear hK K
      refine wpList_step (fun K hK => ?_)
      go_simp
      refine hK _ _ ?_
      clear hK K
      refine wpList_nil ?_
      go_wp2_with fail
      go_ret
      exact ⟨rfl, F8.out⟩
    · have cQ := fun W => Parse_any s (by have := HS.out; omega) W
      have cD := fun W => Text_any D hD W
      have hsd : ((⟨(txt D).toArray⟩ : ByteArray).toList == s.toList) = true := by rw [ByteArray.toList_mk, hDs, ByteArray.toList_eq]; simp
      have hdone := bvs_oneA D
      have hdsz : (bvs D).toArray.size = 32 := by rw [List.size_toArray, bvs_length, hD]
      rw [hp] at cQ
      generalize (bvs D).toArray = vd at *
      generalize (⟨(txt D).toArray⟩ : ByteArray) = sD at *
      have CQ := Lib.hid cQ
      have CD := Lib.hid cD
      have HSD := Lib.hid hdsz
      have HDO := Lib.hid hdone
      clear cQ cD hp hsl hD hDs hdone hdsz
      go_upto_region 8 with (fail)
      refine wp_region_lit ?_
      refine wpList_step (fun K hK => ?_)
      go_simp
      refine hK _ _ ?_
      clear hK K
      refine wpList_step (fun K hK => ?_)
      go_simp
      refine (CQ.out _).mono ?_
      rintro r w6 ⟨rfl, f6⟩
      have F6 := Lib.hid (F5.out.trans f6 (by simp))
      clear f6
      refine hK _ _ ?_
      clear hK K
      refine wpList_step (fun K hK => ?_)
      go_simp
      refine hK _ _ ?_
      clear hK K
      refine wpList_step (fun K hK => ?_)
      go_simp
      refine hK _ _ ?_
      clear hK K
      refine wpList_step (fun K hK => ?_)
      go_simp
      refine hK _ _ ?_
      clear hK K
      refine wpList_step (fun K hK => ?_)
      go_simp
      refine hK _ _ ?_
      clear hK K
      refine wpList_step (fun K hK => ?_)
      go_simp
      refine hK _ _ ?_
      clear hK K
      refine wpList_store_row rfl 29 (.tmp 12) (.tmp 76) rfl w6.heap.size vd rfl rfl 29 _ (heap_alloc_lt (heap_alloc_new _ (.cells Z32 29))) (by rw [HSD.out]; exact i29) (by rw [HSD.out]; rfl) HDO.out ?_
      have f7 := (((Frm.refl [] w6).alloc (.cells Z32 29)).alloc (.cells #[.int .i64 0, .int .i64 0] 43)).setRow w6.heap.size vd (.inr (Nat.le_refl _))
      have h7 : (((w6.alloc (.cells Z32 29)).alloc (.cells #[.int .i64 0, .int .i64 0] 43)).setRow w6.heap.size vd).heap[w6.heap.size]? = some (.cells vd 29 (0, 0)) := setRow_heap _ _ _ _ _ _ (heap_alloc_lt (heap_alloc_new _ (.cells Z32 29)))
      have g7 : Flt (((w6.alloc (.cells Z32 29)).alloc (.cells #[.int .i64 0, .int .i64 0] 43)).setRow w6.heap.size vd) (w6.heap.size + 1) 0 0 := (setRow_other _ _ _ _ (by omega)).trans (heap_alloc_at (by simp))
      change wpList _ _ _ _ _ (((w6.alloc (.cells Z32 29)).alloc (.cells #[.int .i64 0, .int .i64 0] 43)).setRow w6.heap.size vd)
      generalize ((w6.alloc (.cells Z32 29)).alloc (.cells #[.int .i64 0, .int .i64 0] 43)).setRow w6.heap.size vd = w7 at *
      obtain ⟨c0, c1, z0⟩ := cells2 g7
      have Z6 := Lib.hid F6.out.size
      have F7 := Lib.hid (F6.out.trans f7 (by simp))
      have H7 := Lib.hid h7
      have G7 := Lib.hid g7
      clear f7 h7 g7
      refine wpList_step (fun K hK => ?_)
      go_simp
      refine hK _ _ ?_
      clear hK K
      refine wpList_nil ?_
      have F8 := Lib.hid ((F7.out.setCell ⟨w6.heap.size + 1, 0, none⟩ (.int .i64 0) (.inr (by have := Z6.out; simp; omega))).setCell ⟨w6.heap.size + 1, 1, none⟩ (.int .i64 0) (.inr (by have := Z6.out; simp; omega)))
      have F8a := ((Frm.refl [w6.heap.size + 1] w7).setCell ⟨w6.heap.size + 1, 0, none⟩ (.int .i64 0) (.inl (by simp))).setCell ⟨w6.heap.size + 1, 1, none⟩ (.int .i64 0) (.inl (by simp))
      have g8 : Flt ((w7.setCell ⟨w6.heap.size + 1, 0, none⟩ (.int .i64 0)).setCell ⟨w6.heap.size + 1, 1, none⟩ (.int .i64 0)) (w6.heap.size + 1) 0 0 := heap_setCell_same _ (heap_setCell_same _ G7.out)
      have H8 := Lib.hid (F8a.heap H7.out (by simp))
      clear c0 c1 z0 F8a
      generalize ((w7.setCell ⟨w6.heap.size + 1, 0, none⟩ (.int .i64 0)).setCell ⟨w6.heap.size + 1, 1, none⟩ (.int .i64 0)) = w8 at *
      obtain ⟨p0, p1, _⟩ := cells2 g8
      clear g8
      go_upto_region 11 with (fail)
      refine wp_region_lit ?_
      refine wpList_step (fun K hK => ?_)
      go_simp
      refine hK _ _ ?_
      clear hK K
      refine wpList_step (fun K hK => ?_)
      go_simp
      refine hK _ _ ?_
      clear hK K
      refine wpList_load_row_g (by go_simp) 29 (.tmp 12) rfl w6.heap.size rfl 29 vd (0, 0) _ H8.out d29 rfl (by rw [HSD.out]; exact i29) ?_
      refine wpList_step (fun K hK => ?_)
      go_simp
      refine (CD.out _).mono ?_
      rintro r w9 ⟨rfl, f9⟩
      have F9 := Lib.hid (F8.out.trans f9 (by simp))
      clear f9
      refine hK _ _ ?_
      clear hK K
      refine wpList_step (fun K hK => ?_)
      go_simp
      refine hK _ _ ?_
      clear hK K
      refine wpList_step (fun K hK => ?_)
      go_simp
      refine hK _ _ ?_
      clear hK K
      refine wpList_step (fun K hK => ?_)
      go_simp
      refine hK _ _ ?_
      clear hK K
      refine wpList_step (fun K hK => ?_)
      go_simp
      refine hK _ _ ?_
      clear hK K
      refine wpList_nil ?_
      go_wp2_with fail
      go_ret
      exact ⟨rfl, F9.out⟩
  · refine wp_region_held_drew (S := S6 w w2.heap.size (w2.heap.size + 1) va vb va) (by kernel_rfl) ⟨F4.out.drew, rA4, rB4, rD4, p0⟩ (fun hHeld => ?_)
    refine wpAnyH_take (i := 0) (oi := { dst := some 28, op := Op.fieldAddr 43 (Operand.tmp 11) 0, type := 0, pos := "outright.go:107", after := #[], guard := none }) (v := ?_) rfl (by kernel_rfl) (by kernel_rfl) (by kernel_rfl) (fun _ _ _ h => h) (Or.inl ⟨by rfl, ?_⟩) hHeld ?_
    rotate_left
    focus (intro w hSw; clear hSw; go_simp; try with_reducible rfl)
    try simp only [Act.put, List.setIfInBounds_toArray, List.set_cons_zero, List.set_cons_succ]
    refine wpAnyH_take (i := 1) (oi := { dst := some 29, op := Op.load 37 (Operand.tmp 28), type := 37, pos := "outright.go:107", after := #[{ on := 0, ground := Ground.data }], guard := none }) (v := ?_) rfl (by kernel_rfl) (by kernel_rfl) (by kernel_rfl) (fun _ _ _ h => h) (Or.inl ⟨by rfl, ?_⟩) hHeld ?_
    rotate_left
    focus (intro w hSw; obtain ⟨_, _, _, _, k0⟩ := hSw; go_simp; try with_reducible rfl)
    try simp only [Act.put, List.setIfInBounds_toArray, List.set_cons_zero, List.set_cons_succ]
    refine wpAnyH_take (i := 2) (oi := { dst := some 30, op := Op.binOp BinOp.neq 37 (Operand.tmp 29) (Operand.const (Value.int IntKind.i64 0)) 37, type := 4, pos := "outright.go:107", after := #[{ on := 1, ground := Ground.data }], guard := none }) (v := ?_) rfl (by kernel_rfl) (by kernel_rfl) (by kernel_rfl) (fun _ _ _ h => h) (Or.inl ⟨by rfl, ?_⟩) hHeld ?_
    rotate_left
    focus (intro w hSw; clear hSw; go_simp; try with_reducible rfl)
    try simp only [Act.put, List.setIfInBounds_toArray, List.set_cons_zero, List.set_cons_succ]
    refine wpAnyH_take (i := 3) (oi := { dst := some 31, op := Op.move (Operand.tmp 30), type := 4, pos := "outright.go:107", after := #[{ on := 2, ground := Ground.data }], guard := none }) (v := ?_) rfl (by kernel_rfl) (by kernel_rfl) (by kernel_rfl) (fun _ _ _ h => h) (Or.inl ⟨by rfl, ?_⟩) hHeld ?_
    rotate_left
    focus (intro w hSw; clear hSw; go_simp; try with_reducible rfl)
    try simp only [Act.put, List.setIfInBounds_toArray, List.set_cons_zero, List.set_cons_succ]
    refine wpAnyH_take (i := 4) (oi := { dst := some 32, op := Op.load 29 (Operand.tmp 10), type := 29, pos := "outright.go:107", after := #[{ on := 3, ground := Ground.guard }], guard := some (3, false) }) rfl (by kernel_rfl) (by kernel_rfl) (by kernel_rfl) (fun _ _ _ h => h) (yieldsIf_load_mid (by rfl) 29 (.tmp 10) rfl w2.heap.size 0 rfl va _ (fun _ h => h.2.2.2.1) hu29 rfl id') hHeld ?_
    try simp only [Act.put, List.setIfInBounds_toArray, List.set_cons_zero, List.set_cons_succ]
    refine wpAnyH_take (i := 5) (oi := { dst := some 33, op := Op.load 29 (Operand.tmp 3), type := 29, pos := "outright.go:107", after := #[{ on := 3, ground := Ground.guard }], guard := some (3, false) }) rfl (by kernel_rfl) (by kernel_rfl) (by kernel_rfl) (fun _ _ _ h => h) (yieldsIf_load_mid (by rfl) 29 (.tmp 3) rfl w.heap.size 0 rfl va _ (fun _ h => h.2.1) hu29 rfl ia) hHeld ?_
    try simp only [Act.put, List.setIfInBounds_toArray, List.set_cons_zero, List.set_cons_succ]
    refine wpAnyH_take (i := 6) (oi := { dst := some 34, op := Op.binOp BinOp.neq 29 (Operand.tmp 32) (Operand.tmp 33) 29, type := 4, pos := "outright.go:107", after := #[{ on := 4, ground := Ground.data }, { on := 5, ground := Ground.data }, { on := 3, ground := Ground.guard }], guard := some (3, false) }) (v := ?_) rfl (by kernel_rfl) (by kernel_rfl) (by kernel_rfl) (fun _ _ _ h => h) (Or.inl ⟨by rfl, ?_⟩) hHeld ?_
    rotate_left
    focus (intro w hSw; clear hSw; go_simp; try with_reducible rfl)
    try simp only [Act.put, List.setIfInBounds_toArray, List.set_cons_zero, List.set_cons_succ]
    refine wpAnyH_take (i := 7) (oi := { dst := some 35, op := Op.pick (Operand.tmp 31) (Operand.const (Value.bool true)) (Operand.tmp 34), type := 4, pos := "outright.go:107", after := #[{ on := 3, ground := Ground.data }, { on := 6, ground := Ground.data }], guard := none }) (v := ?_) rfl (by kernel_rfl) (by kernel_rfl) (by kernel_rfl) (fun _ _ _ h => h) (Or.inl ⟨by rfl, ?_⟩) hHeld ?_
    rotate_left
    focus (intro w hSw; clear hSw; go_simp; try with_reducible rfl)
    try simp only [Act.put, List.setIfInBounds_toArray, List.set_cons_zero, List.set_cons_succ]
    refine wpAnyH_take (i := 8) (oi := { dst := some 36, op := Op.move (Operand.tmp 35), type := 4, pos := "outright.go:107", after := #[{ on := 7, ground := Ground.data }, { on := 3, ground := Ground.chain }], guard := none }) (v := ?_) rfl (by kernel_rfl) (by kernel_rfl) (by kernel_rfl) (fun _ _ _ h => h) (Or.inl ⟨by rfl, ?_⟩) hHeld ?_
    rotate_left
    focus (intro w hSw; clear hSw; go_simp; try with_reducible rfl)
    try simp only [Act.put, List.setIfInBounds_toArray, List.set_cons_zero, List.set_cons_succ]
    refine wpAnyH_take (i := 9) (oi := { dst := some 37, op := Op.move (Operand.tmp 8), type := 9, pos := "outright.go:107", after := #[{ on := 8, ground := Ground.guard }], guard := some (8, false) }) (v := ?_) rfl (by kernel_rfl) (by kernel_rfl) (by kernel_rfl) (fun _ _ _ h => h) (Or.inl ⟨by rfl, ?_⟩) hHeld ?_
    rotate_left
    focus (intro w hSw; clear hSw; go_simp; try with_reducible rfl)
    try simp only [Act.put, List.setIfInBounds_toArray, List.set_cons_zero, List.set_cons_succ]
    refine wpAnyH_take (i := 10) (oi := { dst := some 38, op := Op.call { callee := Callee.builtin Builtin.len, args := #[Operand.tmp 37], argTypes := #[9] }, type := 3, pos := "outright.go:107", after := #[{ on := 9, ground := Ground.data }, { on := 8, ground := Ground.guard }], guard := some (8, false) }) (v := ?_) rfl (by kernel_rfl) (by kernel_rfl) (by kernel_rfl) (fun _ _ _ h => h) (Or.inl ⟨by rfl, ?_⟩) hHeld ?_
    rotate_left
    focus (intro w hSw; clear hSw; go_simp; try with_reducible rfl)
    try simp only [Act.put, List.setIfInBounds_toArray, List.set_cons_zero, List.set_cons_succ]
    refine wpAnyH_take (i := 11) (oi := { dst := some 39, op := Op.binOp BinOp.neq 3 (Operand.tmp 38) (Operand.const (Value.int IntKind.i64 64)) 3, type := 4, pos := "outright.go:107", after := #[{ on := 10, ground := Ground.data }, { on := 8, ground := Ground.guard }], guard := some (8, false) }) (v := ?_) rfl (by kernel_rfl) (by kernel_rfl) (by kernel_rfl) (fun _ _ _ h => h) (Or.inl ⟨by rfl, ?_⟩) hHeld ?_
    rotate_left
    focus (intro w hSw; clear hSw; go_simp; try with_reducible rfl)
    try simp only [Act.put, List.setIfInBounds_toArray, List.set_cons_zero, List.set_cons_succ]
    refine wpAnyH_take (i := 12) (oi := { dst := some 40, op := Op.pick (Operand.tmp 36) (Operand.const (Value.bool true)) (Operand.tmp 39), type := 4, pos := "outright.go:107", after := #[{ on := 8, ground := Ground.data }, { on := 11, ground := Ground.data }], guard := none }) (v := ?_) rfl (by kernel_rfl) (by kernel_rfl) (by kernel_rfl) (fun _ _ _ h => h) (Or.inl ⟨by rfl, ?_⟩) hHeld ?_
    rotate_left
    focus (intro w hSw; clear hSw; go_simp; try with_reducible rfl)
    try simp only [Act.put, List.setIfInBounds_toArray, List.set_cons_zero, List.set_cons_succ]
    refine wpAnyH_take (i := 13) (oi := { dst := some 41, op := Op.move (Operand.tmp 40), type := 4, pos := "outright.go:107", after := #[{ on := 12, ground := Ground.data }, { on := 8, ground := Ground.chain }], guard := none }) (v := ?_) rfl (by kernel_rfl) (by kernel_rfl) (by kernel_rfl) (fun _ _ _ h => h) (Or.inl ⟨by rfl, ?_⟩) hHeld ?_
    rotate_left
    focus (intro w hSw; clear hSw; go_simp; try with_reducible rfl)
    try simp only [Act.put, List.setIfInBounds_toArray, List.set_cons_zero, List.set_cons_succ]
    refine wpAnyH_take (i := 14) (oi := { dst := some 42, op := Op.load 29 (Operand.tmp 3), type := 29, pos := "outright.go:107", after := #[{ on := 13, ground := Ground.guard }], guard := some (13, false) }) rfl (by kernel_rfl) (by kernel_rfl) (by kernel_rfl) (fun _ _ _ h => h) (yieldsIf_load_mid (by rfl) 29 (.tmp 3) rfl w.heap.size 0 rfl va _ (fun _ h => h.2.1) hu29 rfl ia) hHeld ?_
    try simp only [Act.put, List.setIfInBounds_toArray, List.set_cons_zero, List.set_cons_succ]
    refine wpAnyH_take (i := 15) (oi := { dst := some 43, op := Op.load 29 (Operand.tmp 4), type := 29, pos := "outright.go:107", after := #[{ on := 13, ground := Ground.guard }], guard := some (13, false) }) rfl (by kernel_rfl) (by kernel_rfl) (by kernel_rfl) (fun _ _ _ h => h) (yieldsIf_load_mid (by rfl) 29 (.tmp 4) rfl (w.heap.size + 1) 0 rfl vb _ (fun _ h => h.2.2.1) hu29 rfl ib) hHeld ?_
    try simp only [Act.put, List.setIfInBounds_toArray, List.set_cons_zero, List.set_cons_succ]
    refine wpAnyH_take (i := 17) (oi := { dst := some 45, op := Op.move (Operand.tmp 8), type := 9, pos := "outright.go:107", after := #[{ on := 13, ground := Ground.guard }], guard := some (13, false) }) (v := ?_) rfl (by kernel_rfl) (by kernel_rfl) (by kernel_rfl) (fun _ _ _ h => h) (Or.inl ⟨by rfl, ?_⟩) hHeld ?_
    rotate_left
    focus (intro w hSw; clear hSw; go_simp; try with_reducible rfl)
    try simp only [Act.put, List.setIfInBounds_toArray, List.set_cons_zero, List.set_cons_succ]
    refine wpAnyH_take (i := 18) (oi := { dst := some 46, op := Op.move (Operand.tmp 9), type := 9, pos := "outright.go:107", after := #[{ on := 13, ground := Ground.guard }], guard := some (13, false) }) (v := ?_) rfl (by kernel_rfl) (by kernel_rfl) (by kernel_rfl) (fun _ _ _ h => h) (Or.inl ⟨by rfl, ?_⟩) hHeld ?_
    rotate_left
    focus (intro w hSw; clear hSw; go_simp; try with_reducible rfl)
    try simp only [Act.put, List.setIfInBounds_toArray, List.set_cons_zero, List.set_cons_succ]
    refine wpAnyH_take (i := 19) (oi := { dst := some 47, op := Op.binOp BinOp.lss 9 (Operand.tmp 45) (Operand.tmp 46) 9, type := 4, pos := "outright.go:107", after := #[{ on := 17, ground := Ground.data }, { on := 18, ground := Ground.data }, { on := 13, ground := Ground.guard }], guard := some (13, false) }) (v := ?_) rfl (by kernel_rfl) (by kernel_rfl) (by kernel_rfl) (fun _ _ _ h => h) (Or.inl ⟨by rfl, ?_⟩) hHeld ?_
    rotate_left
    focus (intro w hSw; clear hSw; go_simp; try with_reducible rfl)
    try simp only [Act.put, List.setIfInBounds_toArray, List.set_cons_zero, List.set_cons_succ]
    refine wpAnyH_ready (rs := [16]) (by kernel_rfl) (by simp) ?_
    refine AllReadyH.cons (o := { dst := some 44, op := Op.call { callee := Callee.value (Operand.func 25), args := #[Operand.tmp 42, Operand.tmp 43], argTypes := #[29, 29] }, type := 4, pos := "outright.go:107", after := #[{ on := 14, ground := Ground.data }, { on := 15, ground := Ground.data }, { on := 13, ground := Ground.chain }, { on := 13, ground := Ground.guard }], guard := some (13, false) }) rfl (fun K hK => ?_) AllReadyH.nil
    go_simp
    refine (CL.out _).mono ?_
    rintro r wx ⟨rfl, ff⟩
    refine hK.out _ _ ?_ (fun hNext => ?_)
    · exact hHeld.keep ff
    clear hK K hHeld
    have hHeld := hNext
    clear hNext
    try simp only [Act.put, List.setIfInBounds_toArray, List.set_cons_zero, List.set_cons_succ]
    refine wpAnyH_take (i := 20) (oi := { dst := some 48, op := Op.binOp BinOp.neq 4 (Operand.tmp 44) (Operand.tmp 47) 4, type := 4, pos := "outright.go:107", after := #[{ on := 16, ground := Ground.data }, { on := 19, ground := Ground.data }, { on := 13, ground := Ground.guard }], guard := some (13, false) }) (v := ?_) rfl (by kernel_rfl) (by kernel_rfl) (by kernel_rfl) (fun _ _ _ h => h) (Or.inl ⟨by rfl, ?_⟩) hHeld ?_
    rotate_left
    focus (intro w hSw; clear hSw; go_simp; try with_reducible rfl)
    try simp only [Act.put, List.setIfInBounds_toArray, List.set_cons_zero, List.set_cons_succ]
    refine wpAnyH_take (i := 21) (oi := { dst := some 49, op := Op.pick (Operand.tmp 41) (Operand.const (Value.bool true)) (Operand.tmp 48), type := 4, pos := "outright.go:107", after := #[{ on := 13, ground := Ground.data }, { on := 20, ground := Ground.data }], guard := none }) (v := ?_) rfl (by kernel_rfl) (by kernel_rfl) (by kernel_rfl) (fun _ _ _ h => h) (Or.inl ⟨by rfl, ?_⟩) hHeld ?_
    rotate_left
    focus (intro w hSw; clear hSw; go_simp; try with_reducible rfl)
    try simp only [Act.put, List.setIfInBounds_toArray, List.set_cons_zero, List.set_cons_succ]
    refine wpAnyH_take (i := 22) (oi := { dst := some 50, op := Op.move (Operand.tmp 49), type := 4, pos := "outright.go:107", after := #[{ on := 21, ground := Ground.data }, { on := 16, ground := Ground.chain }], guard := none }) (v := ?_) rfl (by kernel_rfl) (by kernel_rfl) (by kernel_rfl) (fun _ _ _ h => h) (Or.inl ⟨by rfl, ?_⟩) hHeld ?_
    rotate_left
    focus (intro w hSw; clear hSw; go_simp; try with_reducible rfl)
    try simp only [Act.put, List.setIfInBounds_toArray, List.set_cons_zero, List.set_cons_succ]
    refine wpAnyH_take (i := 23) (oi := { dst := some 51, op := Op.load 29 (Operand.tmp 3), type := 29, pos := "outright.go:107", after := #[{ on := 22, ground := Ground.guard }], guard := some (22, false) }) rfl (by kernel_rfl) (by kernel_rfl) (by kernel_rfl) (fun _ _ _ h => h) (yieldsIf_load_mid (by rfl) 29 (.tmp 3) rfl w.heap.size 0 rfl va _ (fun _ h => h.2.1) hu29 rfl ia) hHeld ?_
    try simp only [Act.put, List.setIfInBounds_toArray, List.set_cons_zero, List.set_cons_succ]
    refine wpAnyH_take (i := 24) (oi := { dst := some 52, op := Op.load 29 (Operand.tmp 4), type := 29, pos := "outright.go:107", after := #[{ on := 22, ground := Ground.guard }], guard := some (22, false) }) rfl (by kernel_rfl) (by kernel_rfl) (by kernel_rfl) (fun _ _ _ h => h) (yieldsIf_load_mid (by rfl) 29 (.tmp 4) rfl (w.heap.size + 1) 0 rfl vb _ (fun _ h => h.2.2.1) hu29 rfl ib) hHeld ?_
    try simp only [Act.put, List.setIfInBounds_toArray, List.set_cons_zero, List.set_cons_succ]
    refine wpAnyH_take (i := 25) (oi := { dst := some 53, op := Op.binOp BinOp.eql 29 (Operand.tmp 51) (Operand.tmp 52) 29, type := 4, pos := "outright.go:107", after := #[{ on := 23, ground := Ground.data }, { on := 24, ground := Ground.data }, { on := 22, ground := Ground.guard }], guard := some (22, false) }) (v := ?_) rfl (by kernel_rfl) (by kernel_rfl) (by kernel_rfl) (fun _ _ _ h => h) (Or.inl ⟨by rfl, ?_⟩) hHeld ?_
    rotate_left
    focus (intro w hSw; clear hSw; go_simp; try with_reducible rfl)
    try simp only [Act.put, List.setIfInBounds_toArray, List.set_cons_zero, List.set_cons_succ]
    refine wpAnyH_take (i := 26) (oi := { dst := some 54, op := Op.move (Operand.tmp 8), type := 9, pos := "outright.go:107", after := #[{ on := 22, ground := Ground.guard }], guard := some (22, false) }) (v := ?_) rfl (by kernel_rfl) (by kernel_rfl) (by kernel_rfl) (fun _ _ _ h => h) (Or.inl ⟨by rfl, ?_⟩) hHeld ?_
    rotate_left
    focus (intro w hSw; clear hSw; go_simp; try with_reducible rfl)
    try simp only [Act.put, List.setIfInBounds_toArray, List.set_cons_zero, List.set_cons_succ]
    refine wpAnyH_take (i := 27) (oi := { dst := some 55, op := Op.move (Operand.tmp 9), type := 9, pos := "outright.go:107", after := #[{ on := 22, ground := Ground.guard }], guard := some (22, false) }) (v := ?_) rfl (by kernel_rfl) (by kernel_rfl) (by kernel_rfl) (fun _ _ _ h => h) (Or.inl ⟨by rfl, ?_⟩) hHeld ?_
    rotate_left
    focus (intro w hSw; clear hSw; go_simp; try with_reducible rfl)
    try simp only [Act.put, List.setIfInBounds_toArray, List.set_cons_zero, List.set_cons_succ]
    refine wpAnyH_take (i := 28) (oi := { dst := some 56, op := Op.binOp BinOp.eql 9 (Operand.tmp 54) (Operand.tmp 55) 9, type := 4, pos := "outright.go:107", after := #[{ on := 26, ground := Ground.data }, { on := 27, ground := Ground.data }, { on := 22, ground := Ground.guard }], guard := some (22, false) }) (v := ?_) rfl (by kernel_rfl) (by kernel_rfl) (by kernel_rfl) (fun _ _ _ h => h) (Or.inl ⟨by rfl, ?_⟩) hHeld ?_
    rotate_left
    focus (intro w hSw; clear hSw; go_simp; try with_reducible rfl)
    try simp only [Act.put, List.setIfInBounds_toArray, List.set_cons_zero, List.set_cons_succ]
    refine wpAnyH_take (i := 29) (oi := { dst := some 57, op := Op.binOp BinOp.neq 4 (Operand.tmp 53) (Operand.tmp 56) 4, type := 4, pos := "outright.go:107", after := #[{ on := 25, ground := Ground.data }, { on := 28, ground := Ground.data }, { on := 22, ground := Ground.guard }], guard := some (22, false) }) (v := ?_) rfl (by kernel_rfl) (by kernel_rfl) (by kernel_rfl) (fun _ _ _ h => h) (Or.inl ⟨by rfl, ?_⟩) hHeld ?_
    rotate_left
    focus (intro w hSw; clear hSw; go_simp; try with_reducible rfl)
    try simp only [Act.put, List.setIfInBounds_toArray, List.set_cons_zero, List.set_cons_succ]
    refine wpAnyH_take (i := 30) (oi := { dst := some 58, op := Op.pick (Operand.tmp 50) (Operand.const (Value.bool true)) (Operand.tmp 57), type := 4, pos := "outright.go:107", after := #[{ on := 22, ground := Ground.data }, { on := 29, ground := Ground.data }], guard := none }) (v := ?_) rfl (by kernel_rfl) (by kernel_rfl) (by kernel_rfl) (fun _ _ _ h => h) (Or.inl ⟨by rfl, ?_⟩) hHeld ?_
    rotate_left
    focus (intro w hSw; clear hSw; go_simp; try with_reducible rfl)
    try simp only [Act.put, List.setIfInBounds_toArray, List.set_cons_zero, List.set_cons_succ]
    refine wpAnyH_take (i := 31) (oi := { dst := some 59, op := Op.move (Operand.tmp 58), type := 4, pos := "outright.go:107", after := #[{ on := 30, ground := Ground.data }, { on := 22, ground := Ground.chain }], guard := none }) (v := ?_) rfl (by kernel_rfl) (by kernel_rfl) (by kernel_rfl) (fun _ _ _ h => h) (Or.inl ⟨by rfl, ?_⟩) hHeld ?_
    rotate_left
    focus (intro w hSw; clear hSw; go_simp; try with_reducible rfl)
    try simp only [Act.put, List.setIfInBounds_toArray, List.set_cons_zero, List.set_cons_succ]
    refine wpAnyH_take (i := 32) (oi := { dst := some 60, op := Op.load 29 (Operand.tmp 3), type := 29, pos := "outright.go:107", after := #[{ on := 31, ground := Ground.guard }], guard := some (31, false) }) rfl (by kernel_rfl) (by kernel_rfl) (by kernel_rfl) (fun _ _ _ h => h) (yieldsIf_load_mid (by rfl) 29 (.tmp 3) rfl w.heap.size 0 rfl va _ (fun _ h => h.2.1) hu29 rfl ia) hHeld ?_
    try simp only [Act.put, List.setIfInBounds_toArray, List.set_cons_zero, List.set_cons_succ]
    refine wpAnyH_take (i := 33) (oi := { dst := some 61, op := Op.load 29 (Operand.tmp 4), type := 29, pos := "outright.go:107", after := #[{ on := 31, ground := Ground.guard }], guard := some (31, false) }) rfl (by kernel_rfl) (by kernel_rfl) (by kernel_rfl) (fun _ _ _ h => h) (yieldsIf_load_mid (by rfl) 29 (.tmp 4) rfl (w.heap.size + 1) 0 rfl vb _ (fun _ h => h.2.2.1) hu29 rfl ib) hHeld ?_
    try simp only [Act.put, List.setIfInBounds_toArray, List.set_cons_zero, List.set_cons_succ]
    refine wpAnyH_take (i := 34) (oi := { dst := some 62, op := Op.binOp BinOp.neq 29 (Operand.tmp 60) (Operand.tmp 61) 29, type := 4, pos := "outright.go:107", after := #[{ on := 32, ground := Ground.data }, { on := 33, ground := Ground.data }, { on := 31, ground := Ground.guard }], guard := some (31, false) }) (v := ?_) rfl (by kernel_rfl) (by kernel_rfl) (by kernel_rfl) (fun _ _ _ h => h) (Or.inl ⟨by rfl, ?_⟩) hHeld ?_
    rotate_left
    focus (intro w hSw; clear hSw; go_simp; try with_reducible rfl)
    try simp only [Act.put, List.setIfInBounds_toArray, List.set_cons_zero, List.set_cons_succ]
    refine wpAnyH_take (i := 35) (oi := { dst := some 63, op := Op.move (Operand.tmp 62), type := 4, pos := "outright.go:107", after := #[{ on := 34, ground := Ground.data }, { on := 31, ground := Ground.chain }, { on := 31, ground := Ground.guard }], guard := some (31, false) }) (v := ?_) rfl (by kernel_rfl) (by kernel_rfl) (by kernel_rfl) (fun _ _ _ h => h) (Or.inl ⟨by rfl, ?_⟩) hHeld ?_
    rotate_left
    focus (intro w hSw; clear hSw; go_simp; try with_reducible rfl)
    try simp only [Act.put, List.setIfInBounds_toArray, List.set_cons_zero, List.set_cons_succ]
    refine wpAnyH_take (i := 36) (oi := { dst := some 64, op := Op.load 29 (Operand.tmp 3), type := 29, pos := "outright.go:107", after := #[{ on := 35, ground := Ground.guard }], guard := some (35, true) }) (v := undef) rfl (by kernel_rfl) (by kernel_rfl) (by kernel_rfl) (fun _ _ _ h => h) (Or.inr ⟨by rfl, rfl⟩) hHeld ?_
    try simp only [Act.put, List.setIfInBounds_toArray, List.set_cons_zero, List.set_cons_succ]
    refine wpAnyH_take (i := 37) (oi := { dst := some 65, op := Op.load 29 (Operand.tmp 4), type := 29, pos := "outright.go:107", after := #[{ on := 35, ground := Ground.guard }], guard := some (35, true) }) (v := undef) rfl (by kernel_rfl) (by kernel_rfl) (by kernel_rfl) (fun _ _ _ h => h) (Or.inr ⟨by rfl, rfl⟩) hHeld ?_
    try simp only [Act.put, List.setIfInBounds_toArray, List.set_cons_zero, List.set_cons_succ]
    refine wpAnyH_take (i := 38) (oi := { dst := some 66, op := Op.call { callee := Callee.value (Operand.func 25), args := #[Operand.tmp 64, Operand.tmp 65], argTypes := #[29, 29] }, type := 4, pos := "outright.go:107", after := #[{ on := 36, ground := Ground.data }, { on := 37, ground := Ground.data }, { on := 35, ground := Ground.chain }, { on := 35, ground := Ground.guard }], guard := some (35, true) }) (v := undef) rfl (by kernel_rfl) (by kernel_rfl) (by kernel_rfl) (fun _ _ _ h => h) (Or.inr ⟨by rfl, rfl⟩) hHeld ?_
    try simp only [Act.put, List.setIfInBounds_toArray, List.set_cons_zero, List.set_cons_succ]
    refine wpAnyH_take (i := 39) (oi := { dst := some 67, op := Op.load 29 (Operand.tmp 4), type := 29, pos := "outright.go:107", after := #[{ on := 35, ground := Ground.guard }], guard := some (35, true) }) (v := undef) rfl (by kernel_rfl) (by kernel_rfl) (by kernel_rfl) (fun _ _ _ h => h) (Or.inr ⟨by rfl, rfl⟩) hHeld ?_
    try simp only [Act.put, List.setIfInBounds_toArray, List.set_cons_zero, List.set_cons_succ]
    refine wpAnyH_take (i := 40) (oi := { dst := some 68, op := Op.load 29 (Operand.tmp 3), type := 29, pos := "outright.go:107", after := #[{ on := 35, ground := Ground.guard }], guard := some (35, true) }) (v := undef) rfl (by kernel_rfl) (by kernel_rfl) (by kernel_rfl) (fun _ _ _ h => h) (Or.inr ⟨by rfl, rfl⟩) hHeld ?_
    try simp only [Act.put, List.setIfInBounds_toArray, List.set_cons_zero, List.set_cons_succ]
    refine wpAnyH_take (i := 41) (oi := { dst := some 69, op := Op.call { callee := Callee.value (Operand.func 25), args := #[Operand.tmp 67, Operand.tmp 68], argTypes := #[29, 29] }, type := 4, pos := "outright.go:107", after := #[{ on := 39, ground := Ground.data }, { on := 40, ground := Ground.data }, { on := 38, ground := Ground.chain }, { on := 35, ground := Ground.guard }], guard := some (35, true) }) (v := undef) rfl (by kernel_rfl) (by kernel_rfl) (by kernel_rfl) (fun _ _ _ h => h) (Or.inr ⟨by rfl, rfl⟩) hHeld ?_
    try simp only [Act.put, List.setIfInBounds_toArray, List.set_cons_zero, List.set_cons_succ]
    refine wpAnyH_take (i := 42) (oi := { dst := some 70, op := Op.binOp BinOp.eql 4 (Operand.tmp 66) (Operand.tmp 69) 4, type := 4, pos := "outright.go:107", after := #[{ on := 38, ground := Ground.data }, { on := 41, ground := Ground.data }, { on := 35, ground := Ground.guard }], guard := some (35, true) }) (v := undef) rfl (by kernel_rfl) (by kernel_rfl) (by kernel_rfl) (fun _ _ _ h => h) (Or.inr ⟨by rfl, rfl⟩) hHeld ?_
    try simp only [Act.put, List.setIfInBounds_toArray, List.set_cons_zero, List.set_cons_succ]
    refine wpAnyH_take (i := 43) (oi := { dst := some 71, op := Op.pick (Operand.tmp 63) (Operand.tmp 70) (Operand.const (Value.bool false)), type := 4, pos := "outright.go:107", after := #[{ on := 35, ground := Ground.data }, { on := 42, ground := Ground.data }, { on := 31, ground := Ground.guard }], guard := some (31, false) }) (v := ?_) rfl (by kernel_rfl) (by kernel_rfl) (by kernel_rfl) (fun _ _ _ h => h) (Or.inl ⟨by rfl, ?_⟩) hHeld ?_
    rotate_left
    focus (intro w hSw; clear hSw; go_simp; try with_reducible rfl)
    try simp only [Act.put, List.setIfInBounds_toArray, List.set_cons_zero, List.set_cons_succ]
    refine wpAnyH_take (i := 44) (oi := { dst := some 72, op := Op.pick (Operand.tmp 59) (Operand.const (Value.bool true)) (Operand.tmp 71), type := 4, pos := "outright.go:107", after := #[{ on := 31, ground := Ground.data }, { on := 43, ground := Ground.data }], guard := none }) (v := ?_) rfl (by kernel_rfl) (by kernel_rfl) (by kernel_rfl) (fun _ _ _ h => h) (Or.inl ⟨by rfl, ?_⟩) hHeld ?_
    rotate_left
    focus (intro w hSw; clear hSw; go_simp; try with_reducible rfl)
    try simp only [Act.put, List.setIfInBounds_toArray, List.set_cons_zero, List.set_cons_succ]
    refine wpAnyH_done (by kernel_rfl) ?_ _
    obtain ⟨hf5, _, _, _, _⟩ := hHeld
    have F5 := Lib.hid hf5
    clear hf5 hda hab hae hls hes hsz p0 rA4 rB4 rD4 hz2
    have hsl : s.data.toList.length = s.size := by simp
    rcases prs_form2 s.data.toList with ⟨e, at_, he, ha0, ha1, ha2, hp⟩ | ⟨D, hD, hDs, hp⟩
    · have cQ := fun W => Parse_any s (by have := HS.out; omega) W
      rw [hp] at cQ
      have CQ := Lib.hid cQ
      rw [hsl] at ha1
      have he1 : ((e : Int) != 0) = true := by simpa using he
      have hz29 : ∀ W, (binOp .eql 29 (.agg Z32) (.agg Z32)).run Tryd.prog W = .ok (.bool true) W := fun W => by
        have := eql29 (List.replicate 32 0) (List.replicate 32 0) (by simp) (by simp) W
        simpa [Z32] using this
      have hb29 := build29
      have hz30 : ∀ W, (Op.equalIn 10000 29 (.agg Z32) (.agg Z32)).run Tryd.prog W = .ok true W := fun W => by
        have h := hz29 W
        rw [run_eql_struct] at h
        cases hr : (Op.equalIn 10000 29 (.agg Z32) (.agg Z32)).run Tryd.prog W with
        | ok x w' => rw [hr] at h; simp [Result.andThen] at h; rw [h.1, h.2]
        | halt x w' => rw [hr] at h; simp [Result.andThen] at h
      clear cQ hp hsl he
      go_upto_region 8 with (fail)
      refine wp_region_lit ?_
      refine wpList_step (fun K hK => ?_)
      go_simp
      refine hK _ _ ?_
      clear hK K
      refine wpList_step (fun K hK => ?_)
      go_simp
      refine (CQ.out _).mono ?_
      rintro r w6 ⟨rfl, f6⟩
      have F6 := Lib.hid (F5.out.trans f6 (by simp))
      clear f6
      refine hK _ _ ?_
      clear hK K
      refine wpList_step (fun K hK => ?_)
      go_simp
      refine hK _ _ ?_
      clear hK K
      refine wpList_step (fun K hK => ?_)
      go_simp
      refine hK _ _ ?_
      clear hK K
      refine wpList_step (fun K hK => ?_)
      go_simp
      refine hK _ _ ?_
      clear hK K
      refine wpList_step (fun K hK => ?_)
      go_simp
      refine hK _ _ ?_
      clear hK K
      refine wpList_step (fun K hK => ?_)
      go_simp
      refine hK _ _ ?_
      clear hK K
      refine wpList_store_row rfl 29 (.tmp 12) (.tmp 76) rfl w6.heap.size Z32 rfl rfl 29 _ (heap_alloc_lt (heap_alloc_new _ (.cells Z32 29))) i29 rfl Z32_one ?_
      have f7 := (((Frm.refl [] w6).alloc (.cells Z32 29)).alloc (.cells #[.int .i64 0, .int .i64 0] 43)).setRow w6.heap.size Z32 (.inr (Nat.le_refl _))
      have h7 : (((w6.alloc (.cells Z32 29)).alloc (.cells #[.int .i64 0, .int .i64 0] 43)).setRow w6.heap.size Z32).heap[w6.heap.size]? = some (.cells Z32 29 (0, 0)) := setRow_heap _ _ _ _ _ _ (heap_alloc_lt (heap_alloc_new _ (.cells Z32 29)))
      have g7 : Flt (((w6.alloc (.cells Z32 29)).alloc (.cells #[.int .i64 0, .int .i64 0] 43)).setRow w6.heap.size Z32) (w6.heap.size + 1) 0 0 := (setRow_other _ _ _ _ (by omega)).trans (heap_alloc_at (by simp))
      change wpList _ _ _ _ _ (((w6.alloc (.cells Z32 29)).alloc (.cells #[.int .i64 0, .int .i64 0] 43)).setRow w6.heap.size Z32)
      generalize ((w6.alloc (.cells Z32 29)).alloc (.cells #[.int .i64 0, .int .i64 0] 43)).setRow w6.heap.size Z32 = w7 at *
      obtain ⟨c0, c1, z0⟩ := cells2 g7
      have Z6 := Lib.hid F6.out.size
      have F7 := Lib.hid (F6.out.trans f7 (by simp))
      have H7 := Lib.hid h7
      have G7 := Lib.hid g7
      clear f7 h7 g7
      refine wpList_step (fun K hK => ?_)
      go_simp
      refine hK _ _ ?_
      clear hK K
      refine wpList_nil ?_
      have F8 := Lib.hid ((F7.out.setCell ⟨w6.heap.size + 1, 0, none⟩ (.int .i64 e) (.inr (by have := Z6.out; simp; omega))).setCell ⟨w6.heap.size + 1, 1, none⟩ (.int .i64 at_) (.inr (by have := Z6.out; simp; omega)))
      have F8a := ((Frm.refl [w6.heap.size + 1] w7).setCell ⟨w6.heap.size + 1, 0, none⟩ (.int .i64 e) (.inl (by simp))).setCell ⟨w6.heap.size + 1, 1, none⟩ (.int .i64 at_) (.inl (by simp))
      have g8 : Flt ((w7.setCell ⟨w6.heap.size + 1, 0, none⟩ (.int .i64 e)).setCell ⟨w6.heap.size + 1, 1, none⟩ (.int .i64 at_)) (w6.heap.size + 1) e at_ := heap_setCell_same _ (heap_setCell_same _ G7.out)
      have H8 := Lib.hid (F8a.heap H7.out (by simp))
      clear c0 c1 z0 F8a
      generalize ((w7.setCell ⟨w6.heap.size + 1, 0, none⟩ (.int .i64 e)).setCell ⟨w6.heap.size + 1, 1, none⟩ (.int .i64 at_)) = w8 at *
      obtain ⟨p0, p1, _⟩ := cells2 g8
      clear g8
      go_upto_region 10 with (fail)
      refine wp_region_lit ?_
      refine wpList_step (fun K hK => ?_)
      go_simp
      refine hK _ _ ?_
      clear hK K
      refine wpList_step (fun K hK => ?_)
      go_simp
      refine hK _ _ ?_
      clear hK K
      refine wpList_step (fun K hK => ?_)
      go_simp
      refine hK _ _ ?_
      clear hK K
      refine wpList_step (fun K hK => ?_)
      go_simp
      refine hK _ _ ?_
      clear hK K
      refine wpList_step (fun K hK => ?_)
      go_simp
      refine hK _ _ ?_
      clear hK K
      refine wpList_step (fun K hK => ?_)
      go_simp
      refine hK _ _ ?_
      clear hK K
      refine wpList_step (fun K hK => ?_)
      go_simp
      refine hK _ _ ?_
      clear hK K
      refine wpList_step (fun K hK => ?_)
      go_simp
      refine hK _ _ ?_
      clear hK K
      refine wpList_step (fun K hK => ?_)
      go_simp
      refine hK _ _ ?_
      clear hK K
      refine wpList_step (fun K hK => ?_)
      go_simp
      refine hK _ _ ?_
      clear hK K
      refine wpList_step (fun K hK => ?_)
      go_simp
      refine hK _ _ ?_
      clear hK K
      refine wpList_step (fun K hK => ?_)
      go_simp
      refine hK _ _ ?_
      clear hK K
      refine wpList_step (fun K hK => ?_)
      go_simp
      refine hK _ _ ?_
      clear hK K
      refine wpList_step (fun K hK => ?_)
      go_simp
      refine hK _ _ ?_
      clear hK K
      refine wpList_step (fun K hK => ?_)
      go_simp
      refine hK _ _ ?_
      clear hK K
      refine wpList_step (fun K hK => ?_)
      go_simp
      refine hK _ _ ?_
      clear hK K
      refine wpList_step (fun K hK => ?_)
      go_simp
      refine hK _ _ ?_
      clear hK K
      refine wpList_step (fun K hK => ?_)
      go_simp
      refine hK _ _ ?_
      clear hK K
      refine wpList_step (fun K hK => ?_)
      go_simp
      refine hK _ _ ?_
      clear hK K
      refine wpList_load_row_g (by go_simp) 29 (.tmp 12) rfl w6.heap.size rfl 29 Z32 (0, 0) _ H8.out d29 rfl i29 ?_
      refine wpList_val_g (v := .agg Z32) (w' := w8) (by go_simp) (by simp [execOp, hb29, Result.andThen]) ?_
      refine wpList_step (fun K hK => ?_)
      go_simp
      refine hK _ _ ?_
      clear hK K
      refine wpList_step (fun K hK => ?_)
      go_simp
      refine hK _ _ ?_
      clear hK K
      refine wpList_step (fun K hK => ?_)
      go_simp
      refine hK _ _ ?_
      clear hK K
      refine wpList_nil ?_
      go_wp2_with fail
      go_ret
      exact ⟨rfl, F8.out⟩
    · have cQ := fun W => Parse_any s (by have := HS.out; omega) W
      have cD := fun W => Text_any D hD W
      have hsd : ((⟨(txt D).toArray⟩ : ByteArray).toList == s.toList) = true := by rw [ByteArray.toList_mk, hDs, ByteArray.toList_eq]; simp
      have hdone := bvs_oneA D
      have hdsz : (bvs D).toArray.size = 32 := by rw [List.size_toArray, bvs_length, hD]
      rw [hp] at cQ
      generalize (bvs D).toArray = vd at *
      generalize (⟨(txt D).toArray⟩ : ByteArray) = sD at *
      have CQ := Lib.hid cQ
      have CD := Lib.hid cD
      have HSD := Lib.hid hdsz
      have HDO := Lib.hid hdone
      clear cQ cD hp hsl hD hDs hdone hdsz
      go_upto_region 8 with (fail)
      refine wp_region_lit ?_
      refine wpList_step (fun K hK => ?_)
      go_simp
      refine hK _ _ ?_
      clear hK K
      refine wpList_step (fun K hK => ?_)
      go_simp
      refine (CQ.out _).mono ?_
      rintro r w6 ⟨rfl, f6⟩
      have F6 := Lib.hid (F5.out.trans f6 (by simp))
      clear f6
      refine hK _ _ ?_
      clear hK K
      refine wpList_step (fun K hK => ?_)
      go_simp
      refine hK _ _ ?_
      clear hK K
      refine wpList_step (fun K hK => ?_)
      go_simp
      refine hK _ _ ?_
      clear hK K
      refine wpList_step (fun K hK => ?_)
      go_simp
      refine hK _ _ ?_
      clear hK K
      refine wpList_step (fun K hK => ?_)
      go_simp
      refine hK _ _ ?_
      clear hK K
      refine wpList_step (fun K hK => ?_)
      go_simp
      refine hK _ _ ?_
      clear hK K
      refine wpList_store_row rfl 29 (.tmp 12) (.tmp 76) rfl w6.heap.size vd rfl rfl 29 _ (heap_alloc_lt (heap_alloc_new _ (.cells Z32 29))) (by rw [HSD.out]; exact i29) (by rw [HSD.out]; rfl) HDO.out ?_
      have f7 := (((Frm.refl [] w6).alloc (.cells Z32 29)).alloc (.cells #[.int .i64 0, .int .i64 0] 43)).setRow w6.heap.size vd (.inr (Nat.le_refl _))
      have h7 : (((w6.alloc (.cells Z32 29)).alloc (.cells #[.int .i64 0, .int .i64 0] 43)).setRow w6.heap.size vd).heap[w6.heap.size]? = some (.cells vd 29 (0, 0)) := setRow_heap _ _ _ _ _ _ (heap_alloc_lt (heap_alloc_new _ (.cells Z32 29)))
      have g7 : Flt (((w6.alloc (.cells Z32 29)).alloc (.cells #[.int .i64 0, .int .i64 0] 43)).setRow w6.heap.size vd) (w6.heap.size + 1) 0 0 := (setRow_other _ _ _ _ (by omega)).trans (heap_alloc_at (by simp))
      change wpList _ _ _ _ _ (((w6.alloc (.cells Z32 29)).alloc (.cells #[.int .i64 0, .int .i64 0] 43)).setRow w6.heap.size vd)
      generalize ((w6.alloc (.cells Z32 29)).alloc (.cells #[.int .i64 0, .int .i64 0] 43)).setRow w6.heap.size vd = w7 at *
      obtain ⟨c0, c1, z0⟩ := cells2 g7
      have Z6 := Lib.hid F6.out.size
      have F7 := Lib.hid (F6.out.trans f7 (by simp))
      have H7 := Lib.hid h7
      have G7 := Lib.hid g7
      clear f7 h7 g7
      refine wpList_step (fun K hK => ?_)
      go_simp
      refine hK _ _ ?_
      clear hK K
      refine wpList_nil ?_
      have F8 := Lib.hid ((F7.out.setCell ⟨w6.heap.size + 1, 0, none⟩ (.int .i64 0) (.inr (by have := Z6.out; simp; omega))).setCell ⟨w6.heap.size + 1, 1, none⟩ (.int .i64 0) (.inr (by have := Z6.out; simp; omega)))
      have F8a := ((Frm.refl [w6.heap.size + 1] w7).setCell ⟨w6.heap.size + 1, 0, none⟩ (.int .i64 0) (.inl (by simp))).setCell ⟨w6.heap.size + 1, 1, none⟩ (.int .i64 0) (.inl (by simp))
      have g8 : Flt ((w7.setCell ⟨w6.heap.size + 1, 0, none⟩ (.int .i64 0)).setCell ⟨w6.heap.size + 1, 1, none⟩ (.int .i64 0)) (w6.heap.size + 1) 0 0 := heap_setCell_same _ (heap_setCell_same _ G7.out)
      have H8 := Lib.hid (F8a.heap H7.out (by simp))
      clear c0 c1 z0 F8a
      generalize ((w7.setCell ⟨w6.heap.size + 1, 0, none⟩ (.int .i64 0)).setCell ⟨w6.heap.size + 1, 1, none⟩ (.int .i64 0)) = w8 at *
      obtain ⟨p0, p1, _⟩ := cells2 g8
      clear g8
      go_upto_region 11 with (fail)
      refine wp_region_lit ?_
      refine wpList_step (fun K hK => ?_)
      go_simp
      refine hK _ _ ?_
      clear hK K
      refine wpList_step (fun K hK => ?_)
      go_simp
      refine hK _ _ ?_
      clear hK K
      refine wpList_load_row_g (by go_simp) 29 (.tmp 12) rfl w6.heap.size rfl 29 vd (0, 0) _ H8.out d29 rfl (by rw [HSD.out]; exact i29) ?_
      refine wpList_step (fun K hK => ?_)
      go_simp
      refine (CD.out _).mono ?_
      rintro r w9 ⟨rfl, f9⟩
      have F9 := Lib.hid (F8.out.trans f9 (by simp))
      clear f9
      refine hK _ _ ?_
      clear hK K
      refine wpList_step (fun K hK => ?_)
      go_simp
      refine hK _ _ ?_
      clear hK K
      refine wpList_step (fun K hK => ?_)
      go_simp
      refine hK _ _ ?_
      clear hK K
      refine wpList_step (fun K hK => ?_)
      go_simp
      refine hK _ _ ?_
      clear hK K
      refine wpList_step (fun K hK => ?_)
      go_simp
      refine hK _ _ ?_
      clear hK K
      refine wpList_nil ?_
      go_wp2_with fail
      go_ret
      exact ⟨rfl, F9.out⟩
set_option maxHeartbeats 1000000 in
theorem back_long (a b : List UInt8) (ha : a.length = 32) (hb : b.length = 32) (s : ByteArray) (hs : 200 < s.size) (w : World) (hG : Glob w) :
    Calls Tryd.prog 8 #[.agg (bvs a).toArray, .agg (bvs b).toArray, .string s] w fun r w' => YesF w r w' := by
  have F0 := Lib.hid (((Frm.refl [] w).alloc (.cells (bvs a).toArray 29)).alloc (.cells (bvs b).toArray 29))
  have HG := Lib.hid hG
  have hs9 : (200 : Int) < (s.size : Int) := by omega
  clear hG ha hb hs
  go_enter Tryd.func8, Tryd.ntmps8
  go_wp2_with fail
  refine (known_any _ (HG.out.keep F0.out (by simp))).mono ?_
  rintro r w1 ⟨rfl, f1⟩
  have F1 := Lib.hid (F0.out.trans f1 (by simp))
  clear f1
  go_wp2_with fail
  go_ret
  exact ⟨rfl, F1.out⟩
theorem back_row (a b : List UInt8) (s : ByteArray) (ha : a.length = 32) (hb : b.length = 32) (w : World) (hG : Glob w) :
    Calls Tryd.prog 8 #[.agg (bvs a).toArray, .agg (bvs b).toArray, .string s] w fun r w' => YesF w r w' := by
  by_cases h : s.size ≤ 200
  · exact back_any a b ha hb s h w hG
  · exact back_long a b ha hb s (by omega) w hG
end Go.Proofs.YtopjbiccipgnjaaDoor
