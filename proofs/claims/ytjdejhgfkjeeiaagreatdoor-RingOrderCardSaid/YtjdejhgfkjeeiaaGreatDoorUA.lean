/-
  Uberblocks as values and in blocks; blocks whose cells are rows one behind the other. No conditions but those that each theorem names.
-/
import Derived.Test.YtjdejhgfkjeeiaaGreatDoorUP
import Derived.Test.YtjdejhgfkjeeiaaGreatDoorHZ
import Derived.Test.YtjdejhgfkjeeiaaGreatDoorPY
import Derived.Deep.MidRow
import Derived.Deep.WholeRow
namespace Go.Proofs.YtjdejhgfkjeeiaaGreatDoor
open Go.RowKit
set_option linter.unusedVariables false
set_option linter.unusedSimpArgs false
set_option maxRecDepth 100000

open Pt (Pt may enc readPt readE zeroPt pc pv PtV SlA OwnA)
theorem ret_bool {a b : Bool} (h : a = b) : Ending.returned (.bool a) = .returned (.bool b) := by rw [h]
def idv (s : List UInt8) : Value := .agg (bvs s).toArray
theorem i28 : (Tryz.prog.info? 28).map (·.size) = some 69 := by kernel_rfl
theorem i26 : (Tryz.prog.info? 26).map (·.size) = some 35 := by kernel_rfl
theorem i24 : (Tryz.prog.info? 24).map (·.size) = some 32 := by kernel_rfl
theorem d24 : Tryz.prog.underlying 24 = some (.array 32 5) := by kernel_rfl
theorem d26 : (Tryz.prog.underlying 26).map (·.isRow) = some true := by kernel_rfl
theorem d28 : (Tryz.prog.underlying 28).map (·.isRow) = some true := by kernel_rfl
/-- A block and its cells. -/
def Blk (w : World) (g : Nat) (T : TypeId) (cs : List Value) : Prop := w.heap[g]? = some (.cells cs.toArray T (0, 0))
/-- Cells written one behind the other. -/
def setL (C : Array Value) : Nat → List Value → Array Value
  | _, [] => C
  | o, v :: r => setL (C.setIfInBounds o v) (o + 1) r
theorem setL_toList : ∀ (vs : List Value) (C : Array Value) (o : Nat), o + vs.length ≤ C.size → (setL C o vs).toList = C.toList.take o ++ vs ++ C.toList.drop (o + vs.length)
  | [], C, o, h => by simp [setL]
  | v :: r, C, o, h => by
    have h1 : o < C.size := by simp at h; omega
    simp only [setL]
    rw [setL_toList r (C.setIfInBounds o v) (o + 1) (by simp at h ⊢; omega)]
    simp only [Array.toList_setIfInBounds]
    have hl : o < C.toList.length := by simpa using h1
    rw [List.take_set, List.take_succ_eq_append_getElem hl, List.set_append_right _ _ (by simp; omega)]
    have : o - (C.toList.take o).length = 0 := by simp; omega
    rw [this, List.set_cons_zero, List.drop_set_of_lt (by omega), List.length_cons, show o + 1 + r.length = o + (r.length + 1) by omega]
    simp
theorem heap_setCells {w : World} {g : Nat} {t : TypeId} : ∀ (vs : List Value) (o : Nat) (w : World) (C : Array Value), w.heap[g]? = some (.cells C t (0, 0)) → (w.setCells g o vs).heap[g]? = some (.cells (setL C o vs) t (0, 0))
  | [], o, w, C, h => h
  | v :: r, o, w, C, h => heap_setCells (w := w) r (o + 1) (w.setCell ⟨g, o, none⟩ v) (C.setIfInBounds o v) (by rw [heap_setCell_same _ h])
theorem Frm.setCells {L : List Nat} {w : World} {g : Nat} : ∀ (vs : List Value) (o : Nat) (w' : World), Frm L w w' → (g ∈ L ∨ w.heap.size ≤ g) → Frm L w (w'.setCells g o vs)
  | [], o, w', f, h => f
  | v :: r, o, w', f, h => Frm.setCells r (o + 1) _ (f.setCell _ _ h) h
section
variable {w w' : World} {g : Nat} {T : TypeId} {cs pre row post : List Value} {o : Nat} {L : List Nat}
theorem Blk.keep (h : Blk w g T cs) (f : Frm L w w') (hn : g ∉ L) : Blk w' g T cs := f.heap h hn
theorem Blk.keep0 (h : Blk w g T cs) (f : Frm [] w w') : Blk w' g T cs := f.heap h (by simp)
theorem Blk.lt (h : Blk w g T cs) : g < w.heap.size := lt_heap h
theorem Blk.new (w : World) (T : TypeId) (cs : List Value) : Blk (w.alloc (.cells cs.toArray T)) w.heap.size T cs := heap_alloc_new _ _
theorem Blk.cell (h : Blk w g T cs) (i : Nat) {u : Value} (hu : cs[i]? = some u) : w.cell? ⟨g, i, none⟩ = some u := by
  rw [cell_of_heap h]; simpa using hu
theorem Blk.range (h : Blk w g T (pre ++ (row ++ post))) (hp : pre.length = o) : w.rangeAt g o row := fun j u hu => by
  refine h.cell _ ?_
  rw [List.getElem?_append_right (by omega), show o + j - pre.length = j by omega, List.getElem?_append_left (List.getElem?_eq_some_iff.1 hu).1]
  exact hu
theorem Blk.load (h : Blk w g T (pre ++ (row ++ post))) (hp : pre.length = o) {t : TypeId} (hd : (Tryz.prog.underlying t).map (·.isRow) = some true) (hi : (Tryz.prog.info? t).map (·.size) = some row.length) : (Instr.loadAt t (.pointer (some ⟨g, o, none⟩))).run Tryz.prog w = .ok (.agg row.toArray) w := by
  obtain ⟨d, h1, h2⟩ := Option.map_eq_some_iff.1 hd
  exact run_loadAt_mid w g o t row d (h.range hp) h1 h2 hi
theorem Blk.load0 (h : Blk w g T cs) {t : TypeId} (hd : (Tryz.prog.underlying t).map (·.isRow) = some true) (hi : (Tryz.prog.info? t).map (·.size) = some cs.length) : (Instr.loadAt t (.pointer (some ⟨g, 0, none⟩))).run Tryz.prog w = .ok (.agg cs.toArray) w := by
  refine Blk.load (pre := []) (post := []) (T := T) ?_ rfl hd hi
  simpa using h
theorem Blk.there (h : Blk w g T cs) (n : Nat) (hn : o + n ≤ cs.length) : w.there g o n := fun j hj => by
  refine ⟨?_, frozen_of_heap h _⟩
  rw [cell_of_heap h, Array.getElem?_eq_getElem (by simp; omega)]
  rfl
theorem Blk.frozen (h : Blk w g T cs) (i : Nat) : w.frozen? ⟨g, i, none⟩ = false := frozen_of_heap h _
theorem Blk.put {row' : List Value} (h : Blk w g T (pre ++ (row ++ post))) (hp : pre.length = o) (hl : row'.length = row.length) : Blk (w.setCells g o row') g T (pre ++ (row' ++ post)) := by
  unfold Blk
  rw [heap_setCells (w := w) _ _ _ _ h]
  congr 2
  apply Array.ext'
  rw [setL_toList _ _ _ (by simp; omega)]
  subst hp
  simp [hl]
theorem Blk.put1 {u u' : Value} (h : Blk w g T (pre ++ u :: post)) (hp : pre.length = o) : Blk (w.setCell ⟨g, o, none⟩ u') g T (pre ++ u' :: post) := by
  unfold Blk
  rw [heap_setCell_same _ h, List.setIfInBounds_toArray]
  subst hp
  simp
end
/-- An uberblock's cells, by its root's slice. -/
def uc (v : Value) (u : Ub) : List Value := .int .i64 u.txg :: (pc v u.root.b u.root.l u.root.s ++ (.int .i64 u.len :: bvs u.pool))
def uv (v : Value) (u : Ub) : Value := .agg (uc v u).toArray
theorem pc_length {v : Value} {b l : Int} {s : List UInt8} (h : s.length = 32) : (pc v b l s).length = 35 := by simp [pc, bvs_length, h]
theorem uc_length {v : Value} {u : Ub} (h : WfU u) : (uc v u).length = 69 := by simp [uc, pc_length h.sum, bvs_length, h.pool]
/-- A value that is an uberblock, whose root's addresses can be read. -/
def UbV (w : World) (x : Value) (u : Ub) : Prop := ∃ a cap sp, x = uv (.slice a u.root.ads.length cap) u ∧ SlA w (.slice a u.root.ads.length cap) u.root.ads sp ∧ WfU u
def ubBlk : Value → List Nat
  | .agg cs => match cs[1]? with | some v => blk v | none => []
  | _ => []
theorem ubBlk_uv (v : Value) (u : Ub) : ubBlk (uv v u) = blk v := by simp [ubBlk, uv, uc, pc]
theorem UbV.keep {w w' : World} {x : Value} {u : Ub} {L : List Nat} (h : UbV w x u) (f : Frm L w w') (hn : ∀ k ∈ ubBlk x, k ∉ L) : UbV w' x u := by
  obtain ⟨a, cap, sp, rfl, h1, h2⟩ := h
  exact ⟨a, cap, sp, rfl, h1.keep f (by rw [ubBlk_uv] at hn; exact hn), h2⟩
theorem UbV.keep0 {w w' : World} {x : Value} {u : Ub} (h : UbV w x u) (f : Frm [] w w') : UbV w' x u := h.keep f (by simp)
theorem UbV.wf {w : World} {x : Value} {u : Ub} (h : UbV w x u) : WfU u := by
  obtain ⟨a, cap, sp, rfl, h1, h2⟩ := h
  exact h2
/-- The root of a value. -/
theorem UbV.root {w : World} {a : Option Addr} {cap : Nat} {u : Ub} (h : UbV w (uv (.slice a u.root.ads.length cap) u) u) : PtV w (pv (.slice a u.root.ads.length cap) u.root.b u.root.l u.root.s) u.root := by
  obtain ⟨a2, cap2, sp, e, h1, h2⟩ := h
  have e2 := congrArg (fun x => match x with | .agg cs => cs[1]? | _ => none) e
  simp [uv, uc, pc] at e2
  obtain ⟨rfl, rfl⟩ := e2
  exact ⟨a, cap, sp, rfl, h1, h2.sum⟩
/-- A box that holds an uberblock. -/
structure UB (w : World) (g : Nat) (v : Value) (u : Ub) : Prop where
  at' : Blk w g 28 (uc v u)
  wf : WfU u
section
variable {w w' : World} {g : Nat} {v : Value} {u : Ub} {L : List Nat}
theorem UB.keep (h : UB w g v u) (f : Frm L w w') (hn : g ∉ L) : UB w' g v u := ⟨h.1.keep f hn, h.2⟩
theorem UB.keep0 (h : UB w g v u) (f : Frm [] w w') : UB w' g v u := h.keep f (by simp)
theorem UB.lt (h : UB w g v u) : g < w.heap.size := h.1.lt
theorem UB.new (w : World) (v : Value) {u : Ub} (h : WfU u) : UB (w.alloc (.cells (uc v u).toArray 28)) w.heap.size v u := ⟨Blk.new _ _ _, h⟩
end
/-- What loads of its parts give. -/
structure Gets (w : World) (g : Nat) (v : Value) (u : Ub) : Prop where
  c0 : w.cell? ⟨g, 0, none⟩ = some (.int .i64 u.txg)
  c1 : w.cell? ⟨g, 1, none⟩ = some v
  c36 : w.cell? ⟨g, 36, none⟩ = some (.int .i64 u.len)
  all : (Instr.loadAt 28 (.pointer (some ⟨g, 0, none⟩))).run Tryz.prog w = .ok (uv v u) w
  root : (Instr.loadAt 26 (.pointer (some ⟨g, 1, none⟩))).run Tryz.prog w = .ok (pv v u.root.b u.root.l u.root.s) w
  pool : (Instr.loadAt 24 (.pointer (some ⟨g, 37, none⟩))).run Tryz.prog w = .ok (idv u.pool) w
  var : (loadVar 28 ⟨g, 0, none⟩).run Tryz.prog w = .ok (uv v u) w
theorem uc_split1 (v : Value) (u : Ub) : uc v u = [.int .i64 u.txg] ++ (pc v u.root.b u.root.l u.root.s ++ (.int .i64 u.len :: bvs u.pool)) := rfl
theorem uc_split2 (v : Value) (u : Ub) : uc v u = (.int .i64 u.txg :: (pc v u.root.b u.root.l u.root.s ++ [.int .i64 u.len])) ++ (bvs u.pool ++ []) := by simp [uc]
theorem uc_split3 (v : Value) (u : Ub) : uc v u = (.int .i64 u.txg :: pc v u.root.b u.root.l u.root.s) ++ (.int .i64 u.len :: bvs u.pool) := by simp [uc]
theorem UB.gets {w : World} {g : Nat} {v : Value} {u : Ub} (h : UB w g v u) : Gets w g v u := by
  obtain ⟨h1, hw⟩ := h
  refine ⟨h1.cell 0 rfl, h1.cell 1 rfl, ?_, ?_, ?_, ?_, ?_⟩
  · refine h1.cell 36 ?_
    rw [uc_split3, List.getElem?_append_right (by simp [pc_length hw.sum])]
    simp [pc_length hw.sum]
  · exact h1.load0 d28 (by rw [i28, uc_length hw])
  · rw [uc_split1] at h1
    exact h1.load rfl d26 (by rw [i26, pc_length hw.sum])
  · rw [uc_split2] at h1
    exact h1.load (by simp [pc_length hw.sum]) (by kernel_rfl) (by rw [i24, bvs_length, hw.pool])
  · exact run_loadVar_row w g 28 28 _ (0, 0) _ h1 Tryz.underlying28 rfl (by rw [i28]; simp [uc_length hw])
theorem uc_one (v : Value) (hv : v.oneCell' = true) (u : Ub) : (uc v u).toArray.all (·.oneCell') = true := all_oneCell_toArray (fun x hx => by
  simp only [uc, pc, List.cons_append, List.mem_cons, List.mem_append] at hx
  rcases hx with rfl | rfl | rfl | rfl | hx | rfl | hx
  · rfl
  · exact hv
  · rfl
  · rfl
  · exact bvs_one _ x hx
  · rfl
  · exact bvs_one _ x hx)
/-- A load whose value is known, guarded or not. -/
theorem wpList_load_g {P : Program} {ops : Array Oper} {rest : List Oper} {op : Oper} {a : Act} {w : World} {Q : Exit → Act → World → Prop} (hw : Region.wanted op (yielded ops a.tmps) = true) (ty : TypeId) (x : Operand) (ho : op.op = .load ty x)
    (p : Addr) (hx : a.eval x = .pointer (some p)) {v : Value} (hl : (Instr.loadAt ty (.pointer (some p))).run P w = .ok v w)
    (h : wpList P ops Q rest (a.put op.dst v) w) : wpList P ops Q (op :: rest) a w :=
  wpList_step fun K hK => by
    have he : (execOp a.eval op).run P w = .ok (.value v) w := by simp [execOp, ho, hx, hl, Result.andThen]
    rw [if_pos hw]
    unfold Oper.wp
    rw [he]
    exact hK _ _ h
theorem wpList_val_g {P : Program} {w w' : World} {ops : Array Oper} {rest : List Oper} {o : Oper} {a : Act} {Q : Exit → Act → World → Prop} {v : Value} (hw : Region.wanted o (yielded ops a.tmps) = true)
    (h : (execOp a.eval o).run P w = .ok (.value v) w') (k : wpList P ops Q rest (a.put o.dst v) w') : wpList P ops Q (o :: rest) a w :=
  wpList_step fun K hK => by
    rw [if_pos hw]
    unfold Oper.wp
    rw [h]
    exact hK _ _ k
def nilS : Value := .slice none 0 0
theorem alloc28 (W : World) : (Instr.alloc 28 true (.tuple #[])).run Tryz.prog W = .ok (.pointer (some ⟨W.heap.size, 0, none⟩)) (W.alloc (.cells (uc nilS zeroU).toArray 28)) := by kernel_rfl
theorem exec_alloc28 {o : Oper} {a : Act} (hop : o.op = Op.alloc 28) (W : World) : (execOp a.eval o).run Tryz.prog W = .ok (.value (.pointer (some ⟨W.heap.size, 0, none⟩))) (W.alloc (.cells (uc nilS zeroU).toArray 28)) := by
  have h := alloc28 W
  generalize W.alloc (.cells (uc nilS zeroU).toArray 28) = W2 at *
  simp only [execOp, hop, Sem.run_bind, Sem.run_pure, h, Result.andThen_ok]
theorem bld28z (W : World) : (Instr.build 28 #[]).run Tryz.prog W = .ok (uv nilS zeroU) W := by kernel_rfl
theorem exec_bld28z {o : Oper} {a : Act} (hop : o.op = Op.build 28 #[]) (W : World) : (execOp a.eval o).run Tryz.prog W = .ok (.value (uv nilS zeroU)) W := by
  have hb := bld28z W
  simp only [execOp, hop, List.map_toArray, List.map_nil, Sem.run_bind, Sem.run_pure, hb, Result.andThen_ok]
/-- An uberblock is laid into a new variable. -/
theorem wpList_lay28 {ops : Array Oper} {rest : List Oper} {o1 o3 : Oper} {a : Act} {W : World} {Q : Exit → Act → World → Prop} (g1 : o1.guard = none) (g3 : o3.guard = none)
    (h1 : o1.op = .alloc 28) (p x : Operand) (h3 : o3.op = .store 28 p x) {v : Value} (hv : v.oneCell' = true) {u : Ub} (hl : WfU u)
    (e1 : (a.put o1.dst (.pointer (some ⟨W.heap.size, 0, none⟩))).eval p = .pointer (some ⟨W.heap.size, 0, none⟩))
    (e2 : (a.put o1.dst (.pointer (some ⟨W.heap.size, 0, none⟩))).eval x = uv v u)
    (k : wpList Tryz.prog ops Q rest ((a.put o1.dst (.pointer (some ⟨W.heap.size, 0, none⟩))).put o3.dst undef) (W.alloc (.cells (uc v u).toArray 28))) :
    wpList Tryz.prog ops Q (o1 :: o3 :: rest) a W := by
  refine wpList_val g1 (exec_alloc28 h1 _) ?_
  refine wpList_store_row g3 28 p x h3 W.heap.size (uc v u).toArray e1 e2 28 _ (heap_alloc_new _ _) (by rw [i28]; simp [uc_length hl]) (by simp [uc_length hl, uc_length zeroU_wf]) (uc_one v hv u) ?_
  rw [World.setRow_alloc_new]
  exact k
/-- An uberblock is stored over another one. -/
theorem wpList_store28 {ops : Array Oper} {rest : List Oper} {o3 : Oper} {a : Act} {W : World} {Q : Exit → Act → World → Prop} (g3 : o3.guard = none)
    (p x : Operand) (h3 : o3.op = .store 28 p x) {v v0 : Value} (hv : v.oneCell' = true) {u u0 : Ub} {g : Nat} (h0 : UB W g v0 u0) (hl : WfU u)
    (e1 : a.eval p = .pointer (some ⟨g, 0, none⟩)) (e2 : a.eval x = uv v u)
    (k : ∀ V, UB V g v u → Frm [g] W V → wpList Tryz.prog ops Q rest (a.put o3.dst undef) V) :
    wpList Tryz.prog ops Q (o3 :: rest) a W := by
  refine wpList_store_row g3 28 p x h3 g (uc v u).toArray e1 e2 28 _ h0.1 (by rw [i28]; simp [uc_length hl]) (by simp [uc_length hl, uc_length h0.2]) (uc_one v hv u) ?_
  exact k _ ⟨setRow_heap W g _ _ 28 (0, 0) h0.1, hl⟩ ⟨rfl, rfl, rfl, by simp [World.setRow], fun k hk hn => setRow_other _ _ k _ (by simpa using hn)⟩
/-- Results that lie in a cell and in a slot. -/
theorem results_cell_slot {P : Program} {fn : Func} {p q : Tmp} {t1 : TypeId} (h : fn.results = #[.cell p t1, .tmp q]) (tmps : Array Value) (w : World) {a1 : Addr} {v1 v2 : Value} (h1 : tmps.getD p undef = .pointer (some a1)) (h2 : tmps.getD q undef = v2)
    (k1 : (loadVar t1 a1).run P w = .ok v1 w) : (results fn tmps).run P w = .ok (.tuple #[v1, v2]) w := by
  have h1' : tmps[p]?.getD undef = .pointer (some a1) := by simpa using h1
  have h2' : tmps[q]?.getD undef = v2 := by simpa using h2
  simp [results, h, h1', h2', asAddr, k1, Result.andThen]
end Go.Proofs.YtjdejhgfkjeeiaaGreatDoor
