/-
  Contract of the writing of fields: all addresses that a pointer may have. No conditions but those that each theorem names.
-/
import Derived.Test.YtjjcjocomanohaaP8
namespace Go.Proofs.Ytjjcjocomanohaa
open Go.RowKit
set_option linter.unusedVariables false
set_option linter.unusedSimpArgs false
set_option maxRecDepth 100000

/-- copy(d, x), d a part of a block from 'off' on, x no longer than d. -/
theorem copy_raw {P : Program} {tS tx T TT : TypeId} {i : TypeInfo} (ty : TypeId) {s : Nat} (hsl : P.underlying tS = some (.slice T)) (hi : P.info? T = some i) (hs : i.size = s) {w : World} {g : Nat} {cs : List Value} (hg : w.heap[g]? = some (.cells cs.toArray TT (0, 0)))
    (off : Nat) {dLen dCap m : Nat} {news : List Value} {x : Value} (hS : Src P s tx x m news w) (hm : m ≤ dLen) (hfit : off + news.length ≤ cs.length) :
    (Builtin.copy_ #[tS, tx] ty #[.slice (some ⟨g, off, none⟩) dLen dCap, x]).run P w = .ok (goInt m) (w.setRow g (cs.take off ++ news ++ cs.drop (off + news.length)).toArray) := by
  have hmin : Nat.min m dLen = m := Nat.min_eq_left hm
  have hcells := hS.cells
  have hst := run_storeCells_at P g off TT news 0 cs.toArray w hg (by simpa using hfit) hS.one
  simp only [Nat.add_zero] at hst
  simp [Builtin.copy_, run_underlying hsl, sizeOf, typeInfo, hi, hs, hS.len, hmin, hcells, goInt, hst]
/-- 'copy' as the walk meets it, its run known. -/
theorem wpList_copy_run {P : Program} {tS tx : TypeId} {w w' : World} {ops : Array Oper} {rest : List Oper} {o : Oper} {a : Act} {Q : Exit → Act → World → Prop} {vd vx r : Value} (hg : o.guard = none) (d x : Operand)
    (hop : o.op = Op.call { callee := Callee.builtin Builtin.copy, args := #[d, x], argTypes := #[tS, tx] }) (hd : a.eval d = vd) (hx : a.eval x = vx) (h : (Builtin.copy_ #[tS, tx] o.type #[vd, vx]).run P w = .ok r w')
    (k : wpList P ops Q rest (a.put o.dst r) w') : wpList P ops Q (o :: rest) a w :=
  wpList_val (w' := w') hg (by simp [execOp, hop, resolve, invoke, builtin, hd, hx, h, Result.andThen]) k
/-- Numbers as an address. -/
def adI (x : Nat × Nat) : Ad := ((x.1 : Int), (x.2 : Int))
/-- Three of them, noughts where there is none. -/
def pad3 (L : List (Nat × Nat)) : List (Nat × Nat) := L ++ List.replicate (3 - L.length) (0, 0)
def addrsB (L : List (Nat × Nat)) : List UInt8 := be1 L.length ++ (pad3 L).flatMap adB
theorem pad3_three (L : List (Nat × Nat)) (h : L.length ≤ 3) (hb : ∀ x ∈ L, x.1 < 1099511627776 ∧ x.2 < 1099511627776) :
    ∃ x0 x1 x2, pad3 L = [x0, x1, x2] ∧ (x0.1 < 1099511627776 ∧ x0.2 < 1099511627776) ∧ (x1.1 < 1099511627776 ∧ x1.2 < 1099511627776) ∧ (x2.1 < 1099511627776 ∧ x2.2 < 1099511627776) := by
  have hz : (0 : Nat) < 1099511627776 ∧ (0 : Nat) < 1099511627776 := by omega
  match L, h, hb with
  | [], _, _ => exact ⟨(0, 0), (0, 0), (0, 0), rfl, hz, hz, hz⟩
  | [a], _, hb => exact ⟨a, (0, 0), (0, 0), rfl, hb a (by simp), hz, hz⟩
  | [a, b], _, hb => exact ⟨a, b, (0, 0), rfl, hb a (by simp), hb b (by simp), hz⟩
  | [a, b, c], _, hb => exact ⟨a, b, c, rfl, hb a (by simp), hb b (by simp), hb c (by simp)⟩
  | _ :: _ :: _ :: _ :: _, h, _ => simp at h
theorem pad3_cells (L : List (Nat × Nat)) (h : L.length ≤ 3) : (List.replicate 6 (Value.int .i64 0)).take 0 ++ eas (L.map adI) ++ (List.replicate 6 (Value.int .i64 0)).drop (0 + (eas (L.map adI)).length) = eas ((pad3 L).map adI) := by
  match L, h with
  | [], _ => rfl
  | [a], _ => rfl
  | [a, b], _ => rfl
  | [a, b, c], _ => rfl
  | _ :: _ :: _ :: _ :: _, h => simp at h
theorem info46 : ∃ i, Try.prog.info? 46 = some i ∧ i.size = 2 := by
  have : (Try.prog.info? 46).map (·.size) = some 2 := by kernel_rfl
  cases h : Try.prog.info? 46 with
  | none => rw [h] at this; cases this
  | some i => rw [h] at this; exact ⟨i, rfl, by simpa using this⟩
theorem ix0 (a b c d e f : Value) (W : World) : (Instr.index 91 (.agg #[a, b, c, d, e, f]) (.int .i64 0)).run Try.prog W = .ok (.agg #[a, b]) W := by kernel_rfl
theorem ix1 (a b c d e f : Value) (W : World) : (Instr.index 91 (.agg #[a, b, c, d, e, f]) (.int .i64 1)).run Try.prog W = .ok (.agg #[c, d]) W := by kernel_rfl
theorem ix2 (a b c d e f : Value) (W : World) : (Instr.index 91 (.agg #[a, b, c, d, e, f]) (.int .i64 2)).run Try.prog W = .ok (.agg #[e, f]) W := by kernel_rfl
set_option maxHeartbeats 4000000 in
theorem addrs_any (v x : Value) (l sp : List UInt8) (L : List (Nat × Nat)) (asp : List Ad) (w : World) (hO : OwnB 5 w v l sp) (hl : l.length ≤ 1000) (hS : SlA w x (L.map adI) asp) (h3 : L.length ≤ 3) (hb : ∀ x ∈ L, x.1 < 1099511627776 ∧ x.2 < 1099511627776) :
    Calls Try.prog 69 #[v, x] w (Ext w v (l ++ addrsB L)) := by
  obtain ⟨a0, cap0, rfl, _, _⟩ := hO.sl.form
  obtain ⟨xa, xcap, rfl, _, _⟩ := hS.form
  have hlt := hO.lt
  have HO := Lib.hid hO
  have HS := Lib.hid hS
  have H3 := Lib.hid h3
  have HBB := Lib.hid hb
  simp only [List.length_map] at HS ⊢
  have f0 : Frm [] w (w.alloc (.cells (List.replicate 6 (Value.int .i64 0)).toArray 91)) := (Frm.refl [] w).alloc _
  have hn := heap_alloc_new w (.cells (List.replicate 6 (Value.int .i64 0)).toArray 91)
  have hnb : w.heap.size ∉ blk (.slice a0 l.length cap0) := fun h => Nat.lt_irrefl _ (hlt _ h)
  have hn3 : (L.length : Int) ≤ 3 := by omega
  have hlen : ((L.length : Nat) : Int) < 1000 := by omega
  obtain ⟨i46, hi46, hs46⟩ := info46
  have hrun := copy_raw (P := Try.prog) (tS := 22) (tx := 22) 3 AT.sl hi46 hs46 hn 0 (dLen := 3) (dCap := 3) (SlA.src AT.sl (HS.out.keep f0 (by simp))) (by simpa using h3) (by simp [eas_length]; omega)
  rw [pad3_cells L h3] at hrun
  simp only [List.length_map, List.reduceReplicate] at hrun hn f0
  obtain ⟨x0, x1, x2, hp, k0, k1, k2⟩ := pad3_three L h3 hb
  rw [hp] at hrun
  simp only [List.map_cons, List.map_nil, eas_cons, eas_nil, adI] at hrun
  have HR := Lib.hid hrun
  clear hrun hO hS h3 hb hi46 hs46 hlt
  have hn2 := setRow_heap (w.alloc (.cells #[Value.int IntKind.i64 0, Value.int IntKind.i64 0, Value.int IntKind.i64 0, Value.int IntKind.i64 0, Value.int IntKind.i64 0, Value.int IntKind.i64 0] 91)) w.heap.size _ #[Value.int IntKind.i64 x0.1, Value.int IntKind.i64 x0.2, Value.int IntKind.i64 x1.1, Value.int IntKind.i64 x1.2, Value.int IntKind.i64 x2.1, Value.int IntKind.i64 x2.2] 91 (0, 0) hn
  have f2 : Frm [] w ((w.alloc (.cells #[Value.int IntKind.i64 0, Value.int IntKind.i64 0, Value.int IntKind.i64 0, Value.int IntKind.i64 0, Value.int IntKind.i64 0, Value.int IntKind.i64 0] 91)).setRow w.heap.size #[Value.int IntKind.i64 x0.1, Value.int IntKind.i64 x0.2, Value.int IntKind.i64 x1.1, Value.int IntKind.i64 x1.2, Value.int IntKind.i64 x2.1, Value.int IntKind.i64 x2.2]) :=
    f0.trans (L' := [w.heap.size]) ⟨rfl, rfl, rfl, by simp [World.setRow], fun k hk hn => setRow_other _ _ k _ (by simpa using hn)⟩ (by simp)
  have HN2 := Lib.hid hn2
  have F2 := Lib.hid f2
  have hl9 : (l.length : Int) ≤ 1000 := by omega
  have H9 := Lib.hid hl9
  clear hn hn2 f2 f0 hn3 hlen hl
  go_enter Try.func69, Try.ntmps69
  go_upto_region 2 with (fail)
  generalize w.alloc (.cells #[Value.int IntKind.i64 0, Value.int IntKind.i64 0, Value.int IntKind.i64 0, Value.int IntKind.i64 0, Value.int IntKind.i64 0, Value.int IntKind.i64 0] 91) = W at *
  generalize W.setRow w.heap.size #[Value.int IntKind.i64 x0.1, Value.int IntKind.i64 x0.2, Value.int IntKind.i64 x1.1, Value.int IntKind.i64 x1.2, Value.int IntKind.i64 x2.1, Value.int IntKind.i64 x2.2] = W2 at *
  go_upto_region 3 with ((with_reducible (show wpList _ _ _ (Oper.mk _ (Op.call (Call.mk (Callee.builtin Builtin.copy) _ _)) _ _ _ _ :: _) _ _)); refine wpList_copy_run rfl (.tmp 8) (.tmp 9) rfl rfl rfl HR.out ?_)
  have O0 := Lib.hid (HO.out.keep F2.out (by simp))
  clear HR HO HS
  go_upto_region 4 with (go_at_call 70; refine (number1 _ l sp L.length _ O0.out (by have := H9.out; omega) (by have := H3.out; omega)).mono ?_; rintro r w1 ⟨a1, cap1, sp1, rfl, o1, g1⟩; have hl1 : (l ++ be1 L.length).length = l.length + 1 := (by simp [be1]); generalize hy1 : l ++ be1 L.length = l1 at *; have HY1 := Lib.hid hy1; have HL1 := Lib.hid hl1; have O1 := Lib.hid o1; have G1 := Lib.hid g1; clear hy1 hl1 o1 g1)
  have hA := G1.out.1.heap HN2.out hnb
  have c0 : w1.cell? ⟨w.heap.size, 0, none⟩ = some (.int .i64 x0.1) := by rw [cell_of_heap hA]; rfl
  have c1 : w1.cell? ⟨w.heap.size, 1, none⟩ = some (.int .i64 x0.2) := by rw [cell_of_heap hA]; rfl
  have c2 : w1.cell? ⟨w.heap.size, 2, none⟩ = some (.int .i64 x1.1) := by rw [cell_of_heap hA]; rfl
  have c3 : w1.cell? ⟨w.heap.size, 3, none⟩ = some (.int .i64 x1.2) := by rw [cell_of_heap hA]; rfl
  have c4 : w1.cell? ⟨w.heap.size, 4, none⟩ = some (.int .i64 x2.1) := by rw [cell_of_heap hA]; rfl
  have c5 : w1.cell? ⟨w.heap.size, 5, none⟩ = some (.int .i64 x2.2) := by rw [cell_of_heap hA]; rfl
  have HP := Lib.hid hp
  have HA := Lib.hid hA
  have K0 := Lib.hid k0
  have K1 := Lib.hid k1
  have K2 := Lib.hid k2
  clear hA hp k0 k1 k2 hnb
  have ix0 := ix0
  have ix1 := ix1
  have ix2 := ix2
  go_wp2_with fail
  refine wp_loop_rounds 4 ?_
  rw [rounds_succ]
  go_wp2_with (go_at_call 77; refine (addr_any _ _ sp1 x0.1 x0.2 _ (O1.out.keep (((Frm.refl [] w1).alloc _)) (by simp)) (by have := HL1.out; have := H9.out; omega) K0.out.1 K0.out.2).mono ?_; rintro r w2 ⟨a2, cap2, sp2, rfl, o1, g1⟩; have hl1 : (l1 ++ adB (x0.1, x0.2)).length = l1.length + 3 := (by simp [adB, be1, be2]); have g2 := Grew.pre (((Frm.refl [] w1).alloc _)) g1; generalize hy1 : l1 ++ adB (x0.1, x0.2) = l2 at *; have HY2 := Lib.hid hy1; have HL2 := Lib.hid hl1; have O2 := Lib.hid o1; have G2 := Lib.hid (G1.out.trans g2); clear hy1 hl1 o1 g1 g2)
  rw [rounds_succ]
  go_wp2_with (go_at_call 77; refine (addr_any _ _ sp2 x1.1 x1.2 _ (O2.out.keep (((Frm.refl [] w2).alloc _)) (by simp)) (by have := HL1.out; have := HL2.out; have := H9.out; omega) K1.out.1 K1.out.2).mono ?_; rintro r w3 ⟨a3, cap3, sp3, rfl, o1, g1⟩; have hl1 : (l2 ++ adB (x1.1, x1.2)).length = l2.length + 3 := (by simp [adB, be1, be2]); have g2 := Grew.pre (((Frm.refl [] w2).alloc _)) g1; generalize hy1 : l2 ++ adB (x1.1, x1.2) = l3 at *; have HY3 := Lib.hid hy1; have HL3 := Lib.hid hl1; have O3 := Lib.hid o1; have G3 := Lib.hid (G2.out.trans g2); clear hy1 hl1 o1 g1 g2)
  rw [rounds_succ]
  go_wp2_with (go_at_call 77; refine (addr_any _ _ sp3 x2.1 x2.2 _ (O3.out.keep (((Frm.refl [] w3).alloc _)) (by simp)) (by have := HL1.out; have := HL2.out; have := HL3.out; have := H9.out; omega) K2.out.1 K2.out.2).mono ?_; rintro r w4 ⟨a4, cap4, sp4, rfl, o1, g1⟩; have hl1 : (l3 ++ adB (x2.1, x2.2)).length = l3.length + 3 := (by simp [adB, be1, be2]); have g2 := Grew.pre (((Frm.refl [] w3).alloc _)) g1; generalize hy1 : l3 ++ adB (x2.1, x2.2) = l4 at *; have HY4 := Lib.hid hy1; have HL4 := Lib.hid hl1; have O4 := Lib.hid o1; have G4 := Lib.hid (G3.out.trans g2); clear hy1 hl1 o1 g1 g2)
  rw [rounds_succ]
  go_wp2_with fail
  go_ret
  have e : l ++ addrsB L = l4 := by rw [← HY4.out, ← HY3.out, ← HY2.out, ← HY1.out]; simp [addrsB, HP.out]
  rw [e]
  exact ⟨a4, cap4, sp4, rfl, O4.out, Grew.pre F2.out G4.out⟩
end Go.Proofs.Ytjjcjocomanohaa
