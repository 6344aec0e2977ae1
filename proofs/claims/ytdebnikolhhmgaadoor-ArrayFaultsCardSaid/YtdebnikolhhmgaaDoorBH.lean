/-
  New: a blank device. No conditions but those that each theorem names.
-/
import Derived.Test.YtdebnikolhhmgaaDoorBG
namespace Go.Proofs.YtdebnikolhhmgaaDoor
open Go.RowKit
set_option linter.unusedVariables false
set_option linter.unusedSimpArgs false
set_option maxRecDepth 100000

open Kr (OwnE SlE Enco RowTys)
def zFB : FB := ⟨List.replicate 256 0, by simp⟩
def zS : Sr := (zFB, ⟨.pointer none, rfl⟩)
def zSc : Sc := ⟨zFB, none⟩
theorem eS_z : (Value.agg (eS zS).toArray).cells = (eS zS).toArray := rfl
theorem eS_len : (eS zS).length = 257 := by kernel_rfl
theorem made_secs (n : Nat) : (madeCells (eS zS).toArray (n * 257)).toList = Kr.flt eS (List.replicate n zS) := by
  apply List.ext_getElem?
  intro k
  rcases Nat.lt_or_ge k (n * 257) with h | h
  · have hk : k / 257 < n := by omega
    have hm : k % 257 < 257 := Nat.mod_lt _ (by omega)
    have h1 := Kr.flt_get encS (List.replicate n zS) (k / 257) (by simpa using hk) (k % 257) hm
    rw [show k / 257 * 257 + k % 257 = k by omega, List.getElem_replicate] at h1
    rw [h1]
    unfold madeCells
    rw [Array.toList_map, List.getElem?_map, Array.toList_range, List.getElem?_range h]
    simp only [Option.map_some, List.size_toArray, eS_len]
    have h2 : k % 257 < (eS zS).length := by rw [eS_len]; exact hm
    rw [List.getElem?_eq_getElem h2]
    simp [h2]
  · rw [List.getElem?_eq_none (by unfold madeCells; simpa using h), List.getElem?_eq_none (by rw [Kr.flt_length encS]; simpa using h)]
theorem make_secs (w : World) (kl kc : IntKind) (n : Nat) (hn : n ≤ 1000000) :
    ∃ w', (Instr.makeSlice 84 (.int kl (n : Int)) (.int kc (n : Int))).run Tryd.prog w = .ok (.slice (some ⟨w.heap.size, 0, none⟩) n n) w' ∧ OwnE eS 257 96 w' (.slice (some ⟨w.heap.size, 0, none⟩) n n) (List.replicate n zS) [] ∧ Frm [] w w' := by
  obtain ⟨z, hzs, hinf⟩ : ∃ z : Value, z = .agg (eS zS).toArray ∧ (Tryd.prog.info? 96).map (fun i => (i.zero, i.size, i.bytes)) = some (some z, 257, 264) := ⟨_, rfl, by kernel_rfl⟩
  obtain ⟨i, hi, hz, hs, hby⟩ := info_parts hinf
  obtain ⟨w', h1, h2, h3⟩ := run_make_full (P := Tryd.prog) w 0 84 96 i _ 257 Tryd.underlying84 hi hz hs kl kc n (by rw [hby]; omega) (by simp [maxLen]; omega) (Nat.zero_le _)
  refine ⟨w', h1, ?_, Frm.of_grown h3 (by simp)⟩
  obtain ⟨k1, k2 | ⟨g, cap, cur, k2, _, k3, k4, k5, k6, k7⟩⟩ := h2
  · cases k2.1
  · simp only [Value.slice.injEq, Option.some.injEq, Addr.mk.injEq] at k2
    obtain ⟨⟨rfl, _⟩, _, rfl⟩ := k2
    have e1 : cur.toList = Kr.flt eS (List.replicate n zS) := by
      have : cur.toList.take (n * 257) = cur.toList := List.take_of_length_le (by simp [k6])
      rw [← this, k7, hzs, eS_z, made_secs]
    refine OwnE.of_heap encS ?_ (by simp) (by simp) (by simp) k5
    rw [k3]
    congr 2
    apply Array.ext'
    simp [e1]
theorem wpList_make_secs {w : World} {ops : Array Oper} {rest : List Oper} {o : Oper} {a : Act} {Q : Exit → Act → World → Prop}
    (n : Nat) (hn : n ≤ 1000000) (hg : o.guard = none) (x y : Operand) (hop : o.op = Op.makeSlice 84 x y) {kl kc : IntKind} {X Y : Int} (hx : a.eval x = .int kl X) (hy : a.eval y = .int kc Y) (hX : X = n) (hY : Y = n)
    (k : ∀ w', OwnE eS 257 96 w' (.slice (some ⟨w.heap.size, 0, none⟩) n n) (List.replicate n zS) [] → Frm [] w w' → wpList Tryd.prog ops Q rest (a.put o.dst (.slice (some ⟨w.heap.size, 0, none⟩) n n)) w') :
    wpList Tryd.prog ops Q (o :: rest) a w := by
  subst hX
  subst hY
  obtain ⟨w', h1, h2, h3⟩ := make_secs w kl kc n hn
  refine wpList_val (v := .slice (some ⟨w.heap.size, 0, none⟩) n n) (w' := w') hg ?_ (k w' h2 h3)
  simp [execOp, hop, hx, hy, h1, Result.andThen]
/-- A device's value: blank. -/
def bv0 (gs n : Nat) : Value := .agg #[.int .u8 0, .int .i64 0, .int .i64 0, .slice (some ⟨gs, 0, none⟩) n n]
def BlankP (n : Nat) (w : World) (e : Ending) (w' : World) : Prop := ∃ gs, e = .returned (bv0 gs n) ∧ OwnE eS 257 96 w' (.slice (some ⟨gs, 0, none⟩) n n) (List.replicate n zS) [] ∧ w.heap.size ≤ gs ∧ Frm [] w w'
theorem blank_any (n : Nat) (hn : n ≤ 1000000) (w : World) : Calls Tryd.prog 58 #[.int .i64 n] w (BlankP n w) := by
  have i86 : (Tryd.prog.info? 86).map (·.size) = some 4 := by kernel_rfl
  go_enter Tryd.func58, Tryd.ntmps58
  go_wp2_with (at_make; refine wpList_make_secs n hn rfl (.tmp 3) (.tmp 3) rfl rfl rfl rfl rfl ?_; intro w1 o1 f1; have b1 := f1.heap (heap_alloc_new _ _) (by simp); have q0 := (cell_of_heap b1 0).trans rfl; have q1 := (cell_of_heap b1 1).trans rfl; have q2 := (cell_of_heap b1 2).trans rfl; have q3 := (cell_of_heap b1 3).trans rfl; have z0 := frozen_of_heap b1 0; have z1 := frozen_of_heap b1 1; have z2 := frozen_of_heap b1 2; have z3 := frozen_of_heap b1 3; have B1 := Lib.hid b1; have O1 := Lib.hid o1; have F1 := Lib.hid f1; clear o1 f1 b1)
  have hR : ((((w1.setCell ⟨w.heap.size, 0, none⟩ (.int .u8 0)).setCell ⟨w.heap.size, 1, none⟩ (.int .i64 0)).setCell ⟨w.heap.size, 2, none⟩ (.int .i64 0)).setCell ⟨w.heap.size, 3, none⟩ (.slice (some ⟨w.heap.size + 1, 0, none⟩) n n)).heap[w.heap.size]? = some (.cells #[.int .u8 0, .int .i64 0, .int .i64 0, .slice (some ⟨w.heap.size + 1, 0, none⟩) n n] 86 (0, 0)) := by
    rw [heap_setCell_same _ (heap_setCell_same _ (heap_setCell_same _ (heap_setCell_same _ B1.out)))]
    rfl
  have f0 : Frm [w.heap.size] w1 ((((w1.setCell ⟨w.heap.size, 0, none⟩ (.int .u8 0)).setCell ⟨w.heap.size, 1, none⟩ (.int .i64 0)).setCell ⟨w.heap.size, 2, none⟩ (.int .i64 0)).setCell ⟨w.heap.size, 3, none⟩ (.slice (some ⟨w.heap.size + 1, 0, none⟩) n n)) :=
    ((((Frm.refl _ w1).setCell _ _ (.inl (by simp))).setCell _ _ (.inl (by simp))).setCell _ _ (.inl (by simp))).setCell _ _ (.inl (by simp))
  have o1 := O1.out
  rw [World.size_alloc] at o1
  refine bodyPost_ret (v := bv0 (w.heap.size + 1) n) (results_cell_row rfl _ _ w.heap.size 86 _ (0, 0) _ rfl hR Tryd.underlying86 rfl (by exact i86)) rfl ⟨w.heap.size + 1, rfl, o1.keep f0 (by simp [blk]), by omega, ?_⟩
  exact (((Frm.refl [] w).alloc _).trans F1.out (by simp)).trans f0 (fun i hi => .inr (by simp at hi; omega))
end Go.Proofs.YtdebnikolhhmgaaDoor

