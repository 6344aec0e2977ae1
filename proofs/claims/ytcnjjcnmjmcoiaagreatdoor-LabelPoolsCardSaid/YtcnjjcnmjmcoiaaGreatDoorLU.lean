/-
  The keys of a map of IDs. No conditions but those that each theorem names.
-/
import Derived.Test.YtcnjjcnmjmcoiaaGreatDoorKI
import Derived.RangeFuncSeq
import Derived.RangeFuncGives
namespace Go.Proofs.YtcnjjcnmjmcoiaaGreatDoor
open Go.RowKit Go.Maps Go.MapKept
set_option linter.unusedVariables false
set_option linter.unusedSimpArgs false
set_option maxRecDepth 100000

open Kr (OwnE SlE)
theorem wpListIn_val {F : Fence} {n : Nat} {P : Program} {ops : Array Oper} {rest : List Oper} {o : Oper} {a : Act} {w w' : World} {v : Value} {Q : Exit → Act → World → Prop} (hg : o.guard = none) (hab : o.about P w a.eval = none) (hd : ∀ c, o.op ≠ .defer c)
    (h : (execOp a.eval o).run P w = .ok (.value v) w') (k : wpListIn F n P ops Q rest (a.put o.dst v) w') : wpListIn F n P ops Q (o :: rest) a w := by
  refine wpListIn_plain hg fun K' hK' => ?_
  refine ⟨by rw [hab]; simp, ?_⟩
  rw [Oper.semAt_plain F _ _ hd, h, Oper.uponIn_value]
  exact hK' _ _ k
theorem exec_store_row {P : Program} {o : Oper} {a : Act} {w : World} (ty : TypeId) (x y : Operand) (ho : o.op = .store ty x y)
    (g : Nat) (cells : Array Value) (hx : a.eval x = .pointer (some ⟨g, 0, none⟩)) (hy : a.eval y = .agg cells)
    (t : TypeId) (old : Array Value) (hg : w.heap[g]? = some (.cells old t (0, 0))) (hi : (P.info? ty).map (·.size) = some cells.size)
    (hold : old.size = cells.size) (h1 : cells.all (·.oneCell') = true) : (execOp a.eval o).run P w = .ok .skip (w.setRow g cells) := by
  unfold execOp
  simp only [ho, hx, hy, Instr.storeAt, Instr.sureAddr, Sem.run_bind, Sem.run_pure, Result.andThen_ok, run_storeVar_row w g t ty old cells hg hi hold h1]
theorem exec_load26 {o : Oper} {a : Act} {w : World} {x : Operand} (ho : o.op = .load 26 x) {g : Nat} {s : List UInt8} (hx : a.eval x = .pointer (some ⟨g, 0, none⟩)) (hs : s.length = 32) (hg : w.heap[g]? = some (.cells (bvs s).toArray 26 (0, 0))) :
    (execOp a.eval o).run Tryz.prog w = .ok (.value (idv s)) w := by
  refine Hs.exec_load_row 26 x ho g 0 hx (bvs s) _ (fun i u hu => ?_) Tryz.underlying26 rfl (by rw [i26]; simp [bvs_length, hs])
  rw [Nat.zero_add, cell_of_heap hg]
  simpa using hu
theorem wpListIn_load26 {F : Fence} {n : Nat} {ops : Array Oper} {rest : List Oper} {o : Oper} {a : Act} {w : World} {Q : Exit → Act → World → Prop} (hgd : o.guard = none) (x : Operand) (ho : o.op = .load 26 x) (g : Nat) (s : List UInt8) (hx : a.eval x = .pointer (some ⟨g, 0, none⟩)) (hs : s.length = 32) (hg : w.heap[g]? = some (.cells (bvs s).toArray 26 (0, 0)))
    (k : wpListIn F n Tryz.prog ops Q rest (a.put o.dst (idv s)) w) : wpListIn F n Tryz.prog ops Q (o :: rest) a w :=
  wpListIn_val hgd (by simp [Oper.about, ho]) (by rw [ho]; intro c hc; cases hc) (exec_load26 ho hx hs hg) k
/-- An ID is laid into a new variable, within a fence. -/
theorem wpListIn_lay26 {F : Fence} {n : Nat} {ops : Array Oper} {rest : List Oper} {o1 o3 : Oper} {a : Act} {W : World} {Q : Exit → Act → World → Prop} (g1 : o1.guard = none) (g3 : o3.guard = none)
    (h1 : o1.op = .alloc 26) (p x : Operand) (h3 : o3.op = .store 26 p x) {s : List UInt8} (hs : s.length = 32)
    (e1 : (a.put o1.dst (.pointer (some ⟨W.heap.size, 0, none⟩))).eval p = .pointer (some ⟨W.heap.size, 0, none⟩))
    (e2 : (a.put o1.dst (.pointer (some ⟨W.heap.size, 0, none⟩))).eval x = idv s)
    (k : wpListIn F n Tryz.prog ops Q rest ((a.put o1.dst (.pointer (some ⟨W.heap.size, 0, none⟩))).put o3.dst undef) (W.alloc (.cells (bvs s).toArray 26))) :
    wpListIn F n Tryz.prog ops Q (o1 :: o3 :: rest) a W := by
  refine wpListIn_val g1 (by simp [Oper.about, h1]) (by rw [h1]; intro c hc; cases hc) (exec_alloc26 h1 _) ?_
  refine wpListIn_plain g3 fun K' hK' => ?_
  refine ⟨by simp [Oper.about, h3], ?_⟩
  rw [Oper.semAt_plain F _ _ (by rw [h3]; intro c hc; cases hc), exec_store_row 26 p x h3 W.heap.size (bvs s).toArray e1 e2 26 _ (heap_alloc_new _ _) (by rw [i26]; simp [bvs_length, hs]) (by simp [bvs_length, hs]) (all_oneCell_toArray (bvs_one s)), Oper.uponIn_skip]
  refine hK' _ _ ?_
  rw [World.setRow_alloc_new]
  exact k
/-- The keys of a map come, each once. -/
theorem keys_in (n : Nat) (hn : 1 ≤ n) (l Bm b nn : Nat) (D0 : DataW Unit) (J Jx : List IdT → World → Prop)
    (hY : ∀ pre x W, J pre W → pre.length < Maps.size D0 → YieldAt Fence.wide (n - 1) Tryz.prog l #[vI x] W fun e W' =>
      (e = .returned (.bool true) ∧ J (pre ++ [x]) W' ∧ KeepsWalks W W') ∨ (e = .returned (.bool false) ∧ Jx (pre ++ [x]) W'))
    (W : World) (hJ : AbidesFrom W.heap.size J) (hm : W.cell? ⟨Bm, 0, none⟩ = some (.map (some b))) (hown : W.ownsMap Tryz.prog 26 (plainElem (H := Unit) Tryz.prog 3) b nn D0) (h0 : J [] W) :
    CallsIn Fence.wide n Tryz.prog 57 #[.func (.yield l) #[] #[], .pointer (some ⟨Bm, 0, none⟩)] W fun e W' => (∃ v, e = .returned v) ∧
      ((∃ ss : List IdT, (∃ left, Met D0 left ss ∧ ∀ kl, left kl = false) ∧ J ss W') ∨ (∃ pre : List IdT, Jx pre W')) := by
  refine callsIn_of_wp Tryz.func57 rfl trivial ?_ rfl
  simp only [Tryz.ntmps57, List.size_toArray, List.length_cons, List.length_nil, Nat.reduceAdd, Nat.reduceSub, Array.replicate_succ, Array.replicate_zero, List.push_toArray, List.append_toArray, List.nil_append, List.cons_append]
  gi_wp2_with (first
    | (gi_at_range; refine wpListIn_range_own _ rfl _ 53 rfl 26 3 law26 Tryz.underlying53 (plainElem (H := Unit) Tryz.prog 3) b nn _ rfl hown ?_; intro w0 hrg0 hg0 hs0)
    | gi_in)
  go_frame
  gi_loopw [3] (fun _ wr => ∃ (left : Lit → Bool) (cnt : Nat) (ss : List IdT), wr.ranges Tryz.prog 26 (plainElem (H := Unit) Tryz.prog 3) b W.heap.size nn D0 left cnt ∧ ss.length + cnt ≤ Maps.size D0 ∧ Met D0 left ss ∧ J ss wr)
    (fun _ wr => wr.rangeLeft b W.heap.size)
  case atStart =>
    exact ⟨_, _, [], hrg0, by simp, Met.start D0, hJ [] W w0 none h0 hg0 (fun r e => by cases e)⟩
  case round =>
    obtain ⟨left, cnt, ss, hrg, hcs, hC, hJs⟩ := hrel
    gi_wp2_with (first
      | (gi_at_next; refine wpListIn_next_ranges _ rfl _ rfl 26 law26 (plainElem (H := Unit) Tryz.prog 3) vI id (fun key kl hk => by obtain ⟨x, hx, _⟩ := key_inv hk; exact ⟨x, hx⟩) (fun v _ _ => ⟨v, rfl⟩) b W.heap.size nn _ _ _ rfl hrg ?_ ?_)
      | gi_in)
    · intro hc0 hl0
      gi_wp2
      go_end0
      exact ⟨⟨_, rfl⟩, .inl ⟨ss, ⟨left, hC, hl0⟩, hJs⟩⟩
    · intro x0 hx0 c kl yd yp w2 cnt2 hkey hlk hv hat hrg2 hlt hg2 hs2 hen
      obtain ⟨x', ex, rfl⟩ := key_inv hkey
      obtain rfl : (⟨x0, hx0⟩ : IdT) = x' := vI_inj ex
      have hJ2 : J ss w2 := hJ ss wr w2 (some W.heap.size) hJs hg2 (fun r e => by cases e; exact ⟨Nat.le_refl _, hrg.iter_walk⟩)
      clear hs2
      have hx1 : x0.length = 32 := hx0
      have hev : vI ⟨x0, hx0⟩ = idv x0 := rfl
      rw [hev] at hen ⊢
      have f3 : Frm [] w2 (w2.alloc (.cells (bvs x0).toArray 26)) := (Frm.refl [] w2).alloc _
      have hJ3 : J ss (w2.alloc (.cells (bvs x0).toArray 26)) := hJ ss w2 _ none hJ2 (World.grownBy_alloc _ _ _) (fun r e => by cases e)
      have hrg3 := hrg2.of_walks (show KeepsWalks w2 (w2.alloc (.cells (bvs x0).toArray 26)) from KeepsWalks.alloc _ _)
      obtain ⟨fn, tmps, assign, body, hy, hR⟩ := hY ss ⟨x0, hx0⟩ _ hJ3 (by omega)
      rw [hev] at hy
      have h3 := heap_alloc_new w2 (.cells (bvs x0).toArray 26)
      gi_wp2_with (first
        | (refine wpListIn_lay26 rfl rfl rfl _ _ rfl (s := x0) hx1 rfl rfl ?_)
        | (refine wpListIn_load26 rfl _ rfl w2.heap.size x0 rfl hx1 h3 ?_)
        | gi_in)
      refine hR.mono ?_
      have hC2 := hC.step hlk (has_true_of_atKey hat)
      rintro e W3 (⟨rfl, hJ3, hk3⟩ | ⟨rfl, hJx3⟩)
      · gi_wp2
        have hrg4 := hrg3.of_walks hk3
        go_roundw
        case rel => exact ⟨_, cnt2, ss ++ [⟨x0, hx0⟩], hrg4, by simp; omega, hC2, hJ3⟩
        case measure => rw [hrg4.left_eq, hrg.left_eq]; exact hlt
      · gi_wp2
        refine bodyPost_ret (results_none rfl _ _ _) rfl ?_
        exact ⟨⟨_, rfl⟩, .inr ⟨_, hJx3⟩⟩
end Go.Proofs.YtcnjjcnmjmcoiaaGreatDoor
