/-
  A write laid. No conditions but those that each theorem names.
-/
import Derived.Test.YtdebnikolhhmgaaDoorBD
import Derived.Deep.MidRow
import Derived.Laws.Tables
namespace Go.Proofs.YtdebnikolhhmgaaDoor
open Go.RowKit
set_option linter.unusedVariables false
set_option linter.unusedSimpArgs false
set_option maxRecDepth 100000

open Kr (OwnE SlE Enco RowTys)
theorem u94 : Tryd.prog.underlying 94 = some (.array 256 5) := by kernel_rfl
theorem i94 : (Tryd.prog.info? 94).map (·.size) = some 256 := by kernel_rfl
theorem arr94 (a : Addr) (cap : Nat) (W : World) : (Instr.arrayAt 94 (.slice (some a) 256 cap)).run Tryd.prog W = .ok (.pointer (some a)) W := by
  simp [Instr.arrayAt, Sem.run_bind, run_underlying u94, Result.andThen]
theorem exec_arr94 {o : Oper} {ac : Act} (s : Operand) (hop : o.op = Op.sliceToArrayPointer 94 s) {a : Addr} {cap : Nat} (h1 : ac.eval s = .slice (some a) 256 cap) (W : World) : (execOp ac.eval o).run Tryd.prog W = .ok (.value (.pointer (some a))) W := by
  have h := arr94 a cap W
  simp only [execOp, hop, h1, Sem.run_bind, Sem.run_pure, h, Result.andThen_ok]
theorem SlB.cellAt {w : World} {b off n cap : Nat} {l sp : List UInt8} (h : SlB w (.slice (some ⟨b, off, none⟩) n cap) l sp) (k : Nat) (hk : k < l.length) : w.cell? ⟨b, off + k, none⟩ = some (.int .u8 l[k].toNat) := by
  obtain ⟨h1, h2 | ⟨a, h2, h3, h4⟩ | ⟨b', off', cap', h2, h3, h4, h5, h6⟩⟩ := h
  · cases h2.1
  · omega
  · cases h2
    refine h6 k _ ?_
    rw [List.getElem?_append_left (by rw [bvs_length]; exact hk)]
    simp [bvs, bv, List.getElem?_map, List.getElem?_eq_getElem hk]
theorem SlB.load94 {w : World} {b off cap : Nat} {l sp : List UInt8} (h : SlB w (.slice (some ⟨b, off, none⟩) 256 cap) l sp) (hl : l.length = 256) : (Instr.loadAt 94 (.pointer (some ⟨b, off, none⟩))).run Tryd.prog w = .ok (.agg (bvs l).toArray) w := by
  refine run_loadAt_mid w b off 94 (bvs l) _ (fun j u hu => ?_) Tryd.underlying94 rfl (by rw [i94]; simp [bvs_length, hl])
  have hj : j < l.length := by have := (List.getElem?_eq_some_iff.1 hu).1; simpa [bvs_length] using this
  have hc := SlB.cellAt h j hj
  rw [hc]
  rw [← hu]
  simp [bvs, bv, List.getElem?_map, List.getElem?_eq_getElem hj]
theorem wpList_load_g {P : Program} {ops : Array Oper} {rest : List Oper} {op : Oper} {a : Act} {w : World} {Q : Exit → Act → World → Prop} (hw : Region.wanted op (yielded ops a.tmps) = true) (ty : TypeId) (x : Operand) (ho : op.op = .load ty x)
    (p : Addr) (hx : a.eval x = .pointer (some p)) {v : Value} (hl : (Instr.loadAt ty (.pointer (some p))).run P w = .ok v w)
    (h : wpList P ops Q rest (a.put op.dst v) w) : wpList P ops Q (op :: rest) a w :=
  wpList_step fun K hK => by
    have he : (execOp a.eval op).run P w = .ok (.value v) w := by simp [execOp, ho, hx, hl, Result.andThen]
    rw [if_pos hw]
    unfold Oper.wp
    rw [he]
    exact hK _ _ h
theorem fold_set2 (off : Nat) (post : List Value) : ∀ (vs : List Value) (k : Nat) (pre mid : List Value), mid.length = vs.length → pre.length = off + k → (vs.zipIdx k).foldl (fun (cs : Array Value) (x : Value × Nat) => cs.setIfInBounds (off + x.2) x.1) (pre ++ (mid ++ post)).toArray = (pre ++ (vs ++ post)).toArray
  | [], k, pre, mid, h, _ => by
    obtain rfl : mid = [] := List.eq_nil_of_length_eq_zero (by simpa using h)
    rfl
  | v :: vs, k, pre, [], h, _ => by simp at h
  | v :: vs, k, pre, s :: mid, h, hp => by
    have ih := fold_set2 off post vs (k + 1) (pre ++ [v]) mid (by simpa using h) (by simp; omega)
    simp only [List.zipIdx_cons, List.foldl_cons]
    have e : (pre ++ (s :: mid ++ post)).toArray.setIfInBounds (off + k) v = (pre ++ [v] ++ (mid ++ post)).toArray := by
      apply Array.ext'
      rw [Array.toList_setIfInBounds, ← hp]
      simp
    rw [e]
    simpa using ih
theorem fill_cons {place : Nat → Option (Nat × Nat)} {cells : Array Value} {i : Nat} {v : Value} {rest : List (Nat × Value)} {off size : Nat} (hp : place i = some (off, size)) (h1 : v.cells.size = size) (h2 : off + size ≤ cells.size) :
    Instr.fill place cells ((i, v) :: rest) = Instr.fill place (v.cells.zipIdx.foldl (fun (cs : Array Value) (x : Value × Nat) => cs.setIfInBounds (off + x.2) x.1) cells) rest := by
  subst h1
  rw [Instr.fill, hp]
  simp only
  rw [if_neg (by simp; omega)]
def wtc (d a : Int) (l : List UInt8) : List Value := .int .i64 d :: .int .i64 a :: bvs l
theorem fill105 (place : Nat → Option (Nat × Nat)) (p0 : place 0 = some (0, 1)) (p1 : place 1 = some (1, 1)) (p2 : place 2 = some (2, 256)) (d a : Int) (l : List UInt8) (hl : l.length = 256) :
    Instr.fill place (wtc 0 0 (List.replicate 256 0)).toArray [(0, .int .i64 d), (1, .int .i64 a), (2, .agg (bvs l).toArray)] = some (wtc d a l).toArray := by
  rw [fill_cons p0 rfl (by simp [wtc, bvs_length]), fill_cons p1 rfl (by simp [wtc, bvs_length, go_sem]), fill_cons p2 (by simp [go_sem, bvs_length, hl]) (by simp [wtc, bvs_length, go_sem]), Instr.fill]
  have e : ((Value.int .i64 a).cells.zipIdx.foldl (fun (cs : Array Value) (x : Value × Nat) => cs.setIfInBounds (1 + x.2) x.1) ((Value.int .i64 d).cells.zipIdx.foldl (fun (cs : Array Value) (x : Value × Nat) => cs.setIfInBounds (0 + x.2) x.1) (wtc 0 0 (List.replicate 256 0)).toArray)) = ([Value.int .i64 d, Value.int .i64 a] ++ (bvs (List.replicate 256 0) ++ [])).toArray := by
    simp [go_sem, wtc]
  rw [e, show (Value.agg (bvs l).toArray).cells = (bvs l).toArray from rfl]
  have := fold_set2 2 [] (bvs l) 0 [Value.int .i64 d, Value.int .i64 a] (bvs (List.replicate 256 0)) (by simp [bvs_length, hl]) rfl
  simpa [← Array.foldl_toList, wtc] using this
theorem bld105 (d a : Int) (l : List UInt8) (hl : l.length = 256) (W : World) : (Instr.build 105 #[(0, .int .i64 d), (1, .int .i64 a), (2, .agg (bvs l).toArray)]).run Tryd.prog W = .ok (.agg (wtc d a l).toArray) W := by
  refine run_build W 105 _ _ ?_
  obtain ⟨i, hi, hz⟩ : ∃ i, Tryd.prog.info? 105 = some i ∧ i.zero = some (.agg (wtc 0 0 (List.replicate 256 0)).toArray) := by
    cases h : Tryd.prog.info? 105 with
    | none => exact absurd h (by have : (Tryd.prog.info? 105).isSome = true := by kernel_rfl
                                 intro e; rw [e] at this; cases this)
    | some i =>
      refine ⟨i, rfl, ?_⟩
      have : (Tryd.prog.info? 105).bind (·.zero) = some (.agg (wtc 0 0 (List.replicate 256 0)).toArray) := by kernel_rfl
      rw [h] at this
      exact this
  obtain ⟨fs, hf, hp⟩ : ∃ fs, Tryd.prog.underlying 105 = some (.struct fs) ∧ fs.toList.mapM (fun f => (Tryd.prog.info? f.type).map fun i => (f.offset, i.size)) = some [(0, 1), (1, 1), (2, 256)] := ⟨_, Tryd.underlying105, by kernel_rfl⟩
  unfold Program.built
  rw [hi, hf]
  simp only [hz, hp]
  exact fill105 _ rfl rfl rfl d a l hl
theorem exec_bld105 {o : Oper} {ac : Act} {d a : Int} {l : List UInt8} (p q r : Operand) (hl : l.length = 256) (hop : o.op = Op.build 105 #[(0, p), (1, q), (2, r)]) (h1 : ac.eval p = .int .i64 d) (h2 : ac.eval q = .int .i64 a) (h3 : ac.eval r = .agg (bvs l).toArray) (W : World) : (execOp ac.eval o).run Tryd.prog W = .ok (.value (.agg (wtc d a l).toArray)) W := by
  have hb := bld105 d a l hl W
  have hm : (#[(0, p), (1, q), (2, r)].map fun ((i, x) : Nat × Operand) => (i, ac.eval x)) = #[(0, .int .i64 d), (1, .int .i64 a), (2, .agg (bvs l).toArray)] := by simp [h1, h2, h3]
  simp only [execOp, hop, hm, Sem.run_bind, Sem.run_pure, hb, Result.andThen_ok]
end Go.Proofs.YtdebnikolhhmgaaDoor

