/-
  An act as it is handed in. No conditions but those that each theorem names.
-/
import Derived.Test.YtdebnikolhhmgaaDoorRA
namespace Go.Proofs.YtdebnikolhhmgaaDoor
open Go.ChangeShapes Go.WideShapes Go.ChangeAt Go.RowKit Go.Deep
set_option linter.unusedVariables false
set_option linter.unusedSimpArgs false
set_option maxRecDepth 100000

theorem take_at {cs : List Value} {i : Nat} {u : Value} (h : (cs.drop i).take 1 = [u]) : cs[i]? = some u := by
  have := congrArg (·[0]?) h
  simpa [List.getElem?_take, List.getElem?_drop] using this
theorem sl_of_trod {H : Type} {enc : TypeId × Value → H} {W : World} {fuel : Nat} {cs : List Value} {x : DataW H × List MemPlace} {t e : TypeId} (ht : Tryd.prog.underlying t = some (.slice e)) (h : DataW.trod enc Tryd.prog W 0 (fun _ => true) true fuel t cs = some x) :
    ∃ a n c, cs = [.slice a n c] := by
  rcases open_slice ht h with ⟨rfl, _⟩ | ⟨a, len, cap, m, n, D, Pl, rfl, _⟩
  · exact ⟨_, _, _, rfl⟩
  · exact ⟨_, _, _, rfl⟩
theorem cells25 : Tryd.prog.cellsOf 25 = 7 := by kernel_rfl
theorem cells3 : Tryd.prog.cellsOf 3 = 1 := by kernel_rfl
theorem cells5 : Tryd.prog.cellsOf 5 = 1 := by kernel_rfl
theorem cells22 : Tryd.prog.cellsOf 22 = 1 := by kernel_rfl
theorem cells23 : Tryd.prog.cellsOf 23 = 1 := by kernel_rfl
theorem act_of_trod {H : Type} {enc : TypeId × Value → H} {W : World} {fuel : Nat} {cs : List Value} {x : DataW H × List MemPlace} (h : DataW.trod enc Tryd.prog W 0 (fun _ => true) true fuel 25 cs = some x) :
    ∃ kd d a n m b5 n5 c5 b6 n6 c6, cs = [.int .i64 kd, .int .i64 d, .int .i64 a, .int .i64 n, .int .u8 m, .slice b5 n5 c5, .slice b6 n6 c6] := by
  obtain ⟨xs, n, _, rfl, hl, hlen, hf⟩ := DataW.trod_struct Tryd.underlying25 h
  rw [cells25] at hl
  match xs, hlen with
  | [y0, y1, y2, y3, y4, y5, y6], _ =>
    have t0 : DataW.trod enc Tryd.prog W 0 (fun _ => true) true n 3 ((cs.drop 0).take (Tryd.prog.cellsOf 3)) = some y0 := hf 0 _ rfl
    rw [cells3] at t0
    have t1 : DataW.trod enc Tryd.prog W 0 (fun _ => true) true n 3 ((cs.drop 1).take (Tryd.prog.cellsOf 3)) = some y1 := hf 1 _ rfl
    rw [cells3] at t1
    have t2 : DataW.trod enc Tryd.prog W 0 (fun _ => true) true n 3 ((cs.drop 2).take (Tryd.prog.cellsOf 3)) = some y2 := hf 2 _ rfl
    rw [cells3] at t2
    have t3 : DataW.trod enc Tryd.prog W 0 (fun _ => true) true n 3 ((cs.drop 3).take (Tryd.prog.cellsOf 3)) = some y3 := hf 3 _ rfl
    rw [cells3] at t3
    have t4 : DataW.trod enc Tryd.prog W 0 (fun _ => true) true n 5 ((cs.drop 4).take (Tryd.prog.cellsOf 5)) = some y4 := hf 4 _ rfl
    rw [cells5] at t4
    have t5 : DataW.trod enc Tryd.prog W 0 (fun _ => true) true n 22 ((cs.drop 5).take (Tryd.prog.cellsOf 22)) = some y5 := hf 5 _ rfl
    rw [cells22] at t5
    have t6 : DataW.trod enc Tryd.prog W 0 (fun _ => true) true n 23 ((cs.drop 6).take (Tryd.prog.cellsOf 23)) = some y6 := hf 6 _ rfl
    rw [cells23] at t6
    obtain ⟨z0, e0, _, _⟩ := DataW.trod_int Tryd.underlying3 t0
    obtain ⟨z1, e1, _, _⟩ := DataW.trod_int Tryd.underlying3 t1
    obtain ⟨z2, e2, _, _⟩ := DataW.trod_int Tryd.underlying3 t2
    obtain ⟨z3, e3, _, _⟩ := DataW.trod_int Tryd.underlying3 t3
    obtain ⟨z4, e4, _, _⟩ := DataW.trod_int Tryd.underlying5 t4
    obtain ⟨b5, n5, c5, e5⟩ := sl_of_trod Tryd.underlying22 t5
    obtain ⟨b6, n6, c6, e6⟩ := sl_of_trod Tryd.underlying23 t6
    refine ⟨z0, z1, z2, z3, z4, b5, n5, c5, b6, n6, c6, ?_⟩
    have q0 := take_at e0
    have q1 := take_at e1
    have q2 := take_at e2
    have q3 := take_at e3
    have q4 := take_at e4
    have q5 := take_at e5
    have q6 := take_at e6
    apply List.ext_getElem?
    intro i
    match i with
    | 0 => exact q0
    | 1 => exact q1
    | 2 => exact q2
    | 3 => exact q3
    | 4 => exact q4
    | 5 => exact q5
    | 6 => exact q6
    | i + 7 => rw [List.getElem?_eq_none (by omega)]; rfl
theorem open_act {H : Type} {enc : TypeId × Value → H} {W : World} {r : Reach} {b0 : Nat} {v : Value} {d : DataW H} {p : List MemPlace} (hv : Value.okWide Tryd.prog W r b0 25 v) (h : DataW.Trod enc Tryd.prog W 0 (fun _ => true) true 25 v d p) :
    ∃ kd d a n m b5 n5 c5 b6 n6 c6, v = actV kd d a n m b5 n5 c5 b6 n6 c6 := by
  obtain ⟨c, rfl, _⟩ := okWide_struct Tryd.underlying25 hv
  obtain ⟨fuel, hf⟩ := h
  obtain ⟨kd, d, a, n, m, b5, n5, c5, b6, n6, c6, e⟩ := act_of_trod hf
  refine ⟨kd, d, a, n, m, b5, n5, c5, b6, n6, c6, ?_⟩
  unfold actV
  rw [← e]
  rfl
end Go.Proofs.YtdebnikolhhmgaaDoor
