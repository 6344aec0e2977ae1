/-
  What a row's own reading gives the walks: nodes. No conditions but those that each theorem names.
-/
import Derived.Test.YtjjcjocomanohaaRA
import Derived.Test.YtjjcjocomanohaaNA
namespace Go.Proofs.Ytjjcjocomanohaa
open Go.RowKit Go.ChangeShapes Go.WideShapes Go.Deep
set_option linter.unusedVariables false
set_option linter.unusedSimpArgs false

theorem cells49 : Try.prog.cellsOf 49 = 140 := by kernel_rfl
theorem cells51 : Try.prog.cellsOf 51 = 141 := by kernel_rfl
section
variable {H : Type} {enc : TypeId × Value → H} {P : Program} {w : World} {base : Nat} {spare : Nat → Bool} {held : Bool}
theorem trod_struct2 {t : TypeId} {f0 f1 : Field} {fuel : Nat} {cs : List Value} {x : DataW H × List MemPlace} (ht : P.underlying t = some (.struct #[f0, f1])) (h : DataW.trod enc P w base spare held fuel t cs = some x) :
    ∃ y0 y1 n, cs.length = P.cellsOf t ∧ DataW.trod enc P w base spare held n f0.type ((cs.drop f0.offset).take (P.cellsOf f0.type)) = some y0 ∧
      DataW.trod enc P w base spare held n f1.type ((cs.drop f1.offset).take (P.cellsOf f1.type)) = some y1 := by
  obtain ⟨xs, n, _, rfl, hl, hlen, hf⟩ := DataW.trod_struct ht h
  match xs, hlen with
  | [y0, y1], _ => exact ⟨y0, y1, n, hl, by simpa using hf 0 f0 rfl, by simpa using hf 1 f1 rfl⟩
end
theorem pts_of_trod {H : Type} {enc : TypeId × Value → H} {W : World} {fuel : Nat} {cs : List Value} {x : DataW H × List MemPlace} (h : DataW.trod enc Try.prog W 0 (fun _ => true) true fuel 49 cs = some x) :
    ∃ As ps, cs = (As.map Array.toList).flatten ∧ PtsV W As ps := by
  obtain ⟨xs, m, rfl, hx, hlen, hn, hel⟩ := DataW.trod_array Try.underlying49 h
  rw [cells49] at hlen
  have key : ∀ i, i < 4 → ∃ (A : Array Value) (p : Pt), (cs.drop (i * 35)).take 35 = A.toList ∧ PtV W (.agg A) p := fun i hi => by
    have h1 := hel i hi
    obtain ⟨b, hb⟩ : ∃ b, xs[i]? = some b := ⟨xs[i]'(by omega), List.getElem?_eq_getElem (by omega)⟩
    rw [hb, cells26] at h1
    obtain ⟨a, cap, p, sp, e, hS, hs⟩ := pt_of_trod h1
    exact ⟨(pc (.slice a p.ads.length cap) p.b p.l p.s).toArray, p, by rw [e], ⟨a, cap, sp, rfl, hS, hs⟩⟩
  obtain ⟨A0, p0, e0, v0⟩ := key 0 (by omega)
  obtain ⟨A1, p1, e1, v1⟩ := key 1 (by omega)
  obtain ⟨A2, p2, e2, v2⟩ := key 2 (by omega)
  obtain ⟨A3, p3, e3, v3⟩ := key 3 (by omega)
  refine ⟨[A0, A1, A2, A3], [p0, p1, p2, p3], ?_, rfl, rfl, fun i A p hA hp => ?_⟩
  · simp only [List.map_cons, List.map_nil, List.flatten_cons, List.flatten_nil, List.append_nil]
    have d : ∀ k, cs.drop k = (cs.drop k).take 35 ++ cs.drop (k + 35) := fun k => by
      rw [← List.drop_drop, List.take_append_drop]
    have hend : cs.drop 140 = [] := List.drop_eq_nil_of_le (by omega)
    have h0 : cs = (cs.drop (0 * 35)).take 35 ++ cs.drop 35 := d 0
    have h1 : cs.drop 35 = (cs.drop (1 * 35)).take 35 ++ cs.drop 70 := d 35
    have h2 : cs.drop 70 = (cs.drop (2 * 35)).take 35 ++ cs.drop 105 := d 70
    have h3 : cs.drop 105 = (cs.drop (3 * 35)).take 35 ++ cs.drop 140 := d 105
    rw [e0] at h0
    rw [e1] at h1
    rw [e2] at h2
    rw [e3, hend, List.append_nil] at h3
    rw [h3] at h2
    rw [h2] at h1
    rw [h1] at h0
    exact h0
  · match i, hA, hp with
    | 0, hA, hp => simp at hA hp; subst hA hp; exact v0
    | 1, hA, hp => simp at hA hp; subst hA hp; exact v1
    | 2, hA, hp => simp at hA hp; subst hA hp; exact v2
    | 3, hA, hp => simp at hA hp; subst hA hp; exact v3
    | i + 4, hA, hp => simp at hA
theorem nd_of_trod {H : Type} {enc : TypeId × Value → H} {W : World} {fuel : Nat} {cs : List Value} {x : DataW H × List MemPlace} (h : DataW.trod enc Try.prog W 0 (fun _ => true) true fuel 51 cs = some x) :
    ∃ As lv ps, cs = nc lv As ∧ PtsV W As ps := by
  obtain ⟨y0, y1, n, hl, t0, t1⟩ := trod_struct2 Try.underlying51 h
  rw [cells51] at hl
  rw [show Try.prog.cellsOf (Field.mk "Level" 3 0 false "" "" 0).type = 1 from cells3] at t0
  rw [show Try.prog.cellsOf (Field.mk "P" 49 1 false "" "" 8).type = 140 from cells49] at t1
  obtain ⟨z, e0, _, _⟩ := DataW.trod_int Try.underlying3 t0
  obtain ⟨As, ps, e1, hP⟩ := pts_of_trod t1
  refine ⟨As, z, ps, ?_, hP⟩
  match cs, hl with
  | c0 :: r, hl =>
    simp at e0 e1
    subst e0
    have hr : r.take 140 = r := List.take_of_length_le (by simp at hl; omega)
    rw [hr] at e1
    subst e1
    rfl
theorem open_nd {H : Type} {enc : TypeId × Value → H} {W : World} {r : Reach} {b0 : Nat} {v : Value} {d : DataW H} {p : List MemPlace} (hv : Value.okWide Try.prog W r b0 51 v) (h : DataW.Trod enc Try.prog W 0 (fun _ => true) true 51 v d p) :
    ∃ q : Nd, NdV W v q := by
  obtain ⟨c, rfl, _⟩ := okWide_struct Try.underlying51 hv
  obtain ⟨fuel, hf⟩ := h
  obtain ⟨As, lv, ps, e, hP⟩ := nd_of_trod hf
  refine ⟨⟨lv, ps⟩, As, ?_, hP⟩
  rw [← e]
  simp [Value.cells]
end Go.Proofs.Ytjjcjocomanohaa
