/-
  What a row's own reading gives the walks: labels, IDs, bytes. No conditions but those that each theorem names.
-/
import Derived.Test.YtcnjjcnmjmcoiaaGreatDoorLZ
import Derived.Test.YtcnjjcnmjmcoiaaGreatDoorAZ
import Derived.Deep.Strs
import Derived.Deep.SlicePairs
import Derived.ChangeSame
namespace Go.Proofs.YtcnjjcnmjmcoiaaGreatDoor
open Go.RowKit Go.ChangeShapes Go.WideShapes Go.Deep
set_option linter.unusedVariables false
set_option linter.unusedSimpArgs false
set_option maxRecDepth 100000

theorem cells3 : Tryz.prog.cellsOf 3 = 1 := by kernel_rfl
theorem cells5 : Tryz.prog.cellsOf 5 = 1 := by kernel_rfl
theorem cells26 : Tryz.prog.cellsOf 26 = 32 := by kernel_rfl
theorem cells28 : Tryz.prog.cellsOf 28 = 37 := by kernel_rfl
def InI (n : Int) : Prop := -9223372036854775808 ≤ n ∧ n ≤ 9223372036854775807
theorem wf_iff (n : Int) : (Lit.int .i64 n).wf = true ↔ InI n := by
  simp [Lit.wf, IntKind.min, IntKind.max, IntKind.bits, IntKind.signed, InI]
/-- A label that a call can be handed. -/
structure WfL (l : Lab) : Prop where
  pool : l.pool.length = 32
  dev : InI l.dev
  devs : InI l.devs
  cop : InI l.cop
  sec : InI l.sec
  life : InI l.life
theorem id_of_trod {H : Type} {enc : TypeId × Value → H} {W : World} {fuel : Nat} {cs : List Value} {x : DataW H × List MemPlace} (h : DataW.trod enc Tryz.prog W 0 (fun _ => true) true fuel 26 cs = some x) :
    ∃ s : List UInt8, cs = bvs s ∧ s.length = 32 := by
  obtain ⟨xs, m, rfl, hx, hlen, hn, hel⟩ := DataW.trod_array Tryz.underlying26 h
  rw [cells26] at hlen
  have key : ∀ i, i < 32 → ∃ b : UInt8, cs[i]? = some (bv b) := fun i hi => by
    have h1 := hel i hi
    obtain ⟨b, hb⟩ : ∃ b, xs[i]? = some b := ⟨xs[i]'(by omega), List.getElem?_eq_getElem (by omega)⟩
    rw [hb, cells5] at h1
    obtain ⟨z, e1, _, e3⟩ := DataW.trod_int Tryz.underlying5 h1
    have := Go.bounds_u8 e3
    refine ⟨UInt8.ofNat z.toNat, ?_⟩
    have := congrArg (·[0]?) e1
    have h2 : cs[i]? = some (.int .u8 z) := by simpa [List.getElem?_take, List.getElem?_drop] using this
    rw [h2]
    simp [bv]
    omega
  have hall : ∀ u ∈ cs, ∃ b, u = bv b := fun u hu => by
    obtain ⟨i, hi, rfl⟩ := List.getElem_of_mem hu
    obtain ⟨b, hb⟩ := key i (by omega)
    rw [List.getElem?_eq_getElem hi] at hb
    exact ⟨b, Option.some.inj hb⟩
  obtain ⟨s, rfl⟩ := bvs_of hall
  exact ⟨s, rfl, by simpa [bvs_length] using hlen⟩
section
variable {H : Type} {enc : TypeId × Value → H} {P : Program} {w : World} {base : Nat} {spare : Nat → Bool} {held : Bool}
theorem trod_struct6 {t : TypeId} {f0 f1 f2 f3 f4 f5 : Field} {fuel : Nat} {cs : List Value} {x : DataW H × List MemPlace} (ht : P.underlying t = some (.struct #[f0, f1, f2, f3, f4, f5])) (h : DataW.trod enc P w base spare held fuel t cs = some x) :
    ∃ y0 y1 y2 y3 y4 y5 n, cs.length = P.cellsOf t ∧ DataW.trod enc P w base spare held n f0.type ((cs.drop f0.offset).take (P.cellsOf f0.type)) = some y0 ∧
      DataW.trod enc P w base spare held n f1.type ((cs.drop f1.offset).take (P.cellsOf f1.type)) = some y1 ∧ DataW.trod enc P w base spare held n f2.type ((cs.drop f2.offset).take (P.cellsOf f2.type)) = some y2 ∧
      DataW.trod enc P w base spare held n f3.type ((cs.drop f3.offset).take (P.cellsOf f3.type)) = some y3 ∧ DataW.trod enc P w base spare held n f4.type ((cs.drop f4.offset).take (P.cellsOf f4.type)) = some y4 ∧
      DataW.trod enc P w base spare held n f5.type ((cs.drop f5.offset).take (P.cellsOf f5.type)) = some y5 := by
  obtain ⟨xs, n, _, rfl, hl, hlen, hf⟩ := DataW.trod_struct ht h
  match xs, hlen with
  | [y0, y1, y2, y3, y4, y5], _ => exact ⟨y0, y1, y2, y3, y4, y5, n, hl, by simpa using hf 0 f0 rfl, by simpa using hf 1 f1 rfl, by simpa using hf 2 f2 rfl, by simpa using hf 3 f3 rfl, by simpa using hf 4 f4 rfl, by simpa using hf 5 f5 rfl⟩
end
theorem take_at {cs : List Value} {i : Nat} {u : Value} (h : (cs.drop i).take 1 = [u]) : cs[i]? = some u := by
  have := congrArg (·[0]?) h
  simpa [List.getElem?_take, List.getElem?_drop] using this
theorem lab_of_trod {H : Type} {enc : TypeId × Value → H} {W : World} {fuel : Nat} {cs : List Value} {x : DataW H × List MemPlace} (h : DataW.trod enc Tryz.prog W 0 (fun _ => true) true fuel 28 cs = some x) :
    ∃ l : Lab, cs = lc l ∧ WfL l := by
  obtain ⟨y0, y1, y2, y3, y4, y5, n, hl, t0, t1, t2, t3, t4, t5⟩ := trod_struct6 Tryz.underlying28 h
  rw [cells28] at hl
  dsimp only at t0 t1 t2 t3 t4 t5
  rw [cells26] at t0
  rw [cells3] at t1 t2 t3 t4 t5
  obtain ⟨s, e0, hs⟩ := id_of_trod t0
  obtain ⟨z1, e1, _, w1⟩ := DataW.trod_int Tryz.underlying3 t1
  obtain ⟨z2, e2, _, w2⟩ := DataW.trod_int Tryz.underlying3 t2
  obtain ⟨z3, e3, _, w3⟩ := DataW.trod_int Tryz.underlying3 t3
  obtain ⟨z4, e4, _, w4⟩ := DataW.trod_int Tryz.underlying3 t4
  obtain ⟨z5, e5, _, w5⟩ := DataW.trod_int Tryz.underlying3 t5
  refine ⟨⟨s, z1, z2, z3, z4, z5⟩, ?_, hs, (wf_iff _).1 w1, (wf_iff _).1 w2, (wf_iff _).1 w3, (wf_iff _).1 w4, (wf_iff _).1 w5⟩
  have hsp : cs = cs.take 32 ++ cs.drop 32 := (List.take_append_drop 32 cs).symm
  have h0 : cs.take 32 = bvs s := by simpa using e0
  have h1 := take_at e1
  have h2 := take_at e2
  have h3 := take_at e3
  have h4 := take_at e4
  have h5 := take_at e5
  have hd : ∀ i, (cs.drop 32)[i]? = cs[32 + i]? := fun i => by rw [List.getElem?_drop]
  have hdl : (cs.drop 32).length = 5 := by simp; omega
  rw [hsp, h0]
  show _ = bvs s ++ [.int .i64 z1, .int .i64 z2, .int .i64 z3, .int .i64 z4, .int .i64 z5]
  congr 1
  apply List.ext_getElem?
  intro i
  rw [hd]
  match i with
  | 0 => exact h1
  | 1 => exact h2
  | 2 => exact h3
  | 3 => exact h4
  | 4 => exact h5
  | i + 5 => rw [List.getElem?_eq_none (by omega)]; rfl
theorem open_lab {H : Type} {enc : TypeId × Value → H} {W : World} {r : Reach} {b0 : Nat} {v : Value} {d : DataW H} {p : List MemPlace} (hv : Value.okWide Tryz.prog W r b0 28 v) (h : DataW.Trod enc Tryz.prog W 0 (fun _ => true) true 28 v d p) :
    ∃ l : Lab, v = lv l ∧ WfL l := by
  obtain ⟨c, rfl, _⟩ := okWide_struct Tryz.underlying28 hv
  obtain ⟨fuel, hf⟩ := h
  obtain ⟨l, e, hw⟩ := lab_of_trod hf
  refine ⟨l, ?_, hw⟩
  unfold lv
  rw [← e]
  simp [Value.cells]
theorem open_id {H : Type} {enc : TypeId × Value → H} {W : World} {r : Reach} {b0 : Nat} {v : Value} {d : DataW H} {p : List MemPlace} (hv : Value.okWide Tryz.prog W r b0 26 v) (h : DataW.Trod enc Tryz.prog W 0 (fun _ => true) true 26 v d p) :
    ∃ s : List UInt8, v = idv s ∧ s.length = 32 := by
  obtain ⟨s, hs, e⟩ := Hs.open29 hv h
  exact ⟨s, e, hs⟩
theorem open_bytes {H : Type} {enc : TypeId × Value → H} {W : World} {r : Reach} {b0 : Nat} {v : Value} {d : DataW H} {p : List MemPlace} (hv : Value.okWide Tryz.prog W r b0 22 v) (h : DataW.Trod enc Tryz.prog W 0 (fun _ => true) true 22 v d p) :
    ∃ l sp, SlB W v l sp := by
  obtain ⟨a, len, cap, rfl⟩ := okWide_slice Tryz.underlying22 hv
  obtain ⟨fuel, hf⟩ := h
  obtain ⟨a', c', l, sp, e, hS, _⟩ := Hs.slb_of_trod hf
  simp [Value.cells] at e
  obtain ⟨rfl, rfl, rfl⟩ := e
  exact ⟨l, sp, hS⟩
end Go.Proofs.YtcnjjcnmjmcoiaaGreatDoor
