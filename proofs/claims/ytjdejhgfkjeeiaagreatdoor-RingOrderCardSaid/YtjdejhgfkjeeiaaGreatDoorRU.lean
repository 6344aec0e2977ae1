/-
  What a row's own reading gives the walks: uberblocks, bytes. No conditions but those that each theorem names.
-/
import Derived.Test.YtjdejhgfkjeeiaaGreatDoorRS
import Derived.Test.YtjdejhgfkjeeiaaGreatDoorRA
namespace Go.Proofs.YtjdejhgfkjeeiaaGreatDoor
open Go.RowKit Go.ChangeShapes Go.WideShapes Go.Deep
set_option linter.unusedVariables false
set_option linter.unusedSimpArgs false
set_option maxRecDepth 100000

open Pt (Pt may enc readPt readE zeroPt pc pv PtV SlA OwnA)
theorem cells28 : Tryz.prog.cellsOf 28 = 69 := by kernel_rfl
theorem take_at {cs : List Value} {i : Nat} {u : Value} (h : (cs.drop i).take 1 = [u]) : cs[i]? = some u := by
  have := congrArg (·[0]?) h
  simpa [List.getElem?_take, List.getElem?_drop] using this
theorem ub_of_trod {H : Type} {enc : TypeId × Value → H} {W : World} {fuel : Nat} {cs : List Value} {x : DataW H × List MemPlace} (h : DataW.trod enc Tryz.prog W 0 (fun _ => true) true fuel 28 cs = some x) :
    ∃ a cap, ∃ u : Ub, ∃ sp, cs = uc (.slice a u.root.ads.length cap) u ∧ SlA W (.slice a u.root.ads.length cap) u.root.ads sp ∧ WfU u := by
  obtain ⟨y0, y1, y2, y3, n, hl, t0, t1, t2, t3⟩ := Pt.trod_struct4 Tryz.underlying28 h
  rw [cells28] at hl
  dsimp only at t0 t1 t2 t3
  rw [Pt.cells3] at t0 t2
  rw [Pt.cells26] at t1
  rw [Pt.cells24] at t3
  obtain ⟨z0, e0, _, _⟩ := DataW.trod_int Tryz.underlying3 t0
  obtain ⟨a, cap, p, sp, e1, hS, hs⟩ := Pt.pt_of_trod t1
  obtain ⟨z2, e2, _, _⟩ := DataW.trod_int Tryz.underlying3 t2
  obtain ⟨s, e3, hs3⟩ := Pt.id_of_trod t3
  refine ⟨a, cap, ⟨z0, p, z2, s⟩, sp, ?_, hS, ⟨hs3, hs⟩⟩
  have h0 := take_at e0
  have h2 := take_at e2
  have hd : cs.drop 37 = bvs s := by
    rw [← e3, List.take_of_length_le (by simp; omega)]
  match cs, hl with
  | c0 :: r, hl =>
    have hr : r.length = 68 := by simpa using hl
    have e0' : c0 = .int .i64 z0 := by simpa using h0
    have e1' : r.take 35 = pc (.slice a p.ads.length cap) p.b p.l p.s := by simpa using e1
    have hd' : r.drop 36 = bvs s := by simpa using hd
    have h2' : r[35]? = some (.int .i64 z2) := by simpa using h2
    subst e0'
    show _ = _ :: (pc (.slice a p.ads.length cap) p.b p.l p.s ++ _)
    congr 1
    conv => lhs; rw [← List.take_append_drop 35 r]
    rw [e1']
    congr 1
    rw [List.drop_eq_getElem_cons (by omega : 35 < r.length), hd']
    congr 1
    rw [List.getElem?_eq_getElem (by omega)] at h2'
    exact Option.some.inj h2'
theorem open_uber {H : Type} {enc : TypeId × Value → H} {W : World} {r : Reach} {b0 : Nat} {v : Value} {d : DataW H} {p : List MemPlace} (hv : Value.okWide Tryz.prog W r b0 28 v) (h : DataW.Trod enc Tryz.prog W 0 (fun _ => true) true 28 v d p) :
    ∃ u : Ub, UbV W v u := by
  obtain ⟨c, rfl, _⟩ := okWide_struct Tryz.underlying28 hv
  obtain ⟨fuel, hf⟩ := h
  obtain ⟨a, cap, q, sp, e, hS, hs⟩ := ub_of_trod hf
  refine ⟨q, a, cap, sp, ?_, hS, hs⟩
  unfold uv
  rw [← e]
  simp [Value.cells]
theorem open_bytes {H : Type} {enc : TypeId × Value → H} {W : World} {r : Reach} {b0 : Nat} {v : Value} {d : DataW H} {p : List MemPlace} (hv : Value.okWide Tryz.prog W r b0 32 v) (h : DataW.Trod enc Tryz.prog W 0 (fun _ => true) true 32 v d p) :
    ∃ l sp, SlB W v l sp := by
  obtain ⟨l, sp, hS⟩ := Pt.open_bytes hv h
  exact ⟨l, sp, hS⟩
end Go.Proofs.YtjdejhgfkjeeiaaGreatDoor
