/-
  What a row's own reading gives the walks: an address, a slice of addresses. No conditions but those that each theorem names.
-/
import Derived.Test.YtafedmahehbggaaSM
import Derived.Deep.SlicePairs
import Derived.ChangeSame
namespace Go.Proofs.Ytafedmahehbggaa
open Go.RowKit Go.ChangeShapes Go.WideShapes Go.Deep
set_option linter.unusedVariables false
set_option linter.unusedSimpArgs false

theorem one_of {v u : Value} (h : [v] = [u]) : v = u := by simpa using h
theorem adr_of_trod {H : Type} {enc : TypeId × Value → H} {W : World} {fuel : Nat} {cs : List Value} {x : DataW H × List MemPlace} (h : DataW.trod enc Try.prog W 0 (fun _ => true) true fuel 25 cs = some x) :
    ∃ y : Ad, cs = ea y ∧ WfA y := by
  obtain ⟨y0, y1, n, _, hl, h0, h1⟩ := trod_struct2 Try.underlying25 h
  rw [cells23] at hl
  obtain ⟨z0, k0, _, w0⟩ := DataW.trod_int Try.underlying3 h0
  obtain ⟨z1, k1, _, w1⟩ := DataW.trod_int Try.underlying3 h1
  have k0 : List.take (Try.prog.cellsOf 3) (List.drop 0 cs) = [.int .i64 z0] := k0
  have k1 : List.take (Try.prog.cellsOf 3) (List.drop 1 cs) = [.int .i64 z1] := k1
  rw [cells3] at k0 k1
  match cs, hl with
  | [c0, c1], _ =>
    simp at k0 k1
    subst k0
    subst k1
    exact ⟨(z0, z1), rfl, (wf_iff _).1 w0, (wf_iff _).1 w1⟩
theorem sla_of_trod {H : Type} {enc : TypeId × Value → H} {W : World} {fuel : Nat} {cs : List Value} {x : DataW H × List MemPlace} (h : DataW.trod enc Try.prog W 0 (fun _ => true) true fuel 30 cs = some x) :
    ∃ a cap l sp, cs = [.slice a (l : List Ad).length cap] ∧ SlA W (.slice a l.length cap) l sp ∧ ∀ x ∈ l, WfA x := by
  rcases open_slice_pairs Try.underlying30 Try.underlying25 cells23 rfl rfl cells3 cells3 h with ⟨rfl, _⟩ | ⟨a, len, cap, m, n, V0, V1, D0, D1, P0, P1, rfl, _, hl, hm, hmm, _, hi⟩
  · exact ⟨none, 0, [], [], rfl, SlA.nil _, by simp⟩
  · simp at hmm
    subst hmm
    have hex : ∀ i, ∃ y : Ad, i < m → W.cell? (a.add (i * 2)) = some (.int .i64 y.1) ∧ W.cell? (a.add (i * 2 + 1)) = some (.int .i64 y.2) ∧ WfA y := fun i => by
      by_cases hlt : i < m
      · obtain ⟨c0, c1, t0, t1⟩ := hi i hlt
        obtain ⟨z0, k0, _, w0⟩ := DataW.trod_int Try.underlying3 t0
        obtain ⟨z1, k1, _, w1⟩ := DataW.trod_int Try.underlying3 t1
        exact ⟨(z0, z1), fun _ => ⟨by rw [c0, one_of k0], by rw [c1, one_of k1], (wf_iff _).1 w0, (wf_iff _).1 w1⟩⟩
      · exact ⟨(0, 0), fun h => absurd h hlt⟩
    obtain ⟨f, hf⟩ := Classical.axiomOfChoice hex
    have hall : ∀ L : List Ad, L = (List.range m).map f → L.length = m := fun L h => by rw [h]; simp
    obtain ⟨L, hL⟩ : ∃ L, L = (List.range m).map f := ⟨_, rfl⟩
    have hLl := hall L hL
    have hget : ∀ i (h : i < L.length), L[i] = f i := fun i h => by subst hL; simp
    have htl : (L.take len).length = len := by simp; omega
    by_cases hc : m = 0
    · subst hc
      obtain rfl : len = 0 := by omega
      exact ⟨some a, 0, [], [], rfl, ⟨rfl, .inr (.inl ⟨a, rfl, rfl, rfl⟩)⟩, by simp⟩
    · obtain ⟨b, off, spot⟩ := a
      have h0 := (hf 0 (by omega)).1
      have hspot : spot = none := by simpa [Addr.add] using World.cell?_spot h0
      subst hspot
      refine ⟨some ⟨b, off, none⟩, m, L.take len, L.drop len, by rw [htl], ?_, fun x hx => ?_⟩
      · rw [htl]
        refine ⟨by rw [eas_length, htl], .inr (.inr ⟨b, off, m, by rw [htl], by omega, hm, ?_, fun i u hu => ?_⟩)⟩
        · rw [← eas_append, List.take_append_drop, eas_length, hLl]
        · rw [← eas_append, List.take_append_drop] at hu
          have hi2 : i < L.length * 2 := by
            rcases Nat.lt_or_ge i (L.length * 2) with h | h
            · exact h
            · rw [List.getElem?_eq_none (by rw [eas_length]; exact h)] at hu; cases hu
          have hq : i / 2 < L.length := by omega
          obtain ⟨c0, c1, _⟩ := hf (i / 2) (by omega)
          by_cases h2 : i % 2 = 0
          · have e : i / 2 * 2 = i := by omega
            have g := eas_get0 L (i / 2) hq
            rw [e] at g c0
            rw [g] at hu
            cases hu
            rw [add_plain] at c0
            rw [c0, hget]
          · have e : i / 2 * 2 + 1 = i := by omega
            have g := eas_get1 L (i / 2) hq
            rw [e] at g c1
            rw [g] at hu
            cases hu
            rw [add_plain] at c1
            rw [c1, hget]
      · obtain ⟨i, hi', rfl⟩ := List.getElem_of_mem (List.mem_of_mem_take hx)
        rw [hget]
        exact (hf i (by omega)).2.2
end Go.Proofs.Ytafedmahehbggaa
