/-
  What a row's own reading gives the walks: slices of extents and of numbers. No conditions but those that each theorem names.
-/
import Derived.Test.YtgbgpmdhlocjhaaX0
import Derived.Deep.Slices
import Derived.Deep.SlicePairs
import Derived.ChangeSame
namespace Go.Proofs.Ytgbgpmdhlocjhaa
open Go.RowKit Go.ChangeShapes Go.WideShapes Go.Deep
set_option linter.unusedVariables false
set_option linter.unusedSimpArgs false

theorem own : ownKnob Try.prog.godebug = none := by kernel_rfl
theorem laidOut : laidOutB Try.prog = true := by kernel_rfl
theorem cells47 : Try.prog.cellsOf 47 = 2 := by kernel_rfl
theorem cells3 : Try.prog.cellsOf 3 = 1 := by kernel_rfl
theorem wf_iff (n : Int) : (Lit.int .i64 n).wf = true ↔ (-9223372036854775808 ≤ n ∧ n ≤ 9223372036854775807) := by
  simp [Lit.wf, IntKind.min, IntKind.max, IntKind.bits, IntKind.signed]
theorem one_of {v u : Value} (h : [v] = [u]) : v = u := by simpa using h
theorem slx_of_trod {H : Type} {enc : TypeId × Value → H} {W : World} {fuel : Nat} {cs : List Value} {x : DataW H × List MemPlace} (h : DataW.trod enc Try.prog W 0 (fun _ => true) true fuel 22 cs = some x) :
    ∃ a cap l sp, cs = [.slice a (l : List Ex).length cap] ∧ SlX W (.slice a l.length cap) l sp ∧ ∀ x ∈ l, -9223372036854775808 ≤ x.1 ∧ x.1 ≤ 9223372036854775807 := by
  rcases open_slice_pairs Try.underlying22 Try.underlying47 cells47 rfl rfl cells3 cells3 h with ⟨rfl, _⟩ | ⟨a, len, cap, m, n, V0, V1, D0, D1, P0, P1, rfl, _, hl, hm, hmm, _, hi⟩
  · exact ⟨none, 0, [], [], rfl, SlE.nil _ _ _, by simp⟩
  · simp at hmm
    subst hmm
    have hex : ∀ i, ∃ y : Ex, i < m → W.cell? (a.add (i * 2)) = some (.int .i64 y.1) ∧ W.cell? (a.add (i * 2 + 1)) = some (.int .i64 y.2) ∧ (-9223372036854775808 ≤ y.1 ∧ y.1 ≤ 9223372036854775807) := fun i => by
      by_cases hlt : i < m
      · obtain ⟨c0, c1, t0, t1⟩ := hi i hlt
        obtain ⟨z0, k0, _, w0⟩ := DataW.trod_int Try.underlying3 t0
        obtain ⟨z1, k1, _, w1⟩ := DataW.trod_int Try.underlying3 t1
        exact ⟨(z0, z1), fun _ => ⟨by rw [c0, one_of k0], by rw [c1, one_of k1], (wf_iff _).1 w0⟩⟩
      · exact ⟨(0, 0), fun h => absurd h hlt⟩
    obtain ⟨f, hf⟩ := Classical.axiomOfChoice hex
    have hall : ∀ L : List Ex, L = (List.range m).map f → L.length = m := fun L h => by rw [h]; simp
    obtain ⟨L, hL⟩ : ∃ L, L = (List.range m).map f := ⟨_, rfl⟩
    have hLl := hall L hL
    have hget : ∀ i (h : i < L.length), L[i] = f i := fun i h => by subst hL; simp
    have htl : (L.take len).length = len := by simp; omega
    by_cases hc : m = 0
    · subst hc
      obtain rfl : len = 0 := by omega
      exact ⟨some a, 0, [], [], rfl, ⟨rfl, .inr (.inl ⟨a, rfl, rfl, rfl⟩)⟩, by simp⟩
    · obtain ⟨b, off, spot⟩ := a
      have h0 := (hf 0 (by omega)).1
      have hspot : spot = none := by simpa [Addr.add] using World.cell?_spot h0
      subst hspot
      refine ⟨some ⟨b, off, none⟩, m, L.take len, flt eE (L.drop len), by rw [htl], ?_, fun x hx => ?_⟩
      · rw [htl]
        have hfl := flt_length encE L
        refine ⟨by rw [flt_length encE, htl], .inr (.inr ⟨b, off, m, by rw [htl], by omega, hm, ?_, fun i u hu => ?_⟩)⟩
        · rw [← flt_append, List.take_append_drop, hfl, hLl]
        · rw [← flt_append, List.take_append_drop] at hu
          have hi2 : i < L.length * 2 := by
            rcases Nat.lt_or_ge i (L.length * 2) with h | h
            · exact h
            · rw [List.getElem?_eq_none (by rw [hfl]; exact h)] at hu; cases hu
          have hq : i / 2 < L.length := by omega
          obtain ⟨c0, c1, _⟩ := hf (i / 2) (by omega)
          by_cases h2 : i % 2 = 0
          · have e : i / 2 * 2 = i := by omega
            have g := flt_get encE L (i / 2) hq 0 (by omega)
            rw [Nat.add_zero, e] at g
            rw [e] at c0
            rw [g] at hu
            simp only [eE, List.getElem?_cons_zero, Option.some.injEq] at hu
            subst hu
            rw [add_plain] at c0
            rw [c0, hget]
          · have e : i / 2 * 2 + 1 = i := by omega
            have g := flt_get encE L (i / 2) hq 1 (by omega)
            rw [e] at g c1
            rw [g] at hu
            simp only [eE, List.getElem?_cons_succ, List.getElem?_cons_zero, Option.some.injEq] at hu
            subst hu
            rw [add_plain] at c1
            rw [c1, hget]
      · obtain ⟨i, hi', rfl⟩ := List.getElem_of_mem (List.mem_of_mem_take hx)
        rw [hget]
        exact (hf i (by omega)).2.2
theorem sli_of_trod {H : Type} {enc : TypeId × Value → H} {W : World} {fuel : Nat} {cs : List Value} {x : DataW H × List MemPlace} (h : DataW.trod enc Try.prog W 0 (fun _ => true) true fuel 23 cs = some x) :
    ∃ a cap l sp, cs = [.slice a (l : List Int).length cap] ∧ SlI W (.slice a l.length cap) l sp := by
  rcases open_ints Try.underlying23 Try.underlying3 cells3 h with ⟨rfl, _⟩ | ⟨a, len, cap, zs, rfl, _, hl, hm, hz, _, hcell, hwz⟩
  · exact ⟨none, 0, [], [], rfl, SlE.nil _ _ _⟩
  · have hzl : zs.length = cap := by simpa using hz
    have hlen : (zs.take len).length = len := by simp; omega
    by_cases hc : cap = 0
    · subst hc
      obtain rfl : len = 0 := by omega
      exact ⟨some a, 0, [], [], rfl, ⟨rfl, .inr (.inl ⟨a, rfl, rfl, rfl⟩)⟩⟩
    · obtain ⟨b, off, spot⟩ := a
      have h0 := hcell 0 (by omega)
      have hspot : spot = none := by simpa [Addr.add] using World.cell?_spot h0
      subst hspot
      have hfl := flt_length encI zs
      refine ⟨some ⟨b, off, none⟩, cap, zs.take len, flt iE (zs.drop len), by rw [hlen], ?_⟩
      rw [hlen]
      refine ⟨by rw [flt_length encI, hlen], .inr (.inr ⟨b, off, cap, by rw [hlen], by omega, hm, ?_, fun i u hu => ?_⟩)⟩
      · rw [← flt_append, List.take_append_drop, hfl, hzl]
      · rw [← flt_append, List.take_append_drop] at hu
        have hi : i < zs.length := by
          rcases Nat.lt_or_ge i zs.length with h | h
          · exact h
          · rw [List.getElem?_eq_none (by rw [hfl]; omega)] at hu; cases hu
        have := hcell i hi
        rw [add_plain] at this
        rw [this]
        rw [flt_iE, List.getElem?_map, List.getElem?_eq_getElem hi] at hu
        simp at hu
        rw [← hu]
        simp [List.getD, List.getElem?_eq_getElem hi]
end Go.Proofs.Ytgbgpmdhlocjhaa
