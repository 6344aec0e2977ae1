/-
  What a row's own reading gives the walks: slices of numbers and of bools. No conditions but those that each theorem names.
-/
import Derived.Test.YtojchfpfemofkaaX0
import Derived.Deep.Slices
import Derived.ChangeSame
namespace Go.Proofs.Ytojchfpfemofkaa
open Go.RowKit Go.ChangeShapes Go.WideShapes Go.Deep
set_option linter.unusedVariables false
set_option linter.unusedSimpArgs false

theorem own : ownKnob Try.prog.godebug = none := by kernel_rfl
theorem laidOut : laidOutB Try.prog = true := by kernel_rfl
theorem cells4 : Try.prog.cellsOf 4 = 1 := by kernel_rfl
theorem cells3 : Try.prog.cellsOf 3 = 1 := by kernel_rfl
theorem wf_iff (n : Int) : (Lit.int .i64 n).wf = true ↔ (-9223372036854775808 ≤ n ∧ n ≤ 9223372036854775807) := by
  simp [Lit.wf, IntKind.min, IntKind.max, IntKind.bits, IntKind.signed]
theorem one_of {v u : Value} (h : [v] = [u]) : v = u := by simpa using h
theorem sli_of_trod {H : Type} {enc : TypeId × Value → H} {W : World} {fuel : Nat} {cs : List Value} {x : DataW H × List MemPlace} (h : DataW.trod enc Try.prog W 0 (fun _ => true) true fuel 22 cs = some x) :
    ∃ a cap l sp, cs = [.slice a (l : List Int).length cap] ∧ SlI W (.slice a l.length cap) l sp := by
  rcases open_ints Try.underlying22 Try.underlying3 cells3 h with ⟨rfl, _⟩ | ⟨a, len, cap, zs, rfl, _, hl, hm, hz, _, hcell, hwz⟩
  · exact ⟨none, 0, [], [], rfl, SlE.nil _ _ _⟩
  · have hzl : zs.length = cap := by simpa using hz
    have hlen : (zs.take len).length = len := by simp; omega
    by_cases hc : cap = 0
    · subst hc
      obtain rfl : len = 0 := by omega
      exact ⟨some a, 0, [], [], rfl, ⟨rfl, .inr (.inl ⟨a, rfl, rfl, rfl⟩)⟩⟩
    · obtain ⟨b, off, spot⟩ := a
      have h0 := hcell 0 (by omega)
      have hspot : spot = none := by simpa [Addr.add] using World.cell?_spot h0
      subst hspot
      have hfl := flt_length encI zs
      refine ⟨some ⟨b, off, none⟩, cap, zs.take len, flt iE (zs.drop len), by rw [hlen], ?_⟩
      rw [hlen]
      refine ⟨by rw [flt_length encI, hlen], .inr (.inr ⟨b, off, cap, by rw [hlen], by omega, hm, ?_, fun i u hu => ?_⟩)⟩
      · rw [← flt_append, List.take_append_drop, hfl, hzl]
      · rw [← flt_append, List.take_append_drop] at hu
        have hi : i < zs.length := by
          rcases Nat.lt_or_ge i zs.length with h | h
          · exact h
          · rw [List.getElem?_eq_none (by rw [hfl]; omega)] at hu; cases hu
        have := hcell i hi
        rw [add_plain] at this
        rw [this]
        rw [flt_iE, List.getElem?_map, List.getElem?_eq_getElem hi] at hu
        simp at hu
        rw [← hu]
        simp [List.getD, List.getElem?_eq_getElem hi]
theorem slo_of_trod {H : Type} {enc : TypeId × Value → H} {W : World} {fuel : Nat} {cs : List Value} {x : DataW H × List MemPlace} (h : DataW.trod enc Try.prog W 0 (fun _ => true) true fuel 23 cs = some x) :
    ∃ a cap l sp, cs = [.slice a (l : List Bool).length cap] ∧ SlO W (.slice a l.length cap) l sp := by
  rcases open_slice1 Try.underlying23 cells4 h with ⟨rfl, _⟩ | ⟨a, len, cap, m, n, V, D, Pl, rfl, _, hl, hm, hmm, _, hi⟩
  · exact ⟨none, 0, [], [], rfl, SlE.nil _ _ _⟩
  · simp at hmm
    subst hmm
    have hex : ∀ i, ∃ y : Bool, i < m → W.cell? (a.add i) = some (.bool y) := fun i => by
      by_cases hlt : i < m
      · obtain ⟨c0, t0⟩ := hi i hlt
        obtain ⟨z0, k0, _⟩ := DataW.trod_bool Try.underlying4 t0
        exact ⟨z0, fun _ => by rw [c0, one_of k0]⟩
      · exact ⟨false, fun h => absurd h hlt⟩
    obtain ⟨f, hf⟩ := Classical.axiomOfChoice hex
    obtain ⟨L, hL⟩ : ∃ L, L = (List.range m).map f := ⟨_, rfl⟩
    have hLl : L.length = m := by rw [hL]; simp
    have hget : ∀ i (h : i < L.length), L[i] = f i := fun i h => by subst hL; simp
    have htl : (L.take len).length = len := by simp; omega
    by_cases hc : m = 0
    · subst hc
      obtain rfl : len = 0 := by omega
      exact ⟨some a, 0, [], [], rfl, ⟨rfl, .inr (.inl ⟨a, rfl, rfl, rfl⟩)⟩⟩
    · obtain ⟨b, off, spot⟩ := a
      have h0 := hf 0 (by omega)
      have hspot : spot = none := by simpa [Addr.add] using World.cell?_spot h0
      subst hspot
      have hfl := flt_length encB L
      refine ⟨some ⟨b, off, none⟩, m, L.take len, flt bE (L.drop len), by rw [htl], ?_⟩
      rw [htl]
      refine ⟨by rw [flt_length encB, htl], .inr (.inr ⟨b, off, m, by rw [htl], by omega, hm, ?_, fun i u hu => ?_⟩)⟩
      · rw [← flt_append, List.take_append_drop, hfl, hLl]
      · rw [← flt_append, List.take_append_drop] at hu
        have hi : i < L.length := by
          rcases Nat.lt_or_ge i L.length with h | h
          · exact h
          · rw [List.getElem?_eq_none (by rw [hfl]; omega)] at hu; cases hu
        have := hf i (by omega)
        rw [add_plain] at this
        rw [this]
        rw [flt_bE, List.getElem?_map, List.getElem?_eq_getElem hi] at hu
        simp at hu
        rw [← hu, hget]
end Go.Proofs.Ytojchfpfemofkaa
