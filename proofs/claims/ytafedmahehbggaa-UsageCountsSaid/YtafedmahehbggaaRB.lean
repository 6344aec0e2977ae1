/-
  What a row's own reading gives the walks: lists of addresses, numbers. No conditions but those that each theorem names.
-/
import Derived.Test.YtafedmahehbggaaVD
import Derived.Test.YtafedmahehbggaaRA
import Derived.Deep.Slices
namespace Go.Proofs.Ytafedmahehbggaa
open Go.RowKit Go.Sort Go.Maps
set_option linter.unusedVariables false
set_option linter.unusedSimpArgs false
set_option maxRecDepth 100000

open Kr (OwnE SlE Enco RowTys)
open Kr (flt_length flt_append flt_get)
open Go.ChangeShapes Go.WideShapes Go.Deep
theorem own : ownKnob Try.prog.godebug = none := by kernel_rfl
theorem laidOut : laidOutB Try.prog = true := by kernel_rfl
theorem sle_of_trod {α H : Type} {en : α → List Value} {k : Nat} {Wf : α → Prop} (E : Enco en k) {t e : TypeId} (y0 : α)
    {enc : TypeId × Value → H} {W : World} {fuel : Nat} {cs : List Value} {x : DataW H × List MemPlace}
    (ht : Try.prog.underlying t = some (.slice e)) (hk : Try.prog.cellsOf e = k)
    (hd : ∀ (fuel : Nat) cs x, DataW.trod enc Try.prog W 0 (fun _ => true) true fuel e cs = some x → ∃ y : α, cs = en y ∧ Wf y)
    (h : DataW.trod enc Try.prog W 0 (fun _ => true) true fuel t cs = some x) :
    ∃ a cap l sp, cs = [.slice a (l : List α).length cap] ∧ SlE en k W (.slice a l.length cap) l sp ∧ ∀ x ∈ l, Wf x := by
  rcases open_slice ht h with ⟨rfl, _⟩ | ⟨a, len, cap, m, n, D, Pl, rfl, _, hl, hm, hmm, _, hi⟩
  · exact ⟨none, 0, [], [], rfl, SlE.nil _ _ _, by simp⟩
  · simp at hmm
    subst hmm
    rw [hk] at hi
    have hex : ∀ i, ∃ y : α, i < m → (∀ j, j < k → W.cell? ((a.add (i * k)).add j) = (en y)[j]?) ∧ Wf y := fun i => by
      by_cases hlt : i < m
      · obtain ⟨cs', h1, h2⟩ := hi i hlt
        obtain ⟨y, rfl, hw⟩ := hd _ _ _ h2
        exact ⟨y, fun _ => ⟨(World.cells?_some h1).2.2, hw⟩⟩
      · exact ⟨y0, fun h => absurd h hlt⟩
    obtain ⟨f, hf⟩ := Classical.axiomOfChoice hex
    obtain ⟨L, hL⟩ : ∃ L, L = (List.range m).map f := ⟨_, rfl⟩
    have hLl : L.length = m := by rw [hL]; simp
    have hget : ∀ i (h : i < L.length), L[i] = f i := fun i h => by subst hL; simp
    have htl : (L.take len).length = len := by simp; omega
    have hw : ∀ x ∈ L.take len, Wf x := fun x hx => by
      obtain ⟨i, hi', rfl⟩ := List.getElem_of_mem (List.mem_of_mem_take hx)
      rw [hget]
      exact (hf i (by omega)).2
    by_cases hc : m = 0
    · subst hc
      obtain rfl : len = 0 := by omega
      exact ⟨some a, 0, [], [], rfl, ⟨by rw [flt_length E], .inr (.inl ⟨a, rfl, rfl, rfl⟩)⟩, by simp⟩
    · obtain ⟨b, off, spot⟩ := a
      have h0 := (hf 0 (by omega)).1 0 E.pos
      have hl0 : 0 < (en (f 0)).length := by rw [E.len]; exact E.pos
      rw [List.getElem?_eq_getElem hl0] at h0
      have hspot : spot = none := by simpa [Addr.add] using World.cell?_spot h0
      subst hspot
      have hfl := flt_length E L
      refine ⟨some ⟨b, off, none⟩, m, L.take len, Kr.flt en (L.drop len), by rw [htl], ?_, hw⟩
      rw [htl]
      refine ⟨by rw [flt_length E, htl], .inr (.inr ⟨b, off, m, by rw [htl], by omega, hm, ?_, fun i u hu => ?_⟩)⟩
      · rw [← flt_append, List.take_append_drop, hfl, hLl]
      · rw [← flt_append, List.take_append_drop] at hu
        have hi2 : i < L.length * k := by
          rcases Nat.lt_or_ge i (L.length * k) with h | h
          · exact h
          · rw [List.getElem?_eq_none (by rw [hfl]; exact h)] at hu; cases hu
        have hq : i / k < L.length := Nat.div_lt_of_lt_mul (by rw [Nat.mul_comm]; exact hi2)
        have hr : i % k < k := Nat.mod_lt _ E.pos
        have e : i / k * k + i % k = i := Nat.div_add_mod' i k
        have g := flt_get E L (i / k) hq (i % k) hr
        rw [e] at g
        rw [g, hget] at hu
        have c := (hf (i / k) (by omega)).1 (i % k) hr
        rw [add_plain, add_plain, Nat.add_assoc, e] at c
        rw [c, hu]

theorem open_ls {H : Type} {enc : TypeId × Value → H} {W : World} {r : Reach} {b0 : Nat} {v : Value} {d : DataW H} {p : List MemPlace} (hv : Value.okWide Try.prog W r b0 22 v) (h : DataW.Trod enc Try.prog W 0 (fun _ => true) true 22 v d p) :
    ∃ L, LsA W v L ∧ ∀ l ∈ L, ∀ x ∈ l, WfA x := by
  obtain ⟨a, len, cap, rfl⟩ := okWide_slice Try.underlying22 hv
  obtain ⟨fuel, hf⟩ := h
  obtain ⟨a', c', cs, sp, e, hS, hw⟩ := sle_of_trod (α := CelT) (en := eC) (k := 1) (Wf := fun c => ∃ b s, SlA W c.1 b s ∧ ∀ x ∈ b, WfA x) encC ⟨.slice none 0 0, rfl⟩ Try.underlying22 (by kernel_rfl) (fun fuel cs x h => by
    obtain ⟨a', c', l, sp, e, hS, hx⟩ := sla_of_trod h
    exact ⟨⟨.slice a' l.length c', rfl⟩, e, l, sp, hS, hx⟩) hf
  simp [Value.cells] at e
  obtain ⟨rfl, rfl, rfl⟩ := e
  have hex : ∀ c : CelT, ∃ b, (∃ s, SlA W c.1 b s ∧ ∀ x ∈ b, WfA x) ∨ ¬ ∃ b s, SlA W c.1 b s ∧ ∀ x ∈ b, WfA x := fun c => by
    by_cases hc : ∃ b s, SlA W c.1 b s ∧ ∀ x ∈ b, WfA x
    · obtain ⟨b, s, h⟩ := hc; exact ⟨b, .inl ⟨s, h⟩⟩
    · exact ⟨[], .inr hc⟩
  obtain ⟨f, hf⟩ := Classical.axiomOfChoice hex
  have key : ∀ c ∈ cs, ∃ s, SlA W c.1 (f c) s ∧ ∀ x ∈ f c, WfA x := fun c hc => by
    rcases hf c with q | q
    · exact q
    · exact absurd (hw c hc) q
  refine ⟨cs.map f, ⟨cs, sp, by simpa using hS, by simp, fun i c b h1 h2 => ?_⟩, fun l hl => ?_⟩
  · rw [List.getElem?_map, h1] at h2
    simp at h2
    subst h2
    obtain ⟨s, h, _⟩ := key c (List.mem_of_getElem? h1)
    exact ⟨s, h⟩
  · obtain ⟨c, hc, rfl⟩ := List.mem_map.1 hl
    obtain ⟨s, _, h⟩ := key c hc
    exact h
theorem open_is {H : Type} {enc : TypeId × Value → H} {W : World} {r : Reach} {b0 : Nat} {v : Value} {d : DataW H} {p : List MemPlace} (hv : Value.okWide Try.prog W r b0 23 v) (h : DataW.Trod enc Try.prog W 0 (fun _ => true) true 23 v d p) :
    ∃ s sp, SlI W v s sp ∧ ∀ z ∈ s, -9223372036854775808 ≤ z ∧ z ≤ 9223372036854775807 := by
  obtain ⟨a, len, cap, rfl⟩ := okWide_slice Try.underlying23 hv
  obtain ⟨fuel, hf⟩ := h
  obtain ⟨a', c', cs, sp, e, hS, hw⟩ := sle_of_trod (α := Int) (en := iE) (k := 1) (Wf := fun z => -9223372036854775808 ≤ z ∧ z ≤ 9223372036854775807) encI 0 Try.underlying23 cells3 (fun fuel cs x h => by
    obtain ⟨z, e, _, hw⟩ := DataW.trod_int Try.underlying3 h
    exact ⟨z, e, (wf_iff z).1 hw⟩) hf
  simp [Value.cells] at e
  obtain ⟨rfl, rfl, rfl⟩ := e
  exact ⟨cs, sp, hS, hw⟩
end Go.Proofs.Ytafedmahehbggaa
