/-
  What a row's own reading gives the walks: slices of labels, of bools; LabelMost's walk in the row's order. No conditions but those that each theorem names.
-/
import Derived.Test.YtcnjjcnmjmcoiaaGreatDoorMD
import Derived.Deep.Slices
namespace Go.Proofs.YtcnjjcnmjmcoiaaGreatDoor
open Go.RowKit
set_option linter.unusedVariables false
set_option linter.unusedSimpArgs false
set_option maxRecDepth 100000

open Kr (OwnE SlE Enco RowTys flt_length flt_append flt_get)
open Go.ChangeShapes Go.WideShapes Go.Deep
theorem sle_of_trod {α H : Type} {en : α → List Value} {k : Nat} {Wf : α → Prop} (E : Enco en k) {t e : TypeId} (y0 : α)
    {enc : TypeId × Value → H} {W : World} {fuel : Nat} {cs : List Value} {x : DataW H × List MemPlace}
    (ht : Tryz.prog.underlying t = some (.slice e)) (hk : Tryz.prog.cellsOf e = k)
    (hd : ∀ (fuel : Nat) cs x, DataW.trod enc Tryz.prog W 0 (fun _ => true) true fuel e cs = some x → ∃ y : α, cs = en y ∧ Wf y)
    (h : DataW.trod enc Tryz.prog W 0 (fun _ => true) true fuel t cs = some x) :
    ∃ a cap l sp, cs = [.slice a (l : List α).length cap] ∧ SlE en k W (.slice a l.length cap) l sp ∧ ∀ x ∈ l, Wf x := by
  rcases open_slice ht h with ⟨rfl, _⟩ | ⟨a, len, cap, m, n, D, Pl, rfl, _, hl, hm, hmm, _, hi⟩
  · exact ⟨none, 0, [], [], rfl, SlE.nil _ _ _, by simp⟩
  · simp at hmm
    subst hmm
    rw [hk] at hi
    have hex : ∀ i, ∃ y : α, i < m → (∀ j, j < k → W.cell? ((a.add (i * k)).add j) = (en y)[j]?) ∧ Wf y := fun i => by
      by_cases hlt : i < m
      · obtain ⟨cs', h1, h2⟩ := hi i hlt
        obtain ⟨y, rfl, hw⟩ := hd _ _ _ h2
        exact ⟨y, fun _ => ⟨(World.cells?_some h1).2.2, hw⟩⟩
      · exact ⟨y0, fun h => absurd h hlt⟩
    obtain ⟨f, hf⟩ := Classical.axiomOfChoice hex
    obtain ⟨L, hL⟩ : ∃ L, L = (List.range m).map f := ⟨_, rfl⟩
    have hLl : L.length = m := by rw [hL]; simp
    have hget : ∀ i (h : i < L.length), L[i] = f i := fun i h => by subst hL; simp
    have htl : (L.take len).length = len := by simp; omega
    have hw : ∀ x ∈ L.take len, Wf x := fun x hx => by
      obtain ⟨i, hi', rfl⟩ := List.getElem_of_mem (List.mem_of_mem_take hx)
      rw [hget]
      exact (hf i (by omega)).2
    by_cases hc : m = 0
    · subst hc
      obtain rfl : len = 0 := by omega
      exact ⟨some a, 0, [], [], rfl, ⟨by rw [flt_length E], .inr (.inl ⟨a, rfl, rfl, rfl⟩)⟩, by simp⟩
    · obtain ⟨b, off, spot⟩ := a
      have h0 := (hf 0 (by omega)).1 0 E.pos
      have hl0 : 0 < (en (f 0)).length := by rw [E.len]; exact E.pos
      rw [List.getElem?_eq_getElem hl0] at h0
      have hspot : spot = none := by simpa [Addr.add] using World.cell?_spot h0
      subst hspot
      have hfl := flt_length E L
      refine ⟨some ⟨b, off, none⟩, m, L.take len, Kr.flt en (L.drop len), by rw [htl], ?_, hw⟩
      rw [htl]
      refine ⟨by rw [flt_length E, htl], .inr (.inr ⟨b, off, m, by rw [htl], by omega, hm, ?_, fun i u hu => ?_⟩)⟩
      · rw [← flt_append, List.take_append_drop, hfl, hLl]
      · rw [← flt_append, List.take_append_drop] at hu
        have hi2 : i < L.length * k := by
          rcases Nat.lt_or_ge i (L.length * k) with h | h
          · exact h
          · rw [List.getElem?_eq_none (by rw [hfl]; exact h)] at hu; cases hu
        have hq : i / k < L.length := Nat.div_lt_of_lt_mul (by rw [Nat.mul_comm]; exact hi2)
        have hr : i % k < k := Nat.mod_lt _ E.pos
        have e : i / k * k + i % k = i := Nat.div_add_mod' i k
        have g := flt_get E L (i / k) hq (i % k) hr
        rw [e] at g
        rw [g, hget] at hu
        have c := (hf (i / k) (by omega)).1 (i % k) hr
        rw [add_plain, add_plain, Nat.add_assoc, e] at c
        rw [c, hu]
theorem open_labs {H : Type} {enc : TypeId × Value → H} {W : World} {r : Reach} {b0 : Nat} {v : Value} {d : DataW H} {p : List MemPlace} (hv : Value.okWide Tryz.prog W r b0 34 v) (h : DataW.Trod enc Tryz.prog W 0 (fun _ => true) true 34 v d p) :
    ∃ l : List LabT, ∃ sp, SlE eL 37 W v l sp ∧ ∀ x ∈ l, WfL x.1 := by
  obtain ⟨a, len, cap, rfl⟩ := okWide_slice Tryz.underlying34 hv
  obtain ⟨fuel, hf⟩ := h
  obtain ⟨a', c', l, sp, e, hS, hw⟩ := sle_of_trod (α := LabT) (en := eL) (k := 37) (Wf := fun x => WfL x.1) encL ⟨⟨List.replicate 32 0, 0, 0, 0, 0, 0⟩, by simp⟩ Tryz.underlying34 cells28 (fun fuel cs x h => by
    obtain ⟨l, e, hw⟩ := lab_of_trod h
    exact ⟨⟨l, hw.pool⟩, e, hw⟩) hf
  simp [Value.cells] at e
  obtain ⟨rfl, rfl, rfl⟩ := e
  exact ⟨l, sp, hS, hw⟩
theorem open_bools {H : Type} {enc : TypeId × Value → H} {W : World} {r : Reach} {b0 : Nat} {v : Value} {d : DataW H} {p : List MemPlace} (hv : Value.okWide Tryz.prog W r b0 44 v) (h : DataW.Trod enc Tryz.prog W 0 (fun _ => true) true 44 v d p) :
    ∃ l : List Bool, ∃ sp, SlE eBo 1 W v l sp := by
  obtain ⟨a, len, cap, rfl⟩ := okWide_slice Tryz.underlying44 hv
  obtain ⟨fuel, hf⟩ := h
  obtain ⟨a', c', l, sp, e, hS, hw⟩ := sle_of_trod (α := Bool) (en := eBo) (k := 1) (Wf := fun _ => True) encBo false Tryz.underlying44 (by kernel_rfl) (fun fuel cs x h => by
    obtain ⟨z0, k0, _⟩ := DataW.trod_bool Tryz.underlying4 h
    exact ⟨z0, k0, trivial⟩) hf
  simp [Value.cells] at e
  obtain ⟨rfl, rfl, rfl⟩ := e
  exact ⟨l, sp, hS⟩
theorem most_row (n : Int) (l : Lab) (v : Value) (os : List LabT) (sp : List Value) (vb : Value) (bs : List Bool) (sp2 : List Value) {w : World} (hn : InI n) (hw : WfL l) (hS : SlE eL 37 w v os sp) (_ : ∀ x ∈ os, WfL x.1) (hB : SlE eBo 1 w vb bs sp2) (hG : Hs.Glob w) :
    Calls Tryz.prog 7 #[.int .i64 n, lv l, v, vb] w (Yes w) := most_law n l v vb os sp bs sp2 hn hw hS hB hG
end Go.Proofs.YtcnjjcnmjmcoiaaGreatDoor
