/-
  What a row's own reading gives the walks: lists of bytes. No conditions but those that each theorem names. What a row's own reading gives the walks: lists of uberblocks, of bools. No conditions but those that each theorem names.
-/
import Derived.Test.YtjdejhgfkjeeiaaGreatDoorRU
import Derived.Test.YtjdejhgfkjeeiaaGreatDoorMA3
import Derived.Deep.Slices
import Derived.Test.YtjdejhgfkjeeiaaGreatDoorMA1
namespace Go.Proofs.YtjdejhgfkjeeiaaGreatDoor
open Go.RowKit
set_option linter.unusedVariables false
set_option linter.unusedSimpArgs false
set_option maxRecDepth 100000

open Kr (OwnE SlE Enco RowTys flt_length flt_append flt_get)
open Go.ChangeShapes Go.WideShapes Go.Deep
theorem sle_of_trod {α H : Type} {en : α → List Value} {k : Nat} {Wf : α → Prop} (E : Enco en k) {t e : TypeId} (y0 : α)
    {enc : TypeId × Value → H} {W : World} {fuel : Nat} {cs : List Value} {x : DataW H × List MemPlace}
    (ht : Tryz.prog.underlying t = some (.slice e)) (hk : Tryz.prog.cellsOf e = k)
    (hd : ∀ (fuel : Nat) cs x, DataW.trod enc Tryz.prog W 0 (fun _ => true) true fuel e cs = some x → ∃ y : α, cs = en y ∧ Wf y)
    (h : DataW.trod enc Tryz.prog W 0 (fun _ => true) true fuel t cs = some x) :
    ∃ a cap l sp, cs = [.slice a (l : List α).length cap] ∧ SlE en k W (.slice a l.length cap) l sp ∧ ∀ x ∈ l, Wf x := by
  rcases open_slice ht h with ⟨rfl, _⟩ | ⟨a, len, cap, m, n, D, Pl, rfl, _, hl, hm, hmm, _, hi⟩
  · exact ⟨none, 0, [], [], rfl, SlE.nil _ _ _, by simp⟩
  · simp at hmm
    subst hmm
    rw [hk] at hi
    have hex : ∀ i, ∃ y : α, i < m → (∀ j, j < k → W.cell? ((a.add (i * k)).add j) = (en y)[j]?) ∧ Wf y := fun i => by
      by_cases hlt : i < m
      · obtain ⟨cs', h1, h2⟩ := hi i hlt
        obtain ⟨y, rfl, hw⟩ := hd _ _ _ h2
        exact ⟨y, fun _ => ⟨(World.cells?_some h1).2.2, hw⟩⟩
      · exact ⟨y0, fun h => absurd h hlt⟩
    obtain ⟨f, hf⟩ := Classical.axiomOfChoice hex
    obtain ⟨L, hL⟩ : ∃ L, L = (List.range m).map f := ⟨_, rfl⟩
    have hLl : L.length = m := by rw [hL]; simp
    have hget : ∀ i (h : i < L.length), L[i] = f i := fun i h => by subst hL; simp
    have htl : (L.take len).length = len := by simp; omega
    have hw : ∀ x ∈ L.take len, Wf x := fun x hx => by
      obtain ⟨i, hi', rfl⟩ := List.getElem_of_mem (List.mem_of_mem_take hx)
      rw [hget]
      exact (hf i (by omega)).2
    by_cases hc : m = 0
    · subst hc
      obtain rfl : len = 0 := by omega
      exact ⟨some a, 0, [], [], rfl, ⟨by rw [flt_length E], .inr (.inl ⟨a, rfl, rfl, rfl⟩)⟩, by simp⟩
    · obtain ⟨b, off, spot⟩ := a
      have h0 := (hf 0 (by omega)).1 0 E.pos
      have hl0 : 0 < (en (f 0)).length := by rw [E.len]; exact E.pos
      rw [List.getElem?_eq_getElem hl0] at h0
      have hspot : spot = none := by simpa [Addr.add] using World.cell?_spot h0
      subst hspot
      have hfl := flt_length E L
      refine ⟨some ⟨b, off, none⟩, m, L.take len, Kr.flt en (L.drop len), by rw [htl], ?_, hw⟩
      rw [htl]
      refine ⟨by rw [flt_length E, htl], .inr (.inr ⟨b, off, m, by rw [htl], by omega, hm, ?_, fun i u hu => ?_⟩)⟩
      · rw [← flt_append, List.take_append_drop, hfl, hLl]
      · rw [← flt_append, List.take_append_drop] at hu
        have hi2 : i < L.length * k := by
          rcases Nat.lt_or_ge i (L.length * k) with h | h
          · exact h
          · rw [List.getElem?_eq_none (by rw [hfl]; exact h)] at hu; cases hu
        have hq : i / k < L.length := Nat.div_lt_of_lt_mul (by rw [Nat.mul_comm]; exact hi2)
        have hr : i % k < k := Nat.mod_lt _ E.pos
        have e : i / k * k + i % k = i := Nat.div_add_mod' i k
        have g := flt_get E L (i / k) hq (i % k) hr
        rw [e] at g
        rw [g, hget] at hu
        have c := (hf (i / k) (by omega)).1 (i % k) hr
        rw [add_plain, add_plain, Nat.add_assoc, e] at c
        rw [c, hu]
end Go.Proofs.YtjdejhgfkjeeiaaGreatDoor

namespace Go.Proofs.YtjdejhgfkjeeiaaGreatDoor
open Go.RowKit
set_option linter.unusedVariables false
set_option linter.unusedSimpArgs false
set_option maxRecDepth 100000

open Kr (OwnE SlE Enco RowTys flt_length flt_append flt_get)
open Go.ChangeShapes Go.WideShapes Go.Deep
noncomputable def ubOf (W : World) (r : RowT) : Ub := Classical.epsilon (h := ⟨zeroU⟩) fun u => RowV W r u
theorem ubOf_v {W : World} {r : RowT} (h : ∃ u, RowV W r u) : RowV W r (ubOf W r) := Classical.epsilon_spec h
theorem open_ubs {H : Type} {enc : TypeId × Value → H} {W : World} {r : Reach} {b0 : Nat} {v : Value} {d : DataW H} {p : List MemPlace} (hv : Value.okWide Tryz.prog W r b0 30 v) (h : DataW.Trod enc Tryz.prog W 0 (fun _ => true) true 30 v d p) :
    ∃ l : List Ub, Us W v l := by
  obtain ⟨a, len, cap, rfl⟩ := okWide_slice Tryz.underlying30 hv
  obtain ⟨fuel, hf⟩ := h
  obtain ⟨a', c', l, sp, e, hS, hw⟩ := sle_of_trod (α := RowT) (en := eR) (k := 69) (Wf := fun x => ∃ u, RowV W x u) encR (rowU nilS rfl zeroU zeroU_wf) Tryz.underlying30 cells28 (fun fuel cs x h => by
    obtain ⟨a, cap, u, sp, e, hA, hw⟩ := ub_of_trod h
    exact ⟨rowU (.slice a u.root.ads.length cap) rfl u hw, e, u, a, cap, sp, rfl, hA, hw⟩) hf
  simp [Value.cells] at e
  obtain ⟨rfl, rfl, rfl⟩ := e
  refine ⟨l.map (ubOf W), l, sp, hS, by simp, fun i r u h1 h2 => ?_⟩
  rw [List.getElem?_map, h1] at h2
  simp at h2
  subst h2
  exact ubOf_v (hw r (List.mem_of_getElem? h1))
def eBo (b : Bool) : List Value := [.bool b]
theorem encBo : Enco eBo 1 := ⟨fun _ => rfl, fun x u hu => by simp [eBo] at hu; subst hu; rfl, by omega, fun x y h => by simpa [eBo] using h⟩
theorem cells4 : Tryz.prog.cellsOf 4 = 1 := by kernel_rfl
theorem open_bools {H : Type} {enc : TypeId × Value → H} {W : World} {r : Reach} {b0 : Nat} {v : Value} {d : DataW H} {p : List MemPlace} (hv : Value.okWide Tryz.prog W r b0 71 v) (h : DataW.Trod enc Tryz.prog W 0 (fun _ => true) true 71 v d p) :
    ∃ l : List Bool, ∃ sp, SlE eBo 1 W v l sp := by
  obtain ⟨a, len, cap, rfl⟩ := okWide_slice Tryz.underlying71 hv
  obtain ⟨fuel, hf⟩ := h
  obtain ⟨a', c', l, sp, e, hS, hw⟩ := sle_of_trod (α := Bool) (en := eBo) (k := 1) (Wf := fun _ => True) encBo false Tryz.underlying71 cells4 (fun fuel cs x h => by
    obtain ⟨z, e, _⟩ := DataW.trod_bool Tryz.underlying4 h
    exact ⟨z, by rw [e]; rfl, trivial⟩) hf
  simp [Value.cells] at e
  obtain ⟨rfl, rfl, rfl⟩ := e
  exact ⟨l, sp, hS⟩
end Go.Proofs.YtjdejhgfkjeeiaaGreatDoor
