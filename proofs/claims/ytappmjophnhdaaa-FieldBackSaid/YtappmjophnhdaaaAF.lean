/-
  What a list of acts that came in reads as is a list of acts that can be read, all of it below the heap's end; no conditions.
-/
import Derived.Test.YtappmjophnhdaaaAD
import Derived.ProofKit
import Derived.OpenShut
import Derived.ShutString
import Derived.ChangeOld
import Derived.Deep.Slices
import Derived.Lib.SmallJoins
namespace Go.Proofs.Ytappmjophnhdaaa
open Go.RowKit Go.ChangeShapes Go.WideShapes Go.Deep
set_option linter.unusedVariables false
set_option linter.unusedSimpArgs false

theorem cells5 : Try.prog.cellsOf 5 = 1 := by kernel_rfl
theorem cells34 : Try.prog.cellsOf 34 = 5 := by kernel_rfl
theorem cells3 : Try.prog.cellsOf 3 = 1 := by kernel_rfl
theorem cells9 : Try.prog.cellsOf 9 = 1 := by kernel_rfl
theorem cells26 : Try.prog.cellsOf 26 = 1 := by kernel_rfl
/-- Numbers that fit a byte, as bytes. -/
def asBytes (zs : List Int) : List UInt8 := zs.map fun n => UInt8.ofNat n.toNat
theorem bvs_asBytes {zs : List Int} (h : ∀ n ∈ zs, (Lit.int .u8 n).wf = true) : bvs (asBytes zs) = zs.map (Value.int .u8) := by
  unfold bvs asBytes
  rw [List.map_map]
  refine List.map_congr_left fun n hn => ?_
  have := bounds_u8 (h n hn)
  simp [bv]
  omega
theorem slb_of_trod {H : Type} {enc : TypeId × Value → H} {W : World} {fuel : Nat} {cs : List Value} {x : DataW H × List MemPlace} (h : DataW.trod enc Try.prog W 0 (fun _ => true) true fuel 26 cs = some x) :
    ∃ a cap l sp, cs = [.slice a (l : List UInt8).length cap] ∧ SlB W (.slice a l.length cap) l sp ∧ ∀ k ∈ blkR (.slice a l.length cap), k < W.heap.size := by
  rcases open_ints Try.underlying26 Try.underlying5 cells5 h with ⟨rfl, _⟩ | ⟨a, len, cap, zs, rfl, _, hl, hm, hz, _, hcell, hwz⟩
  · exact ⟨none, 0, [], [], rfl, SlB.nil _, by simp [blkR]⟩
  · have hzl : zs.length = cap := by simpa using hz
    have hlen : ((asBytes zs).take len).length = len := by simp [asBytes]; omega
    by_cases hc : cap = 0
    · subst hc
      obtain rfl : len = 0 := by omega
      exact ⟨some a, 0, [], [], rfl, ⟨rfl, .inr (.inl ⟨a, rfl, rfl, rfl⟩)⟩, by simp [blkR]⟩
    · obtain ⟨b, off, spot⟩ := a
      have h0 := hcell 0 (by omega)
      have hspot : spot = none := by simpa [Addr.add] using World.cell?_spot h0
      subst hspot
      refine ⟨some ⟨b, off, none⟩, cap, (asBytes zs).take len, (asBytes zs).drop len, by rw [hlen], ?_, ?_⟩
      · rw [hlen]
        refine ⟨by simp [bvs_length, hlen], .inr (.inr ⟨b, off, cap, by rw [hlen], by omega, hm, ?_, fun i u hu => ?_⟩)⟩
        · rw [← bvs_append, List.take_append_drop]; simp [bvs_length, asBytes, hzl]
        · rw [← bvs_append, List.take_append_drop, bvs_asBytes hwz] at hu
          have hi : i < zs.length := by
            rcases Nat.lt_or_ge i zs.length with h | h
            · exact h
            · rw [List.getElem?_eq_none (by simpa using h)] at hu; cases hu
          have := hcell i hi
          rw [add_plain] at this
          rw [this]
          rw [List.getElem?_map, List.getElem?_eq_getElem hi] at hu
          simp at hu
          rw [← hu]
          simp [List.getD, List.getElem?_eq_getElem hi]
      · intro k hk
        simp [blkR, hc] at hk
        subst hk
        rw [add_plain] at h0
        exact World.block_lt_of_cell? W _ h0
theorem one_of {α : Type} {l : List α} {o : Nat} {v : α} (h : (l.drop o).take 1 = [v]) : l[o]? = some v := by
  have := congrArg (fun z => z[0]?) h
  simpa [List.getElem?_take, List.getElem?_drop] using this
theorem choose_act {p : Nat → Act0 → Prop} : ∀ (n : Nat), (∀ i, i < n → ∃ x, p i x) → ∃ xs : List Act0, xs.length = n ∧ ∀ i (hi : i < xs.length), p i xs[i]
  | 0, _ => ⟨[], rfl, fun i hi => by simp at hi⟩
  | n + 1, h => by
    obtain ⟨xs, h1, h2⟩ := choose_act n (fun i hi => h i (by omega))
    obtain ⟨x, hx⟩ := h n (by omega)
    refine ⟨xs ++ [x], by simp [h1], fun i hi => ?_⟩
    rcases Nat.lt_or_ge i xs.length with hl | hl
    · rw [List.getElem_append_left hl]; exact h2 i hl
    · obtain rfl : i = xs.length := by simp at hi; omega
      rw [List.getElem_append_right (Nat.le_refl _)]
      simpa [h1] using hx
theorem acts_of_trod {H : Type} {enc : TypeId × Value → H} {W : World} {fuel : Nat} {cs : List Value} {x : DataW H × List MemPlace} (h : DataW.trod enc Try.prog W 0 (fun _ => true) true fuel 22 cs = some x) :
    ∃ val xs, cs = [val] ∧ Acts W.heap.size W val xs := by
  rcases open_slice Try.underlying22 h with ⟨rfl, _⟩ | ⟨a, len, cap, m, n, D, Pl, rfl, _, hl, hm, hmm, _, hi⟩
  · exact ⟨.slice none 0 0, [], rfl, ⟨⟨_, _, rfl⟩, by simp, fun k hk => by simp at hk⟩⟩
  · simp at hmm
    subst hmm
    rw [cells34] at hi
    have hex : ∀ i, i < len → ∃ y : Act0, ∃ a' c msp, W.cell? (a.add (i * 5 + 0)) = some (.int .i64 y.kind) ∧ W.cell? (a.add (i * 5 + 1)) = some (.int .i64 y.n) ∧ W.cell? (a.add (i * 5 + 2)) = some (.int .i64 y.size) ∧
        W.cell? (a.add (i * 5 + 3)) = some (.string y.s) ∧ W.cell? (a.add (i * 5 + 4)) = some (.slice a' y.m.length c) ∧ SlB W (.slice a' y.m.length c) y.m msp ∧ (∀ k ∈ blkR (.slice a' y.m.length c), k < W.heap.size) ∧ y.n ≤ 9223372036854775807 := by
      intro i hlt
      obtain ⟨cs', h1, h2⟩ := hi i (by omega)
      obtain ⟨_, hlen, hcell⟩ := World.cells?_some h1
      obtain ⟨ys, n', rfl, _, _, hys, hf⟩ := DataW.trod_struct Try.underlying34 h2
      have e0 := hf 0 _ rfl
      have e1 := hf 1 _ rfl
      have e2 := hf 2 _ rfl
      have e3 := hf 3 _ rfl
      have e4 := hf 4 _ rfl
      have hy : ∀ j, j < 5 → ∃ y, ys[j]? = some y := fun j hj => ⟨_, List.getElem?_eq_getElem (by rw [hys]; exact hj)⟩
      obtain ⟨y0, g0⟩ := hy 0 (by omega)
      obtain ⟨y1, g1⟩ := hy 1 (by omega)
      obtain ⟨y2, g2⟩ := hy 2 (by omega)
      obtain ⟨y3, g3⟩ := hy 3 (by omega)
      obtain ⟨y4, g4⟩ := hy 4 (by omega)
      rw [g0] at e0
      rw [g1] at e1
      rw [g2] at e2
      rw [g3] at e3
      rw [g4] at e4
      obtain ⟨z0, k0, _, _⟩ := DataW.trod_int Try.underlying3 e0
      obtain ⟨z1, k1, _, w1⟩ := DataW.trod_int Try.underlying3 e1
      obtain ⟨z2, k2, _, _⟩ := DataW.trod_int Try.underlying3 e2
      obtain ⟨z3, k3, _, _⟩ := DataW.trod_string Try.underlying9 e3
      obtain ⟨a4, c4, l4, s4, k4, hS, hB⟩ := slb_of_trod e4
      have k0 : List.take (Try.prog.cellsOf 3) (List.drop 0 cs') = [.int .i64 z0] := k0
      have k1 : List.take (Try.prog.cellsOf 3) (List.drop 1 cs') = [.int .i64 z1] := k1
      have k2 : List.take (Try.prog.cellsOf 3) (List.drop 2 cs') = [.int .i64 z2] := k2
      have k3 : List.take (Try.prog.cellsOf 9) (List.drop 3 cs') = [.string z3] := k3
      have k4 : List.take (Try.prog.cellsOf 26) (List.drop 4 cs') = [.slice a4 l4.length c4] := k4
      rw [cells3] at k0 k1 k2
      rw [cells9] at k3
      rw [cells26] at k4
      refine ⟨⟨z0, z1, z2, z3, l4⟩, a4, c4, s4, ?_, ?_, ?_, ?_, ?_, hS, hB, ?_⟩
      · have := hcell 0 (by omega); rw [one_of k0] at this; simpa [Addr.add_add] using this
      · have := hcell 1 (by omega); rw [one_of k1] at this; simpa [Addr.add_add] using this
      · have := hcell 2 (by omega); rw [one_of k2] at this; simpa [Addr.add_add] using this
      · have := hcell 3 (by omega); rw [one_of k3] at this; simpa [Addr.add_add] using this
      · have := hcell 4 (by omega); rw [one_of k4] at this; simpa [Addr.add_add] using this
      · exact (bounds_i64 w1).2
    obtain ⟨xs, h1, h2⟩ := choose_act len hex
    subst h1
    refine ⟨_, xs, rfl, ⟨⟨_, _, rfl⟩, by simp [maxLen] at hm; omega, fun k hk => ?_⟩⟩
    obtain ⟨b, off, spot⟩ := a
    obtain ⟨_, _, _, z0, _⟩ := h2 0 (by omega)
    have hspot : spot = none := by simpa [Addr.add] using World.cell?_spot z0
    subst hspot
    obtain ⟨a', c, msp, q0, q1, q2, q3, q4, hS, hB, hn⟩ := h2 k hk
    rw [add_plain] at q0 q1 q2 q3 q4
    have hb := World.block_lt_of_cell? W _ q0
    exact ⟨b, off, a', c, msp, ⟨_, rfl⟩, hb, q0, q1, q2, q3, q4, hS, hB, hn⟩
end Go.Proofs.Ytappmjophnhdaaa
