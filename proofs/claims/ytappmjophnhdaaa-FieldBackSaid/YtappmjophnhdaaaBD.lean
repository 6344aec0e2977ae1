/-
  What a list of acts that came in reads as, with the bounds of its numbers, and the walk of FieldFirst where one list is long; no conditions but those that each theorem names.
-/
import Derived.Test.YtappmjophnhdaaaBC
import Derived.Test.YtappmjophnhdaaaAF
namespace Go.Proofs.Ytappmjophnhdaaa
open Go.RowKit Go.ChangeShapes Go.WideShapes Go.Deep
set_option linter.unusedVariables false
set_option linter.unusedSimpArgs false

theorem acts_of_trod2 {H : Type} {enc : TypeId × Value → H} {W : World} {fuel : Nat} {cs : List Value} {x : DataW H × List MemPlace} (h : DataW.trod enc Try.prog W 0 (fun _ => true) true fuel 22 cs = some x) :
    ∃ val xs, cs = [val] ∧ Acts W.heap.size W val xs ∧ ∀ x ∈ xs, -9223372036854775808 ≤ x.n ∧ -9223372036854775808 ≤ x.size ∧ x.size ≤ 9223372036854775807 := by
  rcases open_slice Try.underlying22 h with ⟨rfl, _⟩ | ⟨a, len, cap, m, n, D, Pl, rfl, _, hl, hm, hmm, _, hi⟩
  · exact ⟨.slice none 0 0, [], rfl, ⟨⟨_, _, rfl⟩, by simp, fun k hk => by simp at hk⟩, fun x hx => by cases hx⟩
  · simp at hmm
    subst hmm
    rw [cells34] at hi
    have hex : ∀ i, i < len → ∃ y : Act0, ∃ a' c msp, W.cell? (a.add (i * 5 + 0)) = some (.int .i64 y.kind) ∧ W.cell? (a.add (i * 5 + 1)) = some (.int .i64 y.n) ∧ W.cell? (a.add (i * 5 + 2)) = some (.int .i64 y.size) ∧
        W.cell? (a.add (i * 5 + 3)) = some (.string y.s) ∧ W.cell? (a.add (i * 5 + 4)) = some (.slice a' y.m.length c) ∧ SlB W (.slice a' y.m.length c) y.m msp ∧ (∀ k ∈ blkR (.slice a' y.m.length c), k < W.heap.size) ∧ y.n ≤ 9223372036854775807 ∧ (-9223372036854775808 ≤ y.n ∧ -9223372036854775808 ≤ y.size ∧ y.size ≤ 9223372036854775807) := by
      intro i hlt
      obtain ⟨cs', h1, h2⟩ := hi i (by omega)
      obtain ⟨_, hlen, hcell⟩ := World.cells?_some h1
      obtain ⟨ys, n', rfl, _, _, hys, hf⟩ := DataW.trod_struct Try.underlying34 h2
      have e0 := hf 0 _ rfl
      have e1 := hf 1 _ rfl
      have e2 := hf 2 _ rfl
      have e3 := hf 3 _ rfl
      have e4 := hf 4 _ rfl
      have hy : ∀ j, j < 5 → ∃ y, ys[j]? = some y := fun j hj => ⟨_, List.getElem?_eq_getElem (by rw [hys]; exact hj)⟩
      obtain ⟨y0, g0⟩ := hy 0 (by omega)
      obtain ⟨y1, g1⟩ := hy 1 (by omega)
      obtain ⟨y2, g2⟩ := hy 2 (by omega)
      obtain ⟨y3, g3⟩ := hy 3 (by omega)
      obtain ⟨y4, g4⟩ := hy 4 (by omega)
      rw [g0] at e0
      rw [g1] at e1
      rw [g2] at e2
      rw [g3] at e3
      rw [g4] at e4
      obtain ⟨z0, k0, _, _⟩ := DataW.trod_int Try.underlying3 e0
      obtain ⟨z1, k1, _, w1⟩ := DataW.trod_int Try.underlying3 e1
      obtain ⟨z2, k2, _, w2⟩ := DataW.trod_int Try.underlying3 e2
      obtain ⟨z3, k3, _, _⟩ := DataW.trod_string Try.underlying9 e3
      obtain ⟨a4, c4, l4, s4, k4, hS, hB⟩ := slb_of_trod e4
      have k0 : List.take (Try.prog.cellsOf 3) (List.drop 0 cs') = [.int .i64 z0] := k0
      have k1 : List.take (Try.prog.cellsOf 3) (List.drop 1 cs') = [.int .i64 z1] := k1
      have k2 : List.take (Try.prog.cellsOf 3) (List.drop 2 cs') = [.int .i64 z2] := k2
      have k3 : List.take (Try.prog.cellsOf 9) (List.drop 3 cs') = [.string z3] := k3
      have k4 : List.take (Try.prog.cellsOf 26) (List.drop 4 cs') = [.slice a4 l4.length c4] := k4
      rw [cells3] at k0 k1 k2
      rw [cells9] at k3
      rw [cells26] at k4
      refine ⟨⟨z0, z1, z2, z3, l4⟩, a4, c4, s4, ?_, ?_, ?_, ?_, ?_, hS, hB, ?_, (bounds_i64 w1).1, bounds_i64 w2⟩
      · have := hcell 0 (by omega); rw [one_of k0] at this; simpa [Addr.add_add] using this
      · have := hcell 1 (by omega); rw [one_of k1] at this; simpa [Addr.add_add] using this
      · have := hcell 2 (by omega); rw [one_of k2] at this; simpa [Addr.add_add] using this
      · have := hcell 3 (by omega); rw [one_of k3] at this; simpa [Addr.add_add] using this
      · have := hcell 4 (by omega); rw [one_of k4] at this; simpa [Addr.add_add] using this
      · exact (bounds_i64 w1).2
    obtain ⟨xs, h1, h2⟩ := choose_act len hex
    subst h1
    refine ⟨_, xs, rfl, ⟨⟨_, _, rfl⟩, by simp [maxLen] at hm; omega, fun k hk => ?_⟩, fun x hx => ?_⟩
    rotate_left
    · obtain ⟨k, hk, rfl⟩ := List.getElem_of_mem hx
      obtain ⟨_, _, _, _, _, _, _, _, _, _, _, hh⟩ := h2 k hk
      exact hh
    obtain ⟨b, off, spot⟩ := a
    obtain ⟨_, _, _, z0, _⟩ := h2 0 (by omega)
    have hspot : spot = none := by simpa [Addr.add] using World.cell?_spot z0
    subst hspot
    obtain ⟨a', c, msp, q0, q1, q2, q3, q4, hS, hB, hn, _⟩ := h2 k hk
    rw [add_plain] at q0 q1 q2 q3 q4
    have hb := World.block_lt_of_cell? W _ q0
    exact ⟨b, off, a', c, msp, ⟨_, rfl⟩, hb, q0, q1, q2, q3, q4, hS, hB, hn⟩
set_option maxRecDepth 100000 in
set_option maxHeartbeats 2000000 in
theorem first_long (val val2 : Value) (which : Int) (xs ys : List Act0) (w : World) (hA : Acts w.heap.size w val xs) (hB : Acts w.heap.size w val2 ys) (h : longB xs = true ∨ longB xs = false ∧ longB ys = true) :
    Calls Try.prog 9 #[val, .int .i64 which, val2] w fun r w' => YesF w r w' := by
  obtain ⟨a, cap, hval⟩ := hA.form
  subst hval
  obtain ⟨a2, cap2, hval2⟩ := hB.form
  subst hval2
  have HA := Lib.hid hA
  have HB := Lib.hid hB
  have HH := Lib.hid h
  clear hA hB h
  go_enter Try.func9, Try.ntmps9
  go_wp2_with fail
  refine (awake_any _).mono ?_
  rintro r wa ⟨rfl, fa⟩
  go_wp2_with fail
  refine (long_any w.heap.size _ xs _ (HA.out.keep fa)).mono ?_
  rcases HH.out with h1 | ⟨h1, h2⟩
  · rw [h1]
    rintro r w0 ⟨rfl, hw0⟩
    subst hw0
    clear h1
    go_wp2_with fail
    refine bodyPost_ret (results_tmp rfl _ _ _) rfl ?_
    exact ⟨rfl, fa⟩
  · rw [h1]
    rintro r w0 ⟨rfl, hw0⟩
    subst hw0
    have L2 := Lib.hid h2
    clear h1 h2
    go_wp2_with fail
    refine (long_any w.heap.size _ ys _ (HB.out.keep fa)).mono ?_
    rw [L2.out]
    rintro r w0' ⟨rfl, hw0'⟩
    subst hw0'
    go_wp2_with fail
    refine bodyPost_ret (results_tmp rfl _ _ _) rfl ?_
    exact ⟨rfl, fa⟩
theorem first_all (val val2 : Value) (which : Int) (xs ys : List Act0) (w : World) (hA : Acts w.heap.size w val xs) (hB : Acts w.heap.size w val2 ys)
    (hx : -9223372036854775808 ≤ which) (hx2 : which ≤ 9223372036854775807) (hxs : ∀ x ∈ xs, -9223372036854775808 ≤ x.n ∧ -9223372036854775808 ≤ x.size ∧ x.size ≤ 9223372036854775807) :
    Calls Try.prog 9 #[val, .int .i64 which, val2] w fun r w' => YesF w r w' := by
  cases h : longB xs with
  | true => exact first_long val val2 which xs ys w hA hB (.inl h)
  | false =>
    cases h2 : longB ys with
    | true => exact first_long val val2 which xs ys w hA hB (.inr ⟨h, h2⟩)
    | false => exact first_short val val2 which xs ys w hA hB h h2 hx hx2 hxs
end Go.Proofs.Ytappmjophnhdaaa
