/-
  For all bytes and every list of asks that can be read, in every memory and in every order that Go leaves open, the law FieldReads returns true, and nothing that was there is changed. No conditions.
-/
import Derived.Test.YtappmjophnhdaaaCJ
import Derived.Test.YtappmjophnhdaaaAF
namespace Go.Proofs.Ytappmjophnhdaaa
open Go.ChangeShapes Go.WideShapes Go.ChangeAt Go.RowKit Go.Deep
set_option linter.unusedVariables false
set_option linter.unusedSimpArgs false
theorem cells48 : Try.prog.cellsOf 48 = 4 := by kernel_rfl
theorem choose_ask {p : Nat → Ask0 → Prop} : ∀ (n : Nat), (∀ i, i < n → ∃ x, p i x) → ∃ xs : List Ask0, xs.length = n ∧ ∀ i (hi : i < xs.length), p i xs[i]
  | 0, _ => ⟨[], rfl, fun i hi => by simp at hi⟩
  | n + 1, h => by
    obtain ⟨xs, h1, h2⟩ := choose_ask n (fun i hi => h i (by omega))
    obtain ⟨x, hx⟩ := h n (by omega)
    refine ⟨xs ++ [x], by simp [h1], fun i hi => ?_⟩
    rcases Nat.lt_or_ge i xs.length with hl | hl
    · rw [List.getElem_append_left hl]; exact h2 i hl
    · obtain rfl : i = xs.length := by simp at hi; omega
      rw [List.getElem_append_right (Nat.le_refl _)]
      simpa [h1] using hx
theorem asks_of_trod {H : Type} {enc : TypeId × Value → H} {W : World} {fuel : Nat} {cs : List Value} {x : DataW H × List MemPlace} (h : DataW.trod enc Try.prog W 0 (fun _ => true) true fuel 40 cs = some x) :
    ∃ val xs, cs = [val] ∧ Asks W val xs ∧ ∀ x ∈ xs, -9223372036854775808 ≤ x.size ∧ x.size ≤ 9223372036854775807 := by
  rcases open_slice Try.underlying40 h with ⟨rfl, _⟩ | ⟨a, len, cap, m, n, D, Pl, rfl, _, hl, hm, hmm, _, hi⟩
  · exact ⟨.slice none 0 0, [], rfl, ⟨⟨_, _, rfl⟩, by simp, fun k hk => by simp at hk⟩, fun x hx => by cases hx⟩
  · simp at hmm
    subst hmm
    rw [cells48] at hi
    have hex : ∀ i, i < len → ∃ y : Ask0, W.cell? (a.add (i * 4 + 0)) = some (.int .i64 y.kind) ∧ W.cell? (a.add (i * 4 + 1)) = some (.int .i64 y.size) ∧ W.cell? (a.add (i * 4 + 2)) = some (.int .i64 y.low) ∧
        W.cell? (a.add (i * 4 + 3)) = some (.int .i64 y.high) ∧ (-9223372036854775808 ≤ y.size ∧ y.size ≤ 9223372036854775807) := by
      intro i hlt
      obtain ⟨cs', h1, h2⟩ := hi i (by omega)
      obtain ⟨_, hlen, hcell⟩ := World.cells?_some h1
      obtain ⟨ys, n', rfl, _, _, hys, hf⟩ := DataW.trod_struct Try.underlying48 h2
      have e0 := hf 0 _ rfl
      have e1 := hf 1 _ rfl
      have e2 := hf 2 _ rfl
      have e3 := hf 3 _ rfl
      have hy : ∀ j, j < 4 → ∃ y, ys[j]? = some y := fun j hj => ⟨_, List.getElem?_eq_getElem (by rw [hys]; exact hj)⟩
      obtain ⟨y0, g0⟩ := hy 0 (by omega)
      obtain ⟨y1, g1⟩ := hy 1 (by omega)
      obtain ⟨y2, g2⟩ := hy 2 (by omega)
      obtain ⟨y3, g3⟩ := hy 3 (by omega)
      rw [g0] at e0
      rw [g1] at e1
      rw [g2] at e2
      rw [g3] at e3
      obtain ⟨z0, k0, _, _⟩ := DataW.trod_int Try.underlying3 e0
      obtain ⟨z1, k1, _, w1⟩ := DataW.trod_int Try.underlying3 e1
      obtain ⟨z2, k2, _, _⟩ := DataW.trod_int Try.underlying3 e2
      obtain ⟨z3, k3, _, _⟩ := DataW.trod_int Try.underlying3 e3
      have k0 : List.take (Try.prog.cellsOf 3) (List.drop 0 cs') = [.int .i64 z0] := k0
      have k1 : List.take (Try.prog.cellsOf 3) (List.drop 1 cs') = [.int .i64 z1] := k1
      have k2 : List.take (Try.prog.cellsOf 3) (List.drop 2 cs') = [.int .i64 z2] := k2
      have k3 : List.take (Try.prog.cellsOf 3) (List.drop 3 cs') = [.int .i64 z3] := k3
      rw [cells3] at k0 k1 k2 k3
      refine ⟨⟨z0, z1, z2, z3⟩, ?_, ?_, ?_, ?_, bounds_i64 w1⟩
      · have := hcell 0 (by omega); rw [one_of k0] at this; simpa [Addr.add_add] using this
      · have := hcell 1 (by omega); rw [one_of k1] at this; simpa [Addr.add_add] using this
      · have := hcell 2 (by omega); rw [one_of k2] at this; simpa [Addr.add_add] using this
      · have := hcell 3 (by omega); rw [one_of k3] at this; simpa [Addr.add_add] using this
    obtain ⟨xs, h1, h2⟩ := choose_ask len hex
    subst h1
    refine ⟨_, xs, rfl, ⟨⟨_, _, rfl⟩, by simp [maxLen] at hm; omega, fun k hk => ?_⟩, fun x hx => ?_⟩
    rotate_left
    · obtain ⟨k, hk, rfl⟩ := List.getElem_of_mem hx
      exact (h2 k hk).2.2.2.2
    obtain ⟨b, off, spot⟩ := a
    obtain ⟨z0, _⟩ := h2 0 (by omega)
    have hspot : spot = none := by simpa [Addr.add] using World.cell?_spot z0
    subst hspot
    obtain ⟨q0, q1, q2, q3, hn⟩ := h2 k hk
    rw [add_plain] at q0 q1 q2 q3
    exact ⟨b, off, ⟨_, rfl⟩, q0, q1, q2, q3⟩
namespace fieldReads

theorem own : ownKnob Try.prog.godebug = none := by kernel_rfl
theorem laidOut : laidOutB Try.prog = true := by kernel_rfl
theorem walk (vb val : Value) (l msp : List UInt8) (xs : List Ask0) (w : World) (hS : SlB w vb l msp) (hB : ∀ k ∈ blkR vb, k < w.heap.size) (hX : Asks w val xs) :
    Calls Try.prog 4 #[vb, val] w fun e w' => e = .returned (.bool true) ∧ Below w.heap.size w w' := by
  have h : Calls Try.prog 4 #[vb, val] w fun r w' => YesF w r w' := by
    by_cases h1 : 1000 < l.length ∨ 60 < xs.length
    · exact reads_awake vb val l msp xs w hS hX h1
    · exact reads_short vb val l msp xs w hS hB hX (by omega) (by omega)
  exact h.mono fun _ _ ⟨h1, h2⟩ => ⟨h1, h2.below (fun i hi => by cases hi) (Nat.le_refl _)⟩

set_option maxRecDepth 100000 in
theorem lifted (os : Os) (started : os.Started) (H : Type) (enc : TypeId × Value → H) :
    ReturnsInHanded {} Try.checked os 4 .any (Rows.fieldReadsSpec.pre6 enc Try.prog Try.f4 Rows.fieldReadsRow.domain false) (Rows.fieldReadsSpec.post enc Try.prog Try.f4 false true false false) := by
  refine returnsInHanded_of_change (C := Try.checked) own started (by kernel_rfl) Try.func4
    (ChangeSpec.witness6 (enc := enc) (C := Try.checked) false ⟨#[], #[.slice none 0 0, .slice none 0 0], []⟩ 8 (by kernel_rfl) (by kernel_rfl) (by kernel_rfl) (by kernel_rfl)) ?_
  intro W base args ds gs before hval0 hW hcnd _
  have hval : ∀ (j : Nat) t v, Try.f4.params[j]? = some t → args[j]? = some v → Value.okWide Try.prog W .any base t v := hval0
  have hW' := hW
  obtain ⟨p, q, hA0, hV, rfl, hfz, hnd⟩ := hW
  have hA : DataW.TrodAll enc Try.prog W 0 (fun _ => true) true Try.f4.params.toList args.toList ds p := hA0
  rw [Try.params4] at hA hval
  obtain ⟨v0, vs0, d0, ds0, p0, q0, hargs, rfl, rfl, h0, r0⟩ := trodAll_cons hA
  obtain ⟨v1, vs1, d1, ds1, p1, q1, hargs1, rfl, rfl, h1, r1⟩ := trodAll_cons r0
  obtain ⟨rfl, rfl, rfl⟩ := trodAll_nil r1
  subst hargs1
  obtain rfl : args = #[v0, v1] := by cases args; simp_all
  obtain ⟨rfl, rfl⟩ := trodVars_none hV
  obtain ⟨a0, len0, cap0, rfl⟩ := okWide_slice Try.underlying26 (hval 0 26 v0 rfl rfl)
  obtain ⟨a1, len1, cap1, rfl⟩ := okWide_slice Try.underlying40 (hval 1 40 v1 rfl rfl)
  have k0 := h0
  have k1 := h1
  have lt0 : ∀ x ∈ p0, x.block < W.heap.size := by obtain ⟨m, hm⟩ := k0; exact DataW.trod_lt m _ _ _ hm
  have lt1 : ∀ x ∈ p1, x.block < W.heap.size := by obtain ⟨m, hm⟩ := k1; exact DataW.trod_lt m _ _ _ hm
  obtain ⟨l, sp, hS, hB⟩ : ∃ l sp, SlB W (.slice a0 len0 cap0) l sp ∧ ∀ k ∈ blkR (.slice a0 len0 cap0), k < W.heap.size := by
    obtain ⟨fuel, hf⟩ := h0
    obtain ⟨a, c, l, sp, e, hS, hB⟩ := slb_of_trod hf
    simp [Value.cells] at e
    obtain ⟨rfl, rfl, rfl⟩ := e
    exact ⟨l, sp, hS, hB⟩
  obtain ⟨xs, hxs⟩ : ∃ xs, Asks W (.slice a1 len1 cap1) xs := by
    obtain ⟨fuel, hf⟩ := h1
    obtain ⟨val, xs, hcs, hx, _⟩ := asks_of_trod hf
    simp [Value.cells] at hcs
    subst hcs
    exact ⟨xs, hx⟩
  clear hA0 hval0
  refine (walk _ _ l sp xs W hS hB hxs).mono fun e W' ⟨he, bel⟩ => ?_
  subst he
  exact ⟨_, rfl, _, _, _, [], _, [], hW', trodAll_mk1 (shut_bool Try.underlying4 _), (trodAll_cons_mk (Below.trod laidOut (by kernel_rfl) (of_decide_eq_true (by kernel_rfl)) k0 bel lt0) (trodAll_cons_mk (Below.trod laidOut (by kernel_rfl) (of_decide_eq_true (by kernel_rfl)) k1 bel lt1) trodAll_mk0)), rfl, bel.frame _, fun h => by cases h⟩

theorem over : Rows.fieldReadsRow.holds Try.pinned (OpenSpec.ofChange Rows.fieldReadsSpec) :=
  OpenClaim.holds_of_wide 4 Try.f4 rfl rfl rfl rfl rfl rfl rfl ⟨rfl, rfl, rfl, rfl, rfl⟩ rfl rfl rfl rfl rfl (by kernel_rfl) Try.func4 (by kernel_rfl)
    (of_decide_eq_true (by kernel_rfl)) (by unfold Func.isWrapper; first | (rw [if_pos (by decide +kernel)]; kernel_rfl) | (rw [if_neg (by decide +kernel)]; exact ⟨rfl, rfl⟩))
    (fun os started H enc _ => lifted os started H enc)

/-- The statement. -/
theorem proved : Rows.FieldReadsSaid := over
#print axioms proved
end fieldReads
end Go.Proofs.Ytappmjophnhdaaa
