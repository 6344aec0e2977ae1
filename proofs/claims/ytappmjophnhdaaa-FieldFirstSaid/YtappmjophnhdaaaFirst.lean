/-
  For all two lists of acts that can be read and every number, in every memory and in every order that Go leaves open, the law FieldFirst returns true, and nothing that was there is changed. No conditions.
-/
import Derived.Test.YtappmjophnhdaaaBD
namespace Go.Proofs.Ytappmjophnhdaaa.fieldFirst
open Go.ChangeShapes Go.WideShapes Go.ChangeAt Go.RowKit
set_option linter.unusedVariables false

theorem own : ownKnob Try.prog.godebug = none := by kernel_rfl
theorem laidOut : laidOutB Try.prog = true := by kernel_rfl
theorem walk (val val2 : Value) (which : Int) (xs ys : List Act0) (w : World) (hA : Acts w.heap.size w val xs) (hB : Acts w.heap.size w val2 ys)
    (hx : -9223372036854775808 ≤ which) (hx2 : which ≤ 9223372036854775807) (hxs : ∀ x ∈ xs, -9223372036854775808 ≤ x.n ∧ -9223372036854775808 ≤ x.size ∧ x.size ≤ 9223372036854775807) :
    Calls Try.prog 9 #[val, .int .i64 which, val2] w fun e w' => e = .returned (.bool true) ∧ Below w.heap.size w w' :=
  (first_all val val2 which xs ys w hA hB hx hx2 hxs).mono fun _ _ ⟨h1, h2⟩ => ⟨h1, h2.below (fun i hi => by cases hi) (Nat.le_refl _)⟩

set_option maxRecDepth 100000 in
theorem lifted (os : Os) (started : os.Started) (H : Type) (enc : TypeId × Value → H) :
    ReturnsInHanded {} Try.checked os 9 .any (Rows.fieldFirstSpec.pre6 enc Try.prog Try.f9 Rows.fieldFirstRow.domain false) (Rows.fieldFirstSpec.post enc Try.prog Try.f9 false true false false) := by
  refine returnsInHanded_of_change (C := Try.checked) own started (by kernel_rfl) Try.func9
    (ChangeSpec.witness6 (enc := enc) (C := Try.checked) false ⟨#[], #[.slice none 0 0, .int .i64 0, .slice none 0 0], []⟩ 8 (by kernel_rfl) (by kernel_rfl) (by kernel_rfl) (by kernel_rfl)) ?_
  intro W base args ds gs before hval0 hW hcnd _
  have hval : ∀ (j : Nat) t v, Try.f9.params[j]? = some t → args[j]? = some v → Value.okWide Try.prog W .any base t v := hval0
  have hW' := hW
  obtain ⟨p, q, hA0, hV, rfl, hfz, hnd⟩ := hW
  have hA : DataW.TrodAll enc Try.prog W 0 (fun _ => true) true Try.f9.params.toList args.toList ds p := hA0
  rw [Try.params9] at hA hval
  obtain ⟨v0, vs0, d0, ds0, p0, q0, hargs, rfl, rfl, h0, r0⟩ := trodAll_cons hA
  obtain ⟨v1, vs1, d1, ds1, p1, q1, hargs1, rfl, rfl, h1, r1⟩ := trodAll_cons r0
  obtain ⟨v2, vs2, d2, ds2, p2, q2, hargs2, rfl, rfl, h2, r2⟩ := trodAll_cons r1
  obtain ⟨rfl, rfl, rfl⟩ := trodAll_nil r2
  subst hargs2
  subst hargs1
  obtain rfl : args = #[v0, v1, v2] := by cases args; simp_all
  obtain ⟨rfl, rfl⟩ := trodVars_none hV
  obtain ⟨a0, len0, cap0, rfl⟩ := okWide_slice Try.underlying22 (hval 0 22 v0 rfl rfl)
  obtain ⟨a2, len2, cap2, rfl⟩ := okWide_slice Try.underlying22 (hval 2 22 v2 rfl rfl)
  obtain ⟨n, rfl, rfl, rfl, wn⟩ := open_int Try.underlying3 (hval 1 3 v1 rfl rfl) h1
  have k0 := h0
  have k1 := h1
  have k2 := h2
  have lt0 : ∀ x ∈ p0, x.block < W.heap.size := by obtain ⟨m, hm⟩ := k0; exact DataW.trod_lt m _ _ _ hm
  have lt2 : ∀ x ∈ p2, x.block < W.heap.size := by obtain ⟨m, hm⟩ := k2; exact DataW.trod_lt m _ _ _ hm
  obtain ⟨xs, hxs, hxb⟩ : ∃ xs, Acts W.heap.size W (.slice a0 len0 cap0) xs ∧ ∀ x ∈ xs, -9223372036854775808 ≤ x.n ∧ -9223372036854775808 ≤ x.size ∧ x.size ≤ 9223372036854775807 := by
    obtain ⟨fuel, hf⟩ := h0
    obtain ⟨val, xs, hcs, hx, hb⟩ := acts_of_trod2 hf
    simp [Value.cells] at hcs
    subst hcs
    exact ⟨xs, hx, hb⟩
  obtain ⟨ys, hys⟩ : ∃ ys, Acts W.heap.size W (.slice a2 len2 cap2) ys := by
    obtain ⟨fuel, hf⟩ := h2
    obtain ⟨val, xs, hcs, hx⟩ := acts_of_trod hf
    simp [Value.cells] at hcs
    subst hcs
    exact ⟨xs, hx⟩
  clear hA0 hval0
  have hb := bounds_i64 wn
  refine (walk _ _ n xs ys W hxs hys hb.1 hb.2 hxb).mono fun e W' ⟨he, bel⟩ => ?_
  subst he
  exact ⟨_, rfl, _, _, _, [], _, [], hW', trodAll_mk1 (shut_bool Try.underlying4 _), (trodAll_cons_mk (Below.trod laidOut (by kernel_rfl) (of_decide_eq_true (by kernel_rfl)) k0 bel lt0) (trodAll_cons_mk (shut_int Try.underlying3 wn) (trodAll_cons_mk (Below.trod laidOut (by kernel_rfl) (of_decide_eq_true (by kernel_rfl)) k2 bel lt2) trodAll_mk0))), rfl, bel.frame _, fun h => by cases h⟩

theorem over : Rows.fieldFirstRow.holds Try.pinned (OpenSpec.ofChange Rows.fieldFirstSpec) :=
  OpenClaim.holds_of_wide 9 Try.f9 rfl rfl rfl rfl rfl rfl rfl ⟨rfl, rfl, rfl, rfl, rfl⟩ rfl rfl rfl rfl rfl (by kernel_rfl) Try.func9 (by kernel_rfl)
    (of_decide_eq_true (by kernel_rfl)) (by unfold Func.isWrapper; first | (rw [if_pos (by decide +kernel)]; kernel_rfl) | (rw [if_neg (by decide +kernel)]; exact ⟨rfl, rfl⟩))
    (fun os started H enc _ => lifted os started H enc)

/-- The statement. -/
theorem proved : Rows.FieldFirstSaid := over
#print axioms proved
end Go.Proofs.Ytappmjophnhdaaa.fieldFirst
