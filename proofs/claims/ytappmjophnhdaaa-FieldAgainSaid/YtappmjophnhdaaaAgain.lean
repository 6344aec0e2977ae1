/-
  For all bytes and every list of asks that can be read, in every memory and in every order that Go leaves open, the law FieldAgain returns true, and nothing that was there is changed. No conditions.
-/
import Derived.Test.YtappmjophnhdaaaDC
import Derived.Test.YtappmjophnhdaaaReads
namespace Go.Proofs.Ytappmjophnhdaaa
open Go.ChangeShapes Go.WideShapes Go.ChangeAt Go.RowKit Go.Deep
set_option linter.unusedVariables false
set_option linter.unusedSimpArgs false
set_option maxRecDepth 100000 in
set_option maxHeartbeats 4000000 in
theorem again_awake (vb val : Value) (l msp : List UInt8) (xs : List Ask0) (w : World) (hS : SlB w vb l msp) (hX : Asks w val xs) (hbig : 1000 < l.length ∨ 60 < xs.length) : Calls Try.prog 8 #[vb, val] w fun r w' => YesF w r w' := by
  obtain ⟨a, cap, rfl, hc1, hc2⟩ := hS.form
  obtain ⟨a2, cap2, rfl⟩ := hX.form
  have hb := hX.big
  have hm : (l.length : Int) ≤ 9223372036854775807 := by simp [maxLen] at hc2; omega
  have hm2 : (xs.length : Int) ≤ 9223372036854775807 := by omega
  clear hS hX hc1 hc2
  by_cases h1 : 1000 < l.length
  · have h1' : (1000 : Int) < (l.length : Int) := by omega
    clear hbig h1
    go_enter Try.func8, Try.ntmps8
    go_wp2_with fail
    refine (awake_any _).mono ?_
    rintro r wa ⟨rfl, fa⟩
    go_wp2_with fail
    go_ret
    exact ⟨rfl, fa⟩
  · have h1' : ¬ (1000 : Int) < (l.length : Int) := by omega
    have h2' : (60 : Int) < (xs.length : Int) := by omega
    clear hbig h1
    go_enter Try.func8, Try.ntmps8
    go_wp2_with fail
    refine (awake_any _).mono ?_
    rintro r wa ⟨rfl, fa⟩
    go_wp2_with fail
    go_ret
    exact ⟨rfl, fa⟩
namespace fieldAgain

theorem own : ownKnob Try.prog.godebug = none := by kernel_rfl
theorem laidOut : laidOutB Try.prog = true := by kernel_rfl
theorem walk (vb val : Value) (l msp : List UInt8) (xs : List Ask0) (w : World) (hS : SlB w vb l msp) (hB : ∀ k ∈ blkR vb, k < w.heap.size) (hX : Asks w val xs) :
    Calls Try.prog 8 #[vb, val] w fun e w' => e = .returned (.bool true) ∧ Below w.heap.size w w' := by
  have h : Calls Try.prog 8 #[vb, val] w fun r w' => YesF w r w' := by
    by_cases h1 : 1000 < l.length ∨ 60 < xs.length
    · exact again_awake vb val l msp xs w hS hX h1
    · exact again_short vb val l msp xs w hS hX (by omega) (by omega)
  exact h.mono fun _ _ ⟨h1, h2⟩ => ⟨h1, h2.below (fun i hi => by cases hi) (Nat.le_refl _)⟩

set_option maxRecDepth 100000 in
theorem lifted (os : Os) (started : os.Started) (H : Type) (enc : TypeId × Value → H) :
    ReturnsInHanded {} Try.checked os 8 .any (Rows.fieldAgainSpec.pre6 enc Try.prog Try.f8 Rows.fieldAgainRow.domain false) (Rows.fieldAgainSpec.post enc Try.prog Try.f8 false true false false) := by
  refine returnsInHanded_of_change (C := Try.checked) own started (by kernel_rfl) Try.func8
    (ChangeSpec.witness6 (enc := enc) (C := Try.checked) false ⟨#[], #[.slice none 0 0, .slice none 0 0], []⟩ 8 (by kernel_rfl) (by kernel_rfl) (by kernel_rfl) (by kernel_rfl)) ?_
  intro W base args ds gs before hval0 hW hcnd _
  have hval : ∀ (j : Nat) t v, Try.f8.params[j]? = some t → args[j]? = some v → Value.okWide Try.prog W .any base t v := hval0
  have hW' := hW
  obtain ⟨p, q, hA0, hV, rfl, hfz, hnd⟩ := hW
  have hA : DataW.TrodAll enc Try.prog W 0 (fun _ => true) true Try.f8.params.toList args.toList ds p := hA0
  rw [Try.params8] at hA hval
  obtain ⟨v0, vs0, d0, ds0, p0, q0, hargs, rfl, rfl, h0, r0⟩ := trodAll_cons hA
  obtain ⟨v1, vs1, d1, ds1, p1, q1, hargs1, rfl, rfl, h1, r1⟩ := trodAll_cons r0
  obtain ⟨rfl, rfl, rfl⟩ := trodAll_nil r1
  subst hargs1
  obtain rfl : args = #[v0, v1] := by cases args; simp_all
  obtain ⟨rfl, rfl⟩ := trodVars_none hV
  obtain ⟨a0, len0, cap0, rfl⟩ := okWide_slice Try.underlying26 (hval 0 26 v0 rfl rfl)
  obtain ⟨a1, len1, cap1, rfl⟩ := okWide_slice Try.underlying40 (hval 1 40 v1 rfl rfl)
  have k0 := h0
  have k1 := h1
  have lt0 : ∀ x ∈ p0, x.block < W.heap.size := by obtain ⟨m, hm⟩ := k0; exact DataW.trod_lt m _ _ _ hm
  have lt1 : ∀ x ∈ p1, x.block < W.heap.size := by obtain ⟨m, hm⟩ := k1; exact DataW.trod_lt m _ _ _ hm
  obtain ⟨l, sp, hS, hB⟩ : ∃ l sp, SlB W (.slice a0 len0 cap0) l sp ∧ ∀ k ∈ blkR (.slice a0 len0 cap0), k < W.heap.size := by
    obtain ⟨fuel, hf⟩ := h0
    obtain ⟨a, c, l, sp, e, hS, hB⟩ := slb_of_trod hf
    simp [Value.cells] at e
    obtain ⟨rfl, rfl, rfl⟩ := e
    exact ⟨l, sp, hS, hB⟩
  obtain ⟨xs, hxs⟩ : ∃ xs, Asks W (.slice a1 len1 cap1) xs := by
    obtain ⟨fuel, hf⟩ := h1
    obtain ⟨val, xs, hcs, hx, _⟩ := asks_of_trod hf
    simp [Value.cells] at hcs
    subst hcs
    exact ⟨xs, hx⟩
  clear hA0 hval0
  refine (walk _ _ l sp xs W hS hB hxs).mono fun e W' ⟨he, bel⟩ => ?_
  subst he
  exact ⟨_, rfl, _, _, _, [], _, [], hW', trodAll_mk1 (shut_bool Try.underlying4 _), (trodAll_cons_mk (Below.trod laidOut (by kernel_rfl) (of_decide_eq_true (by kernel_rfl)) k0 bel lt0) (trodAll_cons_mk (Below.trod laidOut (by kernel_rfl) (of_decide_eq_true (by kernel_rfl)) k1 bel lt1) trodAll_mk0)), rfl, bel.frame _, fun h => by cases h⟩

theorem over : Rows.fieldAgainRow.holds Try.pinned (OpenSpec.ofChange Rows.fieldAgainSpec) :=
  OpenClaim.holds_of_wide 8 Try.f8 rfl rfl rfl rfl rfl rfl rfl ⟨rfl, rfl, rfl, rfl, rfl⟩ rfl rfl rfl rfl rfl (by kernel_rfl) Try.func8 (by kernel_rfl)
    (of_decide_eq_true (by kernel_rfl)) (by unfold Func.isWrapper; first | (rw [if_pos (by decide +kernel)]; kernel_rfl) | (rw [if_neg (by decide +kernel)]; exact ⟨rfl, rfl⟩))
    (fun os started H enc _ => lifted os started H enc)

/-- The statement. -/
theorem proved : Rows.FieldAgainSaid := over
#print axioms proved
end fieldAgain
end Go.Proofs.Ytappmjophnhdaaa
