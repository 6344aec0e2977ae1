/-
  Contracts of the document's May and Less. No conditions but those that each theorem names.
-/
import Derived.Test.YtpgekoicbceliaaCM
namespace Go.Proofs.Ytpgekoicbceliaa
open Go.RowKit Go.Sort Go.Maps
set_option linter.unusedVariables false
set_option linter.unusedSimpArgs false
set_option maxRecDepth 100000

theorem may_no1 {x : Ad} {d s : Int} (h : ¬ 2 ≤ d) : mayB x d s = false := by simp [mayB, inB, h]
set_option maxHeartbeats 1000000 in
theorem RefMay_any (x : Ad) (d s : Int) (w : World) : Calls Try.prog 10 #[av x, .int .i64 d, .int .i64 s] w fun e w' => e = .returned (.bool (mayB x d s)) ∧ Frm [] w w' := by
  have e1 : ∀ b : Bool, b = mayB x d s → ∀ w', Frm [] w w' → (Ending.returned (.bool b) = .returned (.bool (mayB x d s)) ∧ Frm [] w w') := fun b h w' f => ⟨by rw [h], f⟩
  have hE := Lib.hid e1
  clear e1
  unfold av
  by_cases h1 : 2 ≤ d
  · by_cases h2 : d ≤ 8
    · by_cases h3 : 8 ≤ s
      · by_cases h4 : s ≤ 4096
        · by_cases h5 : 0 ≤ x.1
          · by_cases h6 : x.1 < d
            · by_cases h7 : 5 ≤ x.2
              · by_cases h8 : x.2 < s
                all_goals
                  go_enter Try.func10, Try.ntmps10
                  go_wp2
                  go_ret
                  exact hE.out _ (by simp [mayB, inB, *]; omega) _ ((Frm.refl [] w).alloc _)
              all_goals
                go_enter Try.func10, Try.ntmps10
                go_wp2
                go_ret
                exact hE.out _ (by simp [mayB, inB, *]; omega) _ ((Frm.refl [] w).alloc _)
            all_goals
              go_enter Try.func10, Try.ntmps10
              go_wp2
              go_ret
              exact hE.out _ (by simp [mayB, inB, *]; omega) _ ((Frm.refl [] w).alloc _)
          all_goals
            go_enter Try.func10, Try.ntmps10
            go_wp2
            go_ret
            exact hE.out _ (by simp [mayB, inB, *]; omega) _ ((Frm.refl [] w).alloc _)
        all_goals
          go_enter Try.func10, Try.ntmps10
          go_wp2
          go_ret
          exact hE.out _ (by simp [mayB, inB, *]; omega) _ ((Frm.refl [] w).alloc _)
      all_goals
        go_enter Try.func10, Try.ntmps10
        go_wp2
        go_ret
        exact hE.out _ (by simp [mayB, inB, *]; omega) _ ((Frm.refl [] w).alloc _)
    all_goals
      go_enter Try.func10, Try.ntmps10
      go_wp2
      go_ret
      exact hE.out _ (by simp [mayB, inB, *]; omega) _ ((Frm.refl [] w).alloc _)
  all_goals
    go_enter Try.func10, Try.ntmps10
    go_wp2
    go_ret
    exact hE.out _ (by simp [mayB, inB, *]; omega) _ ((Frm.refl [] w).alloc _)
set_option maxHeartbeats 1000000 in
theorem RefLess_any (x y : Ad) (w : World) : Calls Try.prog 12 #[av x, av y] w fun e w' => e = .returned (.bool (ltA x y)) ∧ Frm [] w w' := by
  have e1 : ∀ b : Bool, b = ltA x y → ∀ w', Frm [] w w' → (Ending.returned (.bool b) = .returned (.bool (ltA x y)) ∧ Frm [] w w') := fun b h w' f => ⟨by rw [h], f⟩
  have hE := Lib.hid e1
  clear e1
  unfold av
  by_cases h1 : x.1 < y.1
  · go_enter Try.func12, Try.ntmps12
    go_wp2
    go_ret
    exact hE.out _ (by simp [ltA, *] <;> omega) _ (((Frm.refl [] w).alloc _).alloc _)
  · by_cases h2 : x.1 = y.1
    · have hb : (x.1 == y.1) = true := by simp [h2]
      have H2 := Lib.hid h2
      clear h2
      by_cases h3 : x.2 < y.2
      all_goals
        go_enter Try.func12, Try.ntmps12
        go_wp2
        go_ret
        have h2 := H2.out
        exact hE.out _ (by simp [ltA, *] <;> omega) _ (((Frm.refl [] w).alloc _).alloc _)
    · have hb : (x.1 == y.1) = false := by simp [h2]
      go_enter Try.func12, Try.ntmps12
      go_wp2
      go_ret
      exact hE.out _ (by simp [ltA, *] <;> omega) _ (((Frm.refl [] w).alloc _).alloc _)
end Go.Proofs.Ytpgekoicbceliaa
