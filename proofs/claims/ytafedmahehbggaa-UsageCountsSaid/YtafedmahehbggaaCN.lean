/-
  Contracts of the document's May and Less. No conditions but those that each theorem names.
-/
import Derived.Test.YtafedmahehbggaaCU
namespace Go.Proofs.Ytafedmahehbggaa
open Go.RowKit Go.Sort Go.Maps
set_option linter.unusedVariables false
set_option linter.unusedSimpArgs false
set_option maxRecDepth 100000

set_option maxHeartbeats 1000000 in
theorem RefLess_any (x y : Ad) (w : World) : Calls Try.prog 62 #[av x, av y] w fun e w' => e = .returned (.bool (ltA x y)) ∧ Frm [] w w' := by
  have e1 : ∀ b : Bool, b = ltA x y → ∀ w', Frm [] w w' → (Ending.returned (.bool b) = .returned (.bool (ltA x y)) ∧ Frm [] w w') := fun b h w' f => ⟨by rw [h], f⟩
  have hE := Lib.hid e1
  clear e1
  unfold av
  by_cases h1 : x.1 < y.1
  · go_enter Try.func62, Try.ntmps62
    go_wp2
    go_ret
    exact hE.out _ (by simp [ltA, *] <;> omega) _ (((Frm.refl [] w).alloc _).alloc _)
  · by_cases h2 : x.1 = y.1
    · have hb : (x.1 == y.1) = true := by simp [h2]
      have H2 := Lib.hid h2
      clear h2
      by_cases h3 : x.2 < y.2
      all_goals
        go_enter Try.func62, Try.ntmps62
        go_wp2
        go_ret
        have h2 := H2.out
        exact hE.out _ (by simp [ltA, *] <;> omega) _ (((Frm.refl [] w).alloc _).alloc _)
    · have hb : (x.1 == y.1) = false := by simp [h2]
      go_enter Try.func62, Try.ntmps62
      go_wp2
      go_ret
      exact hE.out _ (by simp [ltA, *] <;> omega) _ (((Frm.refl [] w).alloc _).alloc _)
end Go.Proofs.Ytafedmahehbggaa
