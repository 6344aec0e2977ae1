/-
  ArrayNone. No conditions but those that each theorem names.
-/
import Derived.Test.YtdebnikolhhmgaaDoorBS
import Derived.Test.YtdebnikolhhmgaaDoorAD
namespace Go.Proofs.YtdebnikolhhmgaaDoor
open Go.RowKit
set_option linter.unusedVariables false
set_option linter.unusedSimpArgs false
set_option maxRecDepth 100000

open Kr (OwnE SlE Enco RowTys)
theorem Long1_any (b n5 c5 n6 c6 : Nat) (a5 a6 : Option Addr) (w : World) (h5 : w.cell? ⟨b, 5, none⟩ = some (.slice a5 n5 c5)) (h6 : w.cell? ⟨b, 6, none⟩ = some (.slice a6 n6 c6)) :
    Calls Tryd.prog 9 #[.slice (some ⟨b, 0, none⟩) 1 1] w fun e w' => e = .returned (.bool (decide (300 < n5 ∨ 200 < n6))) ∧ w' = w := by
  by_cases q5 : 300 < n5
  · have q5' : (300 : Int) < (n5 : Int) := by omega
    go_enter Tryd.func9, Tryd.ntmps9
    go_upto_region 2 with (fail)
    go_loopw [3] (fun c wr => c = .int .i64 0 ∧ wr = w) (fun _ _ => 0)
    case atStart => exact ⟨rfl, rfl⟩
    case round =>
      obtain ⟨rfl, rfl⟩ := hrel
      go_wp2_with fail
      go_ret
      refine ⟨?_, ?_⟩ <;> first | rfl | trivial | (rw [decide_eq_true (Or.inl q5)]; rfl)
  · have q5' : ¬ (300 : Int) < (n5 : Int) := by omega
    by_cases q6 : 200 < n6
    · have q6' : (200 : Int) < (n6 : Int) := by omega
      go_enter Tryd.func9, Tryd.ntmps9
      go_upto_region 2 with (fail)
      go_loopw [3] (fun c wr => c = .int .i64 0 ∧ wr = w) (fun _ _ => 0)
      case atStart => exact ⟨rfl, rfl⟩
      case round =>
        obtain ⟨rfl, rfl⟩ := hrel
        go_wp2_with fail
        go_ret
        refine ⟨?_, ?_⟩ <;> first | rfl | trivial | (rw [decide_eq_true (Or.inr q6)]; rfl)
    · have q6' : ¬ (200 : Int) < (n6 : Int) := by omega
      go_enter Tryd.func9, Tryd.ntmps9
      go_upto_region 2 with (fail)
      go_loopw [3] (fun c wr => (c = .int .i64 0 ∨ c = .int .i64 1) ∧ wr = w) (fun c _ => 1 - (intOf c).toNat)
      case atStart => exact ⟨.inl rfl, rfl⟩
      case round =>
        obtain ⟨rfl | rfl, rfl⟩ := hrel
        · go_wp2_with fail
          go_roundw
          case rel => first | exact ⟨.inr rfl, rfl⟩ | exact ⟨.inr rfl, trivial⟩
          case measure => simp [intOf]
        · go_wp2_with fail
          go_ret
          refine ⟨?_, ?_⟩ <;> first | rfl | trivial | (rw [decide_eq_false (by omega)]; rfl)
end Go.Proofs.YtdebnikolhhmgaaDoor

