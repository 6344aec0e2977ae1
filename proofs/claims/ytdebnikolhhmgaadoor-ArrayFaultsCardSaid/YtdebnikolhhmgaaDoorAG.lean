/-
  A device's faults changed; a step; more needs. No conditions but those that each theorem names.
-/
import Derived.Test.YtdebnikolhhmgaaDoorAF
namespace Go.Proofs.YtdebnikolhhmgaaDoor
open Go.RowKit
set_option linter.unusedVariables false
set_option linter.unusedSimpArgs false
set_option maxRecDepth 100000

open Kr (OwnE SlE Enco RowTys)
theorem befall_any (b o f x : Nat) (hf : f < 256) (hx : x < 256) (w : World) (hc : w.cell? ⟨b, o, none⟩ = some (.int .u8 (f : Int))) (hz : w.frozen? ⟨b, o, none⟩ = false) :
    Calls Tryd.prog 56 #[.pointer (some ⟨b, o, none⟩), .int .u8 (x : Int)] w fun e w' => e = .returned (.tuple #[]) ∧ w' = w.setCell ⟨b, o, none⟩ (.int .u8 ((f ||| x : Nat) : Int)) := by
  have hb : bits BinOp.or IntKind.u8 (f : Int) (x : Int) = ((f ||| x : Nat) : Int) := u8_or_nat _ _ hf hx
  clear hf hx
  generalize ((f ||| x : Nat) : Int) = q at *
  generalize (f : Int) = f1 at *
  generalize (x : Int) = x1 at *
  go_enter Tryd.func56, Tryd.ntmps56
  go_wp2
  go_end0
  exact ⟨rfl, rfl⟩
theorem endF_any (b o f x : Nat) (hf : f < 256) (hx : x < 256) (w : World) (hc : w.cell? ⟨b, o, none⟩ = some (.int .u8 (f : Int))) (hz : w.frozen? ⟨b, o, none⟩ = false) :
    Calls Tryd.prog 54 #[.pointer (some ⟨b, o, none⟩), .int .u8 (x : Int)] w fun e w' => e = .returned (.tuple #[]) ∧ w' = w.setCell ⟨b, o, none⟩ (.int .u8 ((f &&& (255 - x) : Nat) : Int)) := by
  have hb : bits BinOp.andNot IntKind.u8 (f : Int) (x : Int) = ((f &&& (255 - x) : Nat) : Int) := u8_andNot_nat _ _ hf hx
  clear hf hx
  generalize ((f &&& (255 - x) : Nat) : Int) = q at *
  generalize (f : Int) = f1 at *
  generalize (x : Int) = x1 at *
  go_enter Tryd.func54, Tryd.ntmps54
  go_wp2
  go_end0
  exact ⟨rfl, rfl⟩
theorem use_any (b o f x : Nat) (hf : f < 256) (hx : x < 256) (w : World) (hc : w.cell? ⟨b, o, none⟩ = some (.int .u8 (f : Int))) (hz : w.frozen? ⟨b, o, none⟩ = false) :
    Calls Tryd.prog 48 #[.pointer (some ⟨b, o, none⟩), .int .u8 (x : Int)] w fun e w' => e = .returned (.bool ((f &&& x) != 0)) ∧ w' = w.setCell ⟨b, o, none⟩ (.int .u8 ((f &&& (255 - x) : Nat) : Int)) := by
  have h1 := Lib.hid (has_any b o f x hf hx w hc)
  have h2 := Lib.hid (endF_any b o f x hf hx w hc hz)
  clear hf hx hc hz
  generalize ((f &&& x) != 0) = q at *
  generalize ((f &&& (255 - x) : Nat) : Int) = q2 at *
  generalize (x : Int) = x1 at *
  go_enter Tryd.func48, Tryd.ntmps48
  go_wp2_with (first
    | (go_at_call 63; refine h1.out.mono ?_; rintro e w1 ⟨rfl, hw1⟩; obtain rfl := hw1.symm)
    | (go_at_call 54; refine h2.out.mono ?_; rintro e w2 ⟨rfl, rfl⟩))
  go_ret
  exact ⟨rfl, rfl⟩
/-- The faults behind fail. -/
def failF (f : Nat) (n : Int) : Nat := if 0 < n then f ||| 8 else f &&& (255 - 8)
theorem fail_any (b o f : Nat) (fl n : Int) (hf : f < 256) (w : World) (hc : w.cell? ⟨b, o, none⟩ = some (.int .u8 (f : Int))) (hc2 : w.cell? ⟨b, o + 2, none⟩ = some (.int .i64 fl)) (hz : ∀ j, w.frozen? ⟨b, j, none⟩ = false) :
    Calls Tryd.prog 57 #[.pointer (some ⟨b, o, none⟩), .int .i64 n] w fun e w' => e = .returned (.tuple #[]) ∧ w' = (w.setCell ⟨b, o + 2, none⟩ (.int .i64 n)).setCell ⟨b, o, none⟩ (.int .u8 (failF f n : Nat)) := by
  have hz2 := hz (o + 2)
  have d0 : (w.setCell ⟨b, o + 2, none⟩ (.int .i64 n)).cell? ⟨b, o, none⟩ = some (.int .u8 (f : Int)) := (World.cell?_setCell_other w ⟨b, o + 2, none⟩ ⟨b, o, none⟩ _ (by simp)).trans hc
  have dz : (w.setCell ⟨b, o + 2, none⟩ (.int .i64 n)).frozen? ⟨b, o, none⟩ = false := by rw [World.frozen?_setCell]; exact hz o
  have h1 := Lib.hid (befall_any b o f 8 hf (by omega) _ d0 dz)
  have h2 := Lib.hid (endF_any b o f 8 hf (by omega) _ d0 dz)
  unfold failF
  clear hf hc hz d0 dz
  by_cases hn : 0 < n
  · rw [if_pos hn]
    go_enter Tryd.func57, Tryd.ntmps57
    go_wp2_with (go_at_call 56; refine h1.out.mono ?_; rintro e w1 ⟨rfl, rfl⟩)
    go_end0
    exact ⟨rfl, rfl⟩
  · rw [if_neg hn]
    go_enter Tryd.func57, Tryd.ntmps57
    go_wp2_with (go_at_call 54; refine h2.out.mono ?_; rintro e w1 ⟨rfl, rfl⟩)
    go_end0
    exact ⟨rfl, rfl⟩
end Go.Proofs.YtdebnikolhhmgaaDoor
