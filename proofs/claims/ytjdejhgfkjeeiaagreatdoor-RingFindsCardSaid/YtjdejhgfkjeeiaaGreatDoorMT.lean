/-
  The walk of RingTurns. No conditions but those that each theorem names.
-/
import Derived.Test.YtjdejhgfkjeeiaaGreatDoorMK
namespace Go.Proofs.YtjdejhgfkjeeiaaGreatDoor
open Go.RowKit
set_option linter.unusedVariables false
set_option linter.unusedSimpArgs false
set_option maxRecDepth 100000

open Pt (Pt may enc readPt readE zeroPt pc pv PtV SlA OwnA)
open Kr (OwnE SlE Enco RowTys)
def o32 : List UInt8 := 1 :: List.replicate 31 0
theorem Ls.one {W : World} {g : Nat} {v1 : Value} {b1 s1 : List UInt8} (h : W.heap[g]? = some (.cells #[v1] 32 (0, 0))) (o1 : v1.oneCell' = true) (h1 : SlB W v1 b1 s1) : Ls W (.slice (some ⟨g, 0, none⟩) 1 1) [b1] := by
  refine ⟨[⟨v1, o1⟩], [], Kr.SlE.of_block encC (T := 32) h rfl (by decide), rfl, fun i c b hc hb => ?_⟩
  match i with
  | 0 => simp at hc hb; subst hc; subst hb; exact ⟨_, h1⟩
  | i + 1 => simp at hc
end Go.Proofs.YtjdejhgfkjeeiaaGreatDoor

namespace Go.Proofs.YtjdejhgfkjeeiaaGreatDoor
open Go.RowKit
set_option linter.unusedVariables false
set_option linter.unusedSimpArgs false
set_option maxRecDepth 100000

def InI (n : Int) : Prop := -9223372036854775808 ≤ n ∧ n ≤ 9223372036854775807
theorem wf_iff (n : Int) : (Lit.int .i64 n).wf = true ↔ InI n := by
  simp [Lit.wf, IntKind.min, IntKind.max, IntKind.bits, IntKind.signed, InI]
end Go.Proofs.YtjdejhgfkjeeiaaGreatDoor
