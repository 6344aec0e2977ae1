/-
  Contract of CopyPointer. No conditions but those that each theorem names.
-/
import Derived.Test.YtjdejhgfkjeeiaaGreatDoorPY
namespace Go.Proofs.YtjdejhgfkjeeiaaGreatDoor.Pt
open Go.RowKit
set_option linter.unusedVariables false
set_option linter.unusedSimpArgs false
set_option maxRecDepth 100000

/-- A pointer with a list of its own. -/
def OwnP (p : Pt) (w : World) (e : Ending) (w' : World) : Prop := ∃ a cap sp, e = .returned (pv (.slice a p.ads.length cap) p.b p.l p.s) ∧ OwnA 47 w' (.slice a p.ads.length cap) p.ads sp ∧ Frm [] w w' ∧ ∀ i ∈ blk (.slice a p.ads.length cap), w.heap.size ≤ i
end Go.Proofs.YtjdejhgfkjeeiaaGreatDoor.Pt
