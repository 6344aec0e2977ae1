/-
  What a row's own reading gives the walks: uberblocks, bytes. No conditions but those that each theorem names.
-/
import Derived.Test.YtjdejhgfkjeeiaaGreatDoorRS
import Derived.Test.YtjdejhgfkjeeiaaGreatDoorRA
namespace Go.Proofs.YtjdejhgfkjeeiaaGreatDoor
open Go.RowKit Go.ChangeShapes Go.WideShapes Go.Deep
set_option linter.unusedVariables false
set_option linter.unusedSimpArgs false
set_option maxRecDepth 100000

open Pt (Pt may enc readPt readE zeroPt pc pv PtV SlA OwnA)
end Go.Proofs.YtjdejhgfkjeeiaaGreatDoor
