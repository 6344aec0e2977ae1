/-
  What a row's own reading gives the walks. No conditions.
-/
import Derived.Test.YtnpjgccannebpaaN7
import Derived.ChangeSame
import Derived.ChangeMaps5
namespace Go.Proofs.Ytnpjgccannebpaa
open Go.RowKit Go.ChangeShapes Go.WideShapes
theorem own : ownKnob Try.prog.godebug = none := by kernel_rfl
theorem laidOut : laidOutB Try.prog = true := by kernel_rfl
end Go.Proofs.Ytnpjgccannebpaa
