/-
  No cell of these rows narrows 'for every input' (looked for: loops, veiled, ifaces, maps, wideKeys, modest, calm, conditions, laid).
  DERIVED. THE GIVEN ROWS OF THIS SEAT. 7 by the template 'for every input the law returns true; each argument reads behind the call as it read before'; 0 by the template 'total and deterministic' (their statements: YtgbgpmdhlocjhaaTotals.lean).
  GIVEN WITH THE SEED: the statements are not yours to turn. If you find one false, say at which input.
  Laid BY PROGRAM, IN A SANDBOX (cutbox-rows.mjs): the forced cells as the released guide's own fill.sh prints them over the translation c2b8dc114f4bdf20… (all of the seat's roots in one cut). By AI agents, Wed Nov 11 2026. No macro, syntax, notation, axiom, sorry.
-/
import Derived.Test.YtgbgpmdhlocjhaaChecked
import GoSem.Claim
import GoSem.ClaimJoined
import GoSem.ClaimMapViews
import Derived.JoinedTies
import Derived.KernelRfl
namespace Go.Proofs.Ytgbgpmdhlocjhaa
/- THE CELL 'sum', in the pinned program and in every row, IS THE sha256 OF THE DUMP (.gsa) THAT YtgbgpmdhlocjhaaProg.lean LOADS. Nothing in Lean hashes anything: it is a label: what it is worth is what the hold of that sum in a sandbox is worth. -/
noncomputable def Try.pinned : Pinned := { name := "ytgbgpmdhlocjhaa", sum := "c2b8dc114f4bdf20ece6aa3a840da8639e257338e9b229bf4222eb1e4b914c04", checked := Try.checked }
namespace Rows
def none {H : Type} : Left H := { results := [], args := [] }

/-- 'caulkerlaw06.ExtentTells': WHATEVER THE INPUT: true; the input reads as it did. -/
def extentTellsSpec : ChangeSpec := { name := "extentTells", fn := fun _ => fun
  | [d1, d2] => { results := [.lit (.bool true)], args := [d1, d2] }
  | _ => none }
def extentTellsRow : OpenClaim := { program := "ytgbgpmdhlocjhaa", sum := "c2b8dc114f4bdf20ece6aa3a840da8639e257338e9b229bf4222eb1e4b914c04", func := "caulker/caulkerlaw06.ExtentTells", spec := "extentTells", unfollowed := true, recurses := true, apart := false }
def ExtentTellsSaid : Prop := extentTellsRow.holds Try.pinned (OpenSpec.ofChange extentTellsSpec)

/-- ITS FALSE NEIGHBOUR: 'it returns false'. Refute it at one input. -/
def extentTellsWrong : ChangeSpec := { name := "extentTells", fn := fun _ => fun
  | [d1, d2] => { results := [.lit (.bool false)], args := [d1, d2] }
  | _ => none }
def ExtentTellsWrongFalsely : Prop := extentTellsRow.holds Try.pinned (OpenSpec.ofChange extentTellsWrong)

/-- 'caulkerlaw06.ExtentMakes': WHATEVER THE INPUT: true; the input reads as it did. -/
def extentMakesSpec : ChangeSpec := { name := "extentMakes", fn := fun _ => fun
  | [d1, d2] => { results := [.lit (.bool true)], args := [d1, d2] }
  | _ => none }
def extentMakesRow : OpenClaim := { program := "ytgbgpmdhlocjhaa", sum := "c2b8dc114f4bdf20ece6aa3a840da8639e257338e9b229bf4222eb1e4b914c04", func := "caulker/caulkerlaw06.ExtentMakes", spec := "extentMakes", unfollowed := true, recurses := true, apart := false }
def ExtentMakesSaid : Prop := extentMakesRow.holds Try.pinned (OpenSpec.ofChange extentMakesSpec)

/-- ITS FALSE NEIGHBOUR: 'it returns false'. Refute it at one input. -/
def extentMakesWrong : ChangeSpec := { name := "extentMakes", fn := fun _ => fun
  | [d1, d2] => { results := [.lit (.bool false)], args := [d1, d2] }
  | _ => none }
def ExtentMakesWrongFalsely : Prop := extentMakesRow.holds Try.pinned (OpenSpec.ofChange extentMakesWrong)

/-- 'caulkerlaw06.ExtentLows': WHATEVER THE INPUT: true; the input reads as it did. -/
def extentLowsSpec : ChangeSpec := { name := "extentLows", fn := fun _ => fun
  | [d1, d2] => { results := [.lit (.bool true)], args := [d1, d2] }
  | _ => none }
def extentLowsRow : OpenClaim := { program := "ytgbgpmdhlocjhaa", sum := "c2b8dc114f4bdf20ece6aa3a840da8639e257338e9b229bf4222eb1e4b914c04", func := "caulker/caulkerlaw06.ExtentLows", spec := "extentLows", unfollowed := true, recurses := true, apart := false }
def ExtentLowsSaid : Prop := extentLowsRow.holds Try.pinned (OpenSpec.ofChange extentLowsSpec)

/-- ITS FALSE NEIGHBOUR: 'it returns false'. Refute it at one input. -/
def extentLowsWrong : ChangeSpec := { name := "extentLows", fn := fun _ => fun
  | [d1, d2] => { results := [.lit (.bool false)], args := [d1, d2] }
  | _ => none }
def ExtentLowsWrongFalsely : Prop := extentLowsRow.holds Try.pinned (OpenSpec.ofChange extentLowsWrong)

/-- 'caulkerlaw06.ExtentKnown': WHATEVER THE INPUT: true; the input reads as it did. -/
def extentKnownSpec : ChangeSpec := { name := "extentKnown", fn := fun _ => fun
  | [] => { results := [.lit (.bool true)], args := [] }
  | _ => none }
def extentKnownRow : OpenClaim := { program := "ytgbgpmdhlocjhaa", sum := "c2b8dc114f4bdf20ece6aa3a840da8639e257338e9b229bf4222eb1e4b914c04", func := "caulker/caulkerlaw06.ExtentKnown", spec := "extentKnown", unfollowed := true, recurses := true, apart := false }
def ExtentKnownSaid : Prop := extentKnownRow.holds Try.pinned (OpenSpec.ofChange extentKnownSpec)

/-- ITS FALSE NEIGHBOUR: 'it returns false'. Refute it at one input. -/
def extentKnownWrong : ChangeSpec := { name := "extentKnown", fn := fun _ => fun
  | [] => { results := [.lit (.bool false)], args := [] }
  | _ => none }
def ExtentKnownWrongFalsely : Prop := extentKnownRow.holds Try.pinned (OpenSpec.ofChange extentKnownWrong)

/-- 'caulkerlaw06.ExtentBack': WHATEVER THE INPUT: true; the input reads as it did. -/
def extentBackSpec : ChangeSpec := { name := "extentBack", fn := fun _ => fun
  | [d1, d2] => { results := [.lit (.bool true)], args := [d1, d2] }
  | _ => none }
def extentBackRow : OpenClaim := { program := "ytgbgpmdhlocjhaa", sum := "c2b8dc114f4bdf20ece6aa3a840da8639e257338e9b229bf4222eb1e4b914c04", func := "caulker/caulkerlaw06.ExtentBack", spec := "extentBack", unfollowed := true, recurses := true, apart := false }
def ExtentBackSaid : Prop := extentBackRow.holds Try.pinned (OpenSpec.ofChange extentBackSpec)

/-- ITS FALSE NEIGHBOUR: 'it returns false'. Refute it at one input. -/
def extentBackWrong : ChangeSpec := { name := "extentBack", fn := fun _ => fun
  | [d1, d2] => { results := [.lit (.bool false)], args := [d1, d2] }
  | _ => none }
def ExtentBackWrongFalsely : Prop := extentBackRow.holds Try.pinned (OpenSpec.ofChange extentBackWrong)

/-- 'caulkerlaw06.ExtentSets': WHATEVER THE INPUT: true; the input reads as it did. -/
def extentSetsSpec : ChangeSpec := { name := "extentSets", fn := fun _ => fun
  | [d1, d2] => { results := [.lit (.bool true)], args := [d1, d2] }
  | _ => none }
def extentSetsRow : OpenClaim := { program := "ytgbgpmdhlocjhaa", sum := "c2b8dc114f4bdf20ece6aa3a840da8639e257338e9b229bf4222eb1e4b914c04", func := "caulker/caulkerlaw06.ExtentSets", spec := "extentSets", unfollowed := true, recurses := true, apart := false }
def ExtentSetsSaid : Prop := extentSetsRow.holds Try.pinned (OpenSpec.ofChange extentSetsSpec)

/-- ITS FALSE NEIGHBOUR: 'it returns false'. Refute it at one input. -/
def extentSetsWrong : ChangeSpec := { name := "extentSets", fn := fun _ => fun
  | [d1, d2] => { results := [.lit (.bool false)], args := [d1, d2] }
  | _ => none }
def ExtentSetsWrongFalsely : Prop := extentSetsRow.holds Try.pinned (OpenSpec.ofChange extentSetsWrong)

/-- 'caulkerlaw06.ExtentFirst': WHATEVER THE INPUT: true; the input reads as it did. -/
def extentFirstSpec : ChangeSpec := { name := "extentFirst", fn := fun _ => fun
  | [d1, d2] => { results := [.lit (.bool true)], args := [d1, d2] }
  | _ => none }
def extentFirstRow : OpenClaim := { program := "ytgbgpmdhlocjhaa", sum := "c2b8dc114f4bdf20ece6aa3a840da8639e257338e9b229bf4222eb1e4b914c04", func := "caulker/caulkerlaw06.ExtentFirst", spec := "extentFirst", unfollowed := true, recurses := true, apart := false }
def ExtentFirstSaid : Prop := extentFirstRow.holds Try.pinned (OpenSpec.ofChange extentFirstSpec)

/-- ITS FALSE NEIGHBOUR: 'it returns false'. Refute it at one input. -/
def extentFirstWrong : ChangeSpec := { name := "extentFirst", fn := fun _ => fun
  | [d1, d2] => { results := [.lit (.bool false)], args := [d1, d2] }
  | _ => none }
def ExtentFirstWrongFalsely : Prop := extentFirstRow.holds Try.pinned (OpenSpec.ofChange extentFirstWrong)

/- THE SECOND FORM. 'bulk': how many values and letters a reading holds, each counted each time it is reached (what is shared counts as often as it is met; a slice's spare places count too). A statement '..UptoSaid' is the law's where the arguments, and the package variables that the reading takes, are together of bulk at most 1048576: NARROWER than '..Said'. Prove '..Said' where nothing that the law and all that it calls make is longer than what came in: it says more and counts as full. Else prove '..UptoSaid'. A law counts once. -/
mutual
def uptoBulk {H : Type} : DataW H → Nat
  | .lit (.string bytes) => bytes.length + 1
  | .lit _ => 1
  | .nil => 1
  | .ptr d => uptoBulk d + 1
  | .slice elems spare => uptoBulkAll elems + uptoBulkAll spare + 1
  | .agg parts => uptoBulkAll parts + 1
  | .iface _ d => uptoBulk d + 1
  | .map entries => uptoBulkEntries entries + 1
  | .held _ => 1
def uptoBulkAll {H : Type} : List (DataW H) → Nat
  | [] => 0
  | d :: r => uptoBulk d + uptoBulkAll r
def uptoBulkEntries {H : Type} : List (Lit × DataW H) → Nat
  | [] => 0
  | x :: r => uptoBulkEntry x + uptoBulkEntries r
def uptoBulkEntry {H : Type} : Lit × DataW H → Nat
  | (.string bytes, d) => bytes.length + uptoBulk d + 1
  | (_, d) => uptoBulk d + 1
 end
def uptoSmall : (H : Type) → List (DataW H) → Bool := fun _ ds => decide (uptoBulkAll ds ≤ 1048576)
def OpenSpec.upto (s : _root_.Go.ChangeSpec) : _root_.Go.OpenSpec := { _root_.Go.OpenSpec.ofChange s with cond := some uptoSmall }

/-- 'caulkerlaw06.ExtentTells', WHERE WHAT IT READS IS OF BULK AT MOST 1048576: true; the input reads as it did. -/
def extentTellsUptoRow : OpenClaim := { program := "ytgbgpmdhlocjhaa", sum := "c2b8dc114f4bdf20ece6aa3a840da8639e257338e9b229bf4222eb1e4b914c04", func := "caulker/caulkerlaw06.ExtentTells", spec := "extentTells", unfollowed := true, recurses := true, apart := false, narrowed := true }
def ExtentTellsUptoSaid : Prop := extentTellsUptoRow.holds Try.pinned (OpenSpec.upto extentTellsSpec)

/-- 'caulkerlaw06.ExtentMakes', WHERE WHAT IT READS IS OF BULK AT MOST 1048576: true; the input reads as it did. -/
def extentMakesUptoRow : OpenClaim := { program := "ytgbgpmdhlocjhaa", sum := "c2b8dc114f4bdf20ece6aa3a840da8639e257338e9b229bf4222eb1e4b914c04", func := "caulker/caulkerlaw06.ExtentMakes", spec := "extentMakes", unfollowed := true, recurses := true, apart := false, narrowed := true }
def ExtentMakesUptoSaid : Prop := extentMakesUptoRow.holds Try.pinned (OpenSpec.upto extentMakesSpec)

/-- 'caulkerlaw06.ExtentLows', WHERE WHAT IT READS IS OF BULK AT MOST 1048576: true; the input reads as it did. -/
def extentLowsUptoRow : OpenClaim := { program := "ytgbgpmdhlocjhaa", sum := "c2b8dc114f4bdf20ece6aa3a840da8639e257338e9b229bf4222eb1e4b914c04", func := "caulker/caulkerlaw06.ExtentLows", spec := "extentLows", unfollowed := true, recurses := true, apart := false, narrowed := true }
def ExtentLowsUptoSaid : Prop := extentLowsUptoRow.holds Try.pinned (OpenSpec.upto extentLowsSpec)

/-- 'caulkerlaw06.ExtentKnown', WHERE WHAT IT READS IS OF BULK AT MOST 1048576: true; the input reads as it did. -/
def extentKnownUptoRow : OpenClaim := { program := "ytgbgpmdhlocjhaa", sum := "c2b8dc114f4bdf20ece6aa3a840da8639e257338e9b229bf4222eb1e4b914c04", func := "caulker/caulkerlaw06.ExtentKnown", spec := "extentKnown", unfollowed := true, recurses := true, apart := false, narrowed := true }
def ExtentKnownUptoSaid : Prop := extentKnownUptoRow.holds Try.pinned (OpenSpec.upto extentKnownSpec)

/-- 'caulkerlaw06.ExtentBack', WHERE WHAT IT READS IS OF BULK AT MOST 1048576: true; the input reads as it did. -/
def extentBackUptoRow : OpenClaim := { program := "ytgbgpmdhlocjhaa", sum := "c2b8dc114f4bdf20ece6aa3a840da8639e257338e9b229bf4222eb1e4b914c04", func := "caulker/caulkerlaw06.ExtentBack", spec := "extentBack", unfollowed := true, recurses := true, apart := false, narrowed := true }
def ExtentBackUptoSaid : Prop := extentBackUptoRow.holds Try.pinned (OpenSpec.upto extentBackSpec)

/-- 'caulkerlaw06.ExtentSets', WHERE WHAT IT READS IS OF BULK AT MOST 1048576: true; the input reads as it did. -/
def extentSetsUptoRow : OpenClaim := { program := "ytgbgpmdhlocjhaa", sum := "c2b8dc114f4bdf20ece6aa3a840da8639e257338e9b229bf4222eb1e4b914c04", func := "caulker/caulkerlaw06.ExtentSets", spec := "extentSets", unfollowed := true, recurses := true, apart := false, narrowed := true }
def ExtentSetsUptoSaid : Prop := extentSetsUptoRow.holds Try.pinned (OpenSpec.upto extentSetsSpec)

/-- 'caulkerlaw06.ExtentFirst', WHERE WHAT IT READS IS OF BULK AT MOST 1048576: true; the input reads as it did. -/
def extentFirstUptoRow : OpenClaim := { program := "ytgbgpmdhlocjhaa", sum := "c2b8dc114f4bdf20ece6aa3a840da8639e257338e9b229bf4222eb1e4b914c04", func := "caulker/caulkerlaw06.ExtentFirst", spec := "extentFirst", unfollowed := true, recurses := true, apart := false, narrowed := true }
def ExtentFirstUptoSaid : Prop := extentFirstUptoRow.holds Try.pinned (OpenSpec.upto extentFirstSpec)

end Rows
end Go.Proofs.Ytgbgpmdhlocjhaa
