/-
  No cell of these rows narrows 'for every input' (looked for: loops, veiled, ifaces, maps, wideKeys, modest, calm, conditions, laid).
  DERIVED. THE GIVEN ROWS OF THIS SEAT. 10 by the template 'for every input the law returns true; each argument reads behind the call as it read before'; 0 by the template 'total and deterministic' (their statements: YtjjcjocomanohaaTotals.lean).
  GIVEN WITH THE SEED: the statements are not yours to turn. If you find one false, say at which input.
  Laid BY PROGRAM, IN A SANDBOX (cutbox-rows.mjs): the forced cells as the released guide's own fill.sh prints them over the translation f13101b4a1dbbc8a… (all of the seat's roots in one cut). By AI agents, Wed Nov 11 2026. No macro, syntax, notation, axiom, sorry.
-/
import Derived.Test.YtjjcjocomanohaaChecked
import GoSem.Claim
import GoSem.ClaimJoined
import GoSem.ClaimMapViews
import Derived.JoinedTies
import Derived.KernelRfl
namespace Go.Proofs.Ytjjcjocomanohaa
/- THE CELL 'sum', in the pinned program and in every row, IS THE sha256 OF THE DUMP (.gsa) THAT YtjjcjocomanohaaProg.lean LOADS. Nothing in Lean hashes anything: it is a label: what it is worth is what the hold of that sum in a sandbox is worth. -/
noncomputable def Try.pinned : Pinned := { name := "ytjjcjocomanohaa", sum := "f13101b4a1dbbc8adf3c8b254d6e9183e8bf4efbbc9ab9275ba2488cc86aed2e", checked := Try.checked }
namespace Rows
def none {H : Type} : Left H := { results := [], args := [] }

/-- 'caulkerlaw04.PointerTells': WHATEVER THE INPUT: true; the input reads as it did. -/
def pointerTellsSpec : ChangeSpec := { name := "pointerTells", fn := fun _ => fun
  | [d1, d2] => { results := [.lit (.bool true)], args := [d1, d2] }
  | _ => none }
def pointerTellsRow : OpenClaim := { program := "ytjjcjocomanohaa", sum := "f13101b4a1dbbc8adf3c8b254d6e9183e8bf4efbbc9ab9275ba2488cc86aed2e", func := "caulker/caulkerlaw04.PointerTells", spec := "pointerTells", unfollowed := true, recurses := true, apart := false }
def PointerTellsSaid : Prop := pointerTellsRow.holds Try.pinned (OpenSpec.ofChange pointerTellsSpec)

/-- ITS FALSE NEIGHBOUR: 'it returns false'. Refute it at one input. -/
def pointerTellsWrong : ChangeSpec := { name := "pointerTells", fn := fun _ => fun
  | [d1, d2] => { results := [.lit (.bool false)], args := [d1, d2] }
  | _ => none }
def PointerTellsWrongFalsely : Prop := pointerTellsRow.holds Try.pinned (OpenSpec.ofChange pointerTellsWrong)

/-- 'caulkerlaw04.PointerReads': WHATEVER THE INPUT: true; the input reads as it did. -/
def pointerReadsSpec : ChangeSpec := { name := "pointerReads", fn := fun _ => fun
  | [d] => { results := [.lit (.bool true)], args := [d] }
  | _ => none }
def pointerReadsRow : OpenClaim := { program := "ytjjcjocomanohaa", sum := "f13101b4a1dbbc8adf3c8b254d6e9183e8bf4efbbc9ab9275ba2488cc86aed2e", func := "caulker/caulkerlaw04.PointerReads", spec := "pointerReads", unfollowed := true, recurses := true, apart := false }
def PointerReadsSaid : Prop := pointerReadsRow.holds Try.pinned (OpenSpec.ofChange pointerReadsSpec)

/-- ITS FALSE NEIGHBOUR: 'it returns false'. Refute it at one input. -/
def pointerReadsWrong : ChangeSpec := { name := "pointerReads", fn := fun _ => fun
  | [d] => { results := [.lit (.bool false)], args := [d] }
  | _ => none }
def PointerReadsWrongFalsely : Prop := pointerReadsRow.holds Try.pinned (OpenSpec.ofChange pointerReadsWrong)

/-- 'caulkerlaw04.PointerKnown': WHATEVER THE INPUT: true; the input reads as it did. -/
def pointerKnownSpec : ChangeSpec := { name := "pointerKnown", fn := fun _ => fun
  | [] => { results := [.lit (.bool true)], args := [] }
  | _ => none }
def pointerKnownRow : OpenClaim := { program := "ytjjcjocomanohaa", sum := "f13101b4a1dbbc8adf3c8b254d6e9183e8bf4efbbc9ab9275ba2488cc86aed2e", func := "caulker/caulkerlaw04.PointerKnown", spec := "pointerKnown", unfollowed := true, recurses := true, apart := false }
def PointerKnownSaid : Prop := pointerKnownRow.holds Try.pinned (OpenSpec.ofChange pointerKnownSpec)

/-- ITS FALSE NEIGHBOUR: 'it returns false'. Refute it at one input. -/
def pointerKnownWrong : ChangeSpec := { name := "pointerKnown", fn := fun _ => fun
  | [] => { results := [.lit (.bool false)], args := [] }
  | _ => none }
def PointerKnownWrongFalsely : Prop := pointerKnownRow.holds Try.pinned (OpenSpec.ofChange pointerKnownWrong)

/-- 'caulkerlaw04.PointerBack': WHATEVER THE INPUT: true; the input reads as it did. -/
def pointerBackSpec : ChangeSpec := { name := "pointerBack", fn := fun _ => fun
  | [d1, d2] => { results := [.lit (.bool true)], args := [d1, d2] }
  | _ => none }
def pointerBackRow : OpenClaim := { program := "ytjjcjocomanohaa", sum := "f13101b4a1dbbc8adf3c8b254d6e9183e8bf4efbbc9ab9275ba2488cc86aed2e", func := "caulker/caulkerlaw04.PointerBack", spec := "pointerBack", unfollowed := true, recurses := true, apart := false }
def PointerBackSaid : Prop := pointerBackRow.holds Try.pinned (OpenSpec.ofChange pointerBackSpec)

/-- ITS FALSE NEIGHBOUR: 'it returns false'. Refute it at one input. -/
def pointerBackWrong : ChangeSpec := { name := "pointerBack", fn := fun _ => fun
  | [d1, d2] => { results := [.lit (.bool false)], args := [d1, d2] }
  | _ => none }
def PointerBackWrongFalsely : Prop := pointerBackRow.holds Try.pinned (OpenSpec.ofChange pointerBackWrong)

/-- 'caulkerlaw04.PointerOne': WHATEVER THE INPUT: true; the input reads as it did. -/
def pointerOneSpec : ChangeSpec := { name := "pointerOne", fn := fun _ => fun
  | [d1, d2] => { results := [.lit (.bool true)], args := [d1, d2] }
  | _ => none }
def pointerOneRow : OpenClaim := { program := "ytjjcjocomanohaa", sum := "f13101b4a1dbbc8adf3c8b254d6e9183e8bf4efbbc9ab9275ba2488cc86aed2e", func := "caulker/caulkerlaw04.PointerOne", spec := "pointerOne", unfollowed := true, recurses := true, apart := false }
def PointerOneSaid : Prop := pointerOneRow.holds Try.pinned (OpenSpec.ofChange pointerOneSpec)

/-- ITS FALSE NEIGHBOUR: 'it returns false'. Refute it at one input. -/
def pointerOneWrong : ChangeSpec := { name := "pointerOne", fn := fun _ => fun
  | [d1, d2] => { results := [.lit (.bool false)], args := [d1, d2] }
  | _ => none }
def PointerOneWrongFalsely : Prop := pointerOneRow.holds Try.pinned (OpenSpec.ofChange pointerOneWrong)

/-- 'caulkerlaw05.NodeTells': WHATEVER THE INPUT: true; the input reads as it did. -/
def nodeTellsSpec : ChangeSpec := { name := "nodeTells", fn := fun _ => fun
  | [d1, d2, d3] => { results := [.lit (.bool true)], args := [d1, d2, d3] }
  | _ => none }
def nodeTellsRow : OpenClaim := { program := "ytjjcjocomanohaa", sum := "f13101b4a1dbbc8adf3c8b254d6e9183e8bf4efbbc9ab9275ba2488cc86aed2e", func := "caulker/caulkerlaw05.NodeTells", spec := "nodeTells", unfollowed := true, recurses := true, apart := false }
def NodeTellsSaid : Prop := nodeTellsRow.holds Try.pinned (OpenSpec.ofChange nodeTellsSpec)

/-- ITS FALSE NEIGHBOUR: 'it returns false'. Refute it at one input. -/
def nodeTellsWrong : ChangeSpec := { name := "nodeTells", fn := fun _ => fun
  | [d1, d2, d3] => { results := [.lit (.bool false)], args := [d1, d2, d3] }
  | _ => none }
def NodeTellsWrongFalsely : Prop := nodeTellsRow.holds Try.pinned (OpenSpec.ofChange nodeTellsWrong)

/-- 'caulkerlaw05.NodeUnpacks': WHATEVER THE INPUT: true; the input reads as it did. -/
def nodeUnpacksSpec : ChangeSpec := { name := "nodeUnpacks", fn := fun _ => fun
  | [d] => { results := [.lit (.bool true)], args := [d] }
  | _ => none }
def nodeUnpacksRow : OpenClaim := { program := "ytjjcjocomanohaa", sum := "f13101b4a1dbbc8adf3c8b254d6e9183e8bf4efbbc9ab9275ba2488cc86aed2e", func := "caulker/caulkerlaw05.NodeUnpacks", spec := "nodeUnpacks", unfollowed := true, recurses := true, apart := false }
def NodeUnpacksSaid : Prop := nodeUnpacksRow.holds Try.pinned (OpenSpec.ofChange nodeUnpacksSpec)

/-- ITS FALSE NEIGHBOUR: 'it returns false'. Refute it at one input. -/
def nodeUnpacksWrong : ChangeSpec := { name := "nodeUnpacks", fn := fun _ => fun
  | [d] => { results := [.lit (.bool false)], args := [d] }
  | _ => none }
def NodeUnpacksWrongFalsely : Prop := nodeUnpacksRow.holds Try.pinned (OpenSpec.ofChange nodeUnpacksWrong)

/-- 'caulkerlaw05.NodeKnown': WHATEVER THE INPUT: true; the input reads as it did. -/
def nodeKnownSpec : ChangeSpec := { name := "nodeKnown", fn := fun _ => fun
  | [] => { results := [.lit (.bool true)], args := [] }
  | _ => none }
def nodeKnownRow : OpenClaim := { program := "ytjjcjocomanohaa", sum := "f13101b4a1dbbc8adf3c8b254d6e9183e8bf4efbbc9ab9275ba2488cc86aed2e", func := "caulker/caulkerlaw05.NodeKnown", spec := "nodeKnown", unfollowed := true, recurses := true, apart := false }
def NodeKnownSaid : Prop := nodeKnownRow.holds Try.pinned (OpenSpec.ofChange nodeKnownSpec)

/-- ITS FALSE NEIGHBOUR: 'it returns false'. Refute it at one input. -/
def nodeKnownWrong : ChangeSpec := { name := "nodeKnown", fn := fun _ => fun
  | [] => { results := [.lit (.bool false)], args := [] }
  | _ => none }
def NodeKnownWrongFalsely : Prop := nodeKnownRow.holds Try.pinned (OpenSpec.ofChange nodeKnownWrong)

/-- 'caulkerlaw05.NodeBack': WHATEVER THE INPUT: true; the input reads as it did. -/
def nodeBackSpec : ChangeSpec := { name := "nodeBack", fn := fun _ => fun
  | [d1, d2] => { results := [.lit (.bool true)], args := [d1, d2] }
  | _ => none }
def nodeBackRow : OpenClaim := { program := "ytjjcjocomanohaa", sum := "f13101b4a1dbbc8adf3c8b254d6e9183e8bf4efbbc9ab9275ba2488cc86aed2e", func := "caulker/caulkerlaw05.NodeBack", spec := "nodeBack", unfollowed := true, recurses := true, apart := false }
def NodeBackSaid : Prop := nodeBackRow.holds Try.pinned (OpenSpec.ofChange nodeBackSpec)

/-- ITS FALSE NEIGHBOUR: 'it returns false'. Refute it at one input. -/
def nodeBackWrong : ChangeSpec := { name := "nodeBack", fn := fun _ => fun
  | [d1, d2] => { results := [.lit (.bool false)], args := [d1, d2] }
  | _ => none }
def NodeBackWrongFalsely : Prop := nodeBackRow.holds Try.pinned (OpenSpec.ofChange nodeBackWrong)

/-- 'caulkerlaw05.NodeSets': WHATEVER THE INPUT: true; the input reads as it did. -/
def nodeSetsSpec : ChangeSpec := { name := "nodeSets", fn := fun _ => fun
  | [d1, d2, d3] => { results := [.lit (.bool true)], args := [d1, d2, d3] }
  | _ => none }
def nodeSetsRow : OpenClaim := { program := "ytjjcjocomanohaa", sum := "f13101b4a1dbbc8adf3c8b254d6e9183e8bf4efbbc9ab9275ba2488cc86aed2e", func := "caulker/caulkerlaw05.NodeSets", spec := "nodeSets", unfollowed := true, recurses := true, apart := false }
def NodeSetsSaid : Prop := nodeSetsRow.holds Try.pinned (OpenSpec.ofChange nodeSetsSpec)

/-- ITS FALSE NEIGHBOUR: 'it returns false'. Refute it at one input. -/
def nodeSetsWrong : ChangeSpec := { name := "nodeSets", fn := fun _ => fun
  | [d1, d2, d3] => { results := [.lit (.bool false)], args := [d1, d2, d3] }
  | _ => none }
def NodeSetsWrongFalsely : Prop := nodeSetsRow.holds Try.pinned (OpenSpec.ofChange nodeSetsWrong)

/- THE SECOND FORM. 'bulk': how many values and letters a reading holds, each counted each time it is reached (what is shared counts as often as it is met; a slice's spare places count too). A statement '..UptoSaid' is the law's where the arguments, and the package variables that the reading takes, are together of bulk at most 1048576: NARROWER than '..Said'. Prove '..Said' where nothing that the law and all that it calls make is longer than what came in: it says more and counts as full. Else prove '..UptoSaid'. A law counts once. -/
mutual
def uptoBulk {H : Type} : DataW H → Nat
  | .lit (.string bytes) => bytes.length + 1
  | .lit _ => 1
  | .nil => 1
  | .ptr d => uptoBulk d + 1
  | .slice elems spare => uptoBulkAll elems + uptoBulkAll spare + 1
  | .agg parts => uptoBulkAll parts + 1
  | .iface _ d => uptoBulk d + 1
  | .map entries => uptoBulkEntries entries + 1
  | .held _ => 1
def uptoBulkAll {H : Type} : List (DataW H) → Nat
  | [] => 0
  | d :: r => uptoBulk d + uptoBulkAll r
def uptoBulkEntries {H : Type} : List (Lit × DataW H) → Nat
  | [] => 0
  | x :: r => uptoBulkEntry x + uptoBulkEntries r
def uptoBulkEntry {H : Type} : Lit × DataW H → Nat
  | (.string bytes, d) => bytes.length + uptoBulk d + 1
  | (_, d) => uptoBulk d + 1
 end
def uptoSmall : (H : Type) → List (DataW H) → Bool := fun _ ds => decide (uptoBulkAll ds ≤ 1048576)
def OpenSpec.upto (s : _root_.Go.ChangeSpec) : _root_.Go.OpenSpec := { _root_.Go.OpenSpec.ofChange s with cond := some uptoSmall }

/-- 'caulkerlaw04.PointerTells', WHERE WHAT IT READS IS OF BULK AT MOST 1048576: true; the input reads as it did. -/
def pointerTellsUptoRow : OpenClaim := { program := "ytjjcjocomanohaa", sum := "f13101b4a1dbbc8adf3c8b254d6e9183e8bf4efbbc9ab9275ba2488cc86aed2e", func := "caulker/caulkerlaw04.PointerTells", spec := "pointerTells", unfollowed := true, recurses := true, apart := false, narrowed := true }
def PointerTellsUptoSaid : Prop := pointerTellsUptoRow.holds Try.pinned (OpenSpec.upto pointerTellsSpec)

/-- 'caulkerlaw04.PointerReads', WHERE WHAT IT READS IS OF BULK AT MOST 1048576: true; the input reads as it did. -/
def pointerReadsUptoRow : OpenClaim := { program := "ytjjcjocomanohaa", sum := "f13101b4a1dbbc8adf3c8b254d6e9183e8bf4efbbc9ab9275ba2488cc86aed2e", func := "caulker/caulkerlaw04.PointerReads", spec := "pointerReads", unfollowed := true, recurses := true, apart := false, narrowed := true }
def PointerReadsUptoSaid : Prop := pointerReadsUptoRow.holds Try.pinned (OpenSpec.upto pointerReadsSpec)

/-- 'caulkerlaw04.PointerKnown', WHERE WHAT IT READS IS OF BULK AT MOST 1048576: true; the input reads as it did. -/
def pointerKnownUptoRow : OpenClaim := { program := "ytjjcjocomanohaa", sum := "f13101b4a1dbbc8adf3c8b254d6e9183e8bf4efbbc9ab9275ba2488cc86aed2e", func := "caulker/caulkerlaw04.PointerKnown", spec := "pointerKnown", unfollowed := true, recurses := true, apart := false, narrowed := true }
def PointerKnownUptoSaid : Prop := pointerKnownUptoRow.holds Try.pinned (OpenSpec.upto pointerKnownSpec)

/-- 'caulkerlaw04.PointerBack', WHERE WHAT IT READS IS OF BULK AT MOST 1048576: true; the input reads as it did. -/
def pointerBackUptoRow : OpenClaim := { program := "ytjjcjocomanohaa", sum := "f13101b4a1dbbc8adf3c8b254d6e9183e8bf4efbbc9ab9275ba2488cc86aed2e", func := "caulker/caulkerlaw04.PointerBack", spec := "pointerBack", unfollowed := true, recurses := true, apart := false, narrowed := true }
def PointerBackUptoSaid : Prop := pointerBackUptoRow.holds Try.pinned (OpenSpec.upto pointerBackSpec)

/-- 'caulkerlaw04.PointerOne', WHERE WHAT IT READS IS OF BULK AT MOST 1048576: true; the input reads as it did. -/
def pointerOneUptoRow : OpenClaim := { program := "ytjjcjocomanohaa", sum := "f13101b4a1dbbc8adf3c8b254d6e9183e8bf4efbbc9ab9275ba2488cc86aed2e", func := "caulker/caulkerlaw04.PointerOne", spec := "pointerOne", unfollowed := true, recurses := true, apart := false, narrowed := true }
def PointerOneUptoSaid : Prop := pointerOneUptoRow.holds Try.pinned (OpenSpec.upto pointerOneSpec)

/-- 'caulkerlaw05.NodeTells', WHERE WHAT IT READS IS OF BULK AT MOST 1048576: true; the input reads as it did. -/
def nodeTellsUptoRow : OpenClaim := { program := "ytjjcjocomanohaa", sum := "f13101b4a1dbbc8adf3c8b254d6e9183e8bf4efbbc9ab9275ba2488cc86aed2e", func := "caulker/caulkerlaw05.NodeTells", spec := "nodeTells", unfollowed := true, recurses := true, apart := false, narrowed := true }
def NodeTellsUptoSaid : Prop := nodeTellsUptoRow.holds Try.pinned (OpenSpec.upto nodeTellsSpec)

/-- 'caulkerlaw05.NodeUnpacks', WHERE WHAT IT READS IS OF BULK AT MOST 1048576: true; the input reads as it did. -/
def nodeUnpacksUptoRow : OpenClaim := { program := "ytjjcjocomanohaa", sum := "f13101b4a1dbbc8adf3c8b254d6e9183e8bf4efbbc9ab9275ba2488cc86aed2e", func := "caulker/caulkerlaw05.NodeUnpacks", spec := "nodeUnpacks", unfollowed := true, recurses := true, apart := false, narrowed := true }
def NodeUnpacksUptoSaid : Prop := nodeUnpacksUptoRow.holds Try.pinned (OpenSpec.upto nodeUnpacksSpec)

/-- 'caulkerlaw05.NodeKnown', WHERE WHAT IT READS IS OF BULK AT MOST 1048576: true; the input reads as it did. -/
def nodeKnownUptoRow : OpenClaim := { program := "ytjjcjocomanohaa", sum := "f13101b4a1dbbc8adf3c8b254d6e9183e8bf4efbbc9ab9275ba2488cc86aed2e", func := "caulker/caulkerlaw05.NodeKnown", spec := "nodeKnown", unfollowed := true, recurses := true, apart := false, narrowed := true }
def NodeKnownUptoSaid : Prop := nodeKnownUptoRow.holds Try.pinned (OpenSpec.upto nodeKnownSpec)

/-- 'caulkerlaw05.NodeBack', WHERE WHAT IT READS IS OF BULK AT MOST 1048576: true; the input reads as it did. -/
def nodeBackUptoRow : OpenClaim := { program := "ytjjcjocomanohaa", sum := "f13101b4a1dbbc8adf3c8b254d6e9183e8bf4efbbc9ab9275ba2488cc86aed2e", func := "caulker/caulkerlaw05.NodeBack", spec := "nodeBack", unfollowed := true, recurses := true, apart := false, narrowed := true }
def NodeBackUptoSaid : Prop := nodeBackUptoRow.holds Try.pinned (OpenSpec.upto nodeBackSpec)

/-- 'caulkerlaw05.NodeSets', WHERE WHAT IT READS IS OF BULK AT MOST 1048576: true; the input reads as it did. -/
def nodeSetsUptoRow : OpenClaim := { program := "ytjjcjocomanohaa", sum := "f13101b4a1dbbc8adf3c8b254d6e9183e8bf4efbbc9ab9275ba2488cc86aed2e", func := "caulker/caulkerlaw05.NodeSets", spec := "nodeSets", unfollowed := true, recurses := true, apart := false, narrowed := true }
def NodeSetsUptoSaid : Prop := nodeSetsUptoRow.holds Try.pinned (OpenSpec.upto nodeSetsSpec)

end Rows
end Go.Proofs.Ytjjcjocomanohaa
