/-
  No cell of these rows narrows 'for every input' (looked for: loops, veiled, ifaces, maps, wideKeys, modest, calm, conditions, laid).
  DERIVED. THE GIVEN ROWS OF THIS SEAT. 4 by the template 'for every input the law returns true; each argument reads behind the call as it read before'; 0 by the template 'total and deterministic' (their statements: YtafedmahehbggaaTotals.lean).
  GIVEN WITH THE SEED: the statements are not yours to turn. If you find one false, say at which input.
  Laid BY PROGRAM, IN A SANDBOX (cutbox-rows.mjs): the forced cells as the released guide's own fill.sh prints them over the translation 230226747b9d76c3… (all of the seat's roots in one cut). By AI agents, Wed Nov 11 2026. No macro, syntax, notation, axiom, sorry.
-/
import Derived.Test.YtafedmahehbggaaChecked
import GoSem.Claim
import GoSem.ClaimJoined
import GoSem.ClaimMapViews
import Derived.JoinedTies
import Derived.KernelRfl
namespace Go.Proofs.Ytafedmahehbggaa
/- THE CELL 'sum', in the pinned program and in every row, IS THE sha256 OF THE DUMP (.gsa) THAT YtafedmahehbggaaProg.lean LOADS. Nothing in Lean hashes anything: it is a label: what it is worth is what the hold of that sum in a sandbox is worth. -/
noncomputable def Try.pinned : Pinned := { name := "ytafedmahehbggaa", sum := "230226747b9d76c395bc2476e33cd6a3240ed79bae104d3c4c299d2636d95b17", checked := Try.checked }
namespace Rows
def none {H : Type} : Left H := { results := [], args := [] }

/-- 'caulkerlaw14.UsageTells': WHATEVER THE INPUT: true; the input reads as it did. -/
def usageTellsSpec : ChangeSpec := { name := "usageTells", fn := fun _ => fun
  | [d1, d2, d3, d4] => { results := [.lit (.bool true)], args := [d1, d2, d3, d4] }
  | _ => none }
def usageTellsRow : OpenClaim := { program := "ytafedmahehbggaa", sum := "230226747b9d76c395bc2476e33cd6a3240ed79bae104d3c4c299d2636d95b17", func := "caulker/caulkerlaw14.UsageTells", spec := "usageTells", unfollowed := true, recurses := true, plainKeys := false, apart := false }
def UsageTellsSaid : Prop := usageTellsRow.holds Try.pinned (OpenSpec.ofChange usageTellsSpec)

/-- ITS FALSE NEIGHBOUR: 'it returns false'. Refute it at one input. -/
def usageTellsWrong : ChangeSpec := { name := "usageTells", fn := fun _ => fun
  | [d1, d2, d3, d4] => { results := [.lit (.bool false)], args := [d1, d2, d3, d4] }
  | _ => none }
def UsageTellsWrongFalsely : Prop := usageTellsRow.holds Try.pinned (OpenSpec.ofChange usageTellsWrong)

/-- 'caulkerlaw14.UsageKnown': WHATEVER THE INPUT: true; the input reads as it did. -/
def usageKnownSpec : ChangeSpec := { name := "usageKnown", fn := fun _ => fun
  | [] => { results := [.lit (.bool true)], args := [] }
  | _ => none }
def usageKnownRow : OpenClaim := { program := "ytafedmahehbggaa", sum := "230226747b9d76c395bc2476e33cd6a3240ed79bae104d3c4c299d2636d95b17", func := "caulker/caulkerlaw14.UsageKnown", spec := "usageKnown", unfollowed := true, recurses := true, plainKeys := false, apart := false }
def UsageKnownSaid : Prop := usageKnownRow.holds Try.pinned (OpenSpec.ofChange usageKnownSpec)

/-- ITS FALSE NEIGHBOUR: 'it returns false'. Refute it at one input. -/
def usageKnownWrong : ChangeSpec := { name := "usageKnown", fn := fun _ => fun
  | [] => { results := [.lit (.bool false)], args := [] }
  | _ => none }
def UsageKnownWrongFalsely : Prop := usageKnownRow.holds Try.pinned (OpenSpec.ofChange usageKnownWrong)

/-- 'caulkerlaw14.UsageParts': WHATEVER THE INPUT: true; the input reads as it did. -/
def usagePartsSpec : ChangeSpec := { name := "usageParts", fn := fun _ => fun
  | [d1, d2, d3] => { results := [.lit (.bool true)], args := [d1, d2, d3] }
  | _ => none }
def usagePartsRow : OpenClaim := { program := "ytafedmahehbggaa", sum := "230226747b9d76c395bc2476e33cd6a3240ed79bae104d3c4c299d2636d95b17", func := "caulker/caulkerlaw14.UsageParts", spec := "usageParts", unfollowed := true, recurses := true, plainKeys := false, apart := false }
def UsagePartsSaid : Prop := usagePartsRow.holds Try.pinned (OpenSpec.ofChange usagePartsSpec)

/-- ITS FALSE NEIGHBOUR: 'it returns false'. Refute it at one input. -/
def usagePartsWrong : ChangeSpec := { name := "usageParts", fn := fun _ => fun
  | [d1, d2, d3] => { results := [.lit (.bool false)], args := [d1, d2, d3] }
  | _ => none }
def UsagePartsWrongFalsely : Prop := usagePartsRow.holds Try.pinned (OpenSpec.ofChange usagePartsWrong)

/-- 'caulkerlaw14.UsageCounts': WHATEVER THE INPUT: true; the input reads as it did. -/
def usageCountsSpec : ChangeSpec := { name := "usageCounts", fn := fun _ => fun
  | [d1, d2] => { results := [.lit (.bool true)], args := [d1, d2] }
  | _ => none }
def usageCountsRow : OpenClaim := { program := "ytafedmahehbggaa", sum := "230226747b9d76c395bc2476e33cd6a3240ed79bae104d3c4c299d2636d95b17", func := "caulker/caulkerlaw14.UsageCounts", spec := "usageCounts", unfollowed := true, recurses := true, plainKeys := false, apart := false }
def UsageCountsSaid : Prop := usageCountsRow.holds Try.pinned (OpenSpec.ofChange usageCountsSpec)

/-- ITS FALSE NEIGHBOUR: 'it returns false'. Refute it at one input. -/
def usageCountsWrong : ChangeSpec := { name := "usageCounts", fn := fun _ => fun
  | [d1, d2] => { results := [.lit (.bool false)], args := [d1, d2] }
  | _ => none }
def UsageCountsWrongFalsely : Prop := usageCountsRow.holds Try.pinned (OpenSpec.ofChange usageCountsWrong)

/- THE SECOND FORM. 'bulk': how many values and letters a reading holds, each counted each time it is reached (what is shared counts as often as it is met; a slice's spare places count too). A statement '..UptoSaid' is the law's where the arguments, and the package variables that the reading takes, are together of bulk at most 1048576: NARROWER than '..Said'. Prove '..Said' where nothing that the law and all that it calls make is longer than what came in: it says more and counts as full. Else prove '..UptoSaid'. A law counts once. -/
mutual
def uptoBulk {H : Type} : DataW H → Nat
  | .lit (.string bytes) => bytes.length + 1
  | .lit _ => 1
  | .nil => 1
  | .ptr d => uptoBulk d + 1
  | .slice elems spare => uptoBulkAll elems + uptoBulkAll spare + 1
  | .agg parts => uptoBulkAll parts + 1
  | .iface _ d => uptoBulk d + 1
  | .map entries => uptoBulkEntries entries + 1
  | .held _ => 1
def uptoBulkAll {H : Type} : List (DataW H) → Nat
  | [] => 0
  | d :: r => uptoBulk d + uptoBulkAll r
def uptoBulkEntries {H : Type} : List (Lit × DataW H) → Nat
  | [] => 0
  | x :: r => uptoBulkEntry x + uptoBulkEntries r
def uptoBulkEntry {H : Type} : Lit × DataW H → Nat
  | (.string bytes, d) => bytes.length + uptoBulk d + 1
  | (_, d) => uptoBulk d + 1
 end
def uptoSmall : (H : Type) → List (DataW H) → Bool := fun _ ds => decide (uptoBulkAll ds ≤ 1048576)
def OpenSpec.upto (s : _root_.Go.ChangeSpec) : _root_.Go.OpenSpec := { _root_.Go.OpenSpec.ofChange s with cond := some uptoSmall }

/-- 'caulkerlaw14.UsageTells', WHERE WHAT IT READS IS OF BULK AT MOST 1048576: true; the input reads as it did. -/
def usageTellsUptoRow : OpenClaim := { program := "ytafedmahehbggaa", sum := "230226747b9d76c395bc2476e33cd6a3240ed79bae104d3c4c299d2636d95b17", func := "caulker/caulkerlaw14.UsageTells", spec := "usageTells", unfollowed := true, recurses := true, plainKeys := false, apart := false, narrowed := true }
def UsageTellsUptoSaid : Prop := usageTellsUptoRow.holds Try.pinned (OpenSpec.upto usageTellsSpec)

/-- 'caulkerlaw14.UsageKnown', WHERE WHAT IT READS IS OF BULK AT MOST 1048576: true; the input reads as it did. -/
def usageKnownUptoRow : OpenClaim := { program := "ytafedmahehbggaa", sum := "230226747b9d76c395bc2476e33cd6a3240ed79bae104d3c4c299d2636d95b17", func := "caulker/caulkerlaw14.UsageKnown", spec := "usageKnown", unfollowed := true, recurses := true, plainKeys := false, apart := false, narrowed := true }
def UsageKnownUptoSaid : Prop := usageKnownUptoRow.holds Try.pinned (OpenSpec.upto usageKnownSpec)

/-- 'caulkerlaw14.UsageParts', WHERE WHAT IT READS IS OF BULK AT MOST 1048576: true; the input reads as it did. -/
def usagePartsUptoRow : OpenClaim := { program := "ytafedmahehbggaa", sum := "230226747b9d76c395bc2476e33cd6a3240ed79bae104d3c4c299d2636d95b17", func := "caulker/caulkerlaw14.UsageParts", spec := "usageParts", unfollowed := true, recurses := true, plainKeys := false, apart := false, narrowed := true }
def UsagePartsUptoSaid : Prop := usagePartsUptoRow.holds Try.pinned (OpenSpec.upto usagePartsSpec)

/-- 'caulkerlaw14.UsageCounts', WHERE WHAT IT READS IS OF BULK AT MOST 1048576: true; the input reads as it did. -/
def usageCountsUptoRow : OpenClaim := { program := "ytafedmahehbggaa", sum := "230226747b9d76c395bc2476e33cd6a3240ed79bae104d3c4c299d2636d95b17", func := "caulker/caulkerlaw14.UsageCounts", spec := "usageCounts", unfollowed := true, recurses := true, plainKeys := false, apart := false, narrowed := true }
def UsageCountsUptoSaid : Prop := usageCountsUptoRow.holds Try.pinned (OpenSpec.upto usageCountsSpec)

end Rows
end Go.Proofs.Ytafedmahehbggaa
