/-
  NARROWER THAN 'FOR EVERY INPUT', by the rows' own cells (each row's printed sentence says how): ArrayNone: laid · ArrayKnown: laid · ArrayFirm: laid · ArrayApart: laid · ArrayFuses: laid · ArrayFaults: laid.
  DERIVED. THE GIVEN ROWS OF THIS SEAT. 6 by the template 'for every input the law returns true; each argument reads behind the call as it read before'; 0 by the template 'total and deterministic' (their statements: YtdebnikolhhmgaaDoorTotals.lean).
  GIVEN WITH THE SEED: the statements are not yours to turn. If you find one false, say at which input.
  Laid BY PROGRAM, IN A SANDBOX (cutbox-rows.mjs): the forced cells as the released guide's own fill.sh prints them over the translation 23ecc9f3b45fa8ef… (all of the seat's roots in one cut). By AI agents, Wed Nov 11 2026. No macro, syntax, notation, axiom, sorry.
-/
import Derived.Test.YtdebnikolhhmgaaDoorChecked
import GoSem.Claim
import GoSem.ClaimJoined
import GoSem.ClaimMapViews
import Derived.JoinedTies
import Derived.KernelRfl
namespace Go.Proofs.YtdebnikolhhmgaaDoor
/- THE CELL 'sum', in the pinned program and in every row, IS THE sha256 OF THE DUMP (.gsa) THAT YtdebnikolhhmgaaDoorProg.lean LOADS. Nothing in Lean hashes anything: it is a label: what it is worth is what the hold of that sum in a sandbox is worth. -/
noncomputable def Tryd.pinned : Pinned := { name := "ytdebnikolhhmgaadoor", sum := "23ecc9f3b45fa8eff0c7f6d277ebdf885d5e736b483e70c4d2dc2036f726aab2", checked := Tryd.checked }
namespace Rows
def none {H : Type} : Left H := { results := [], args := [] }

/- WHAT THE LISTED PACKAGE-LEVEL VARIABLES READ AS WHEN THE CALL BEGINS. Each datum BY PROGRAM (the guide's laid-datum.mjs) off the statement by which the dump's own 'gosem.cut.vars' lays the variable. In a bare row this is a premise. The card (YtdebnikolhhmgaaDoorCards.lean) ties it to the program's text. -/
def laid_caulker_array_errNil {H : Type} : DataW H := .iface "*errors.errorString" (.ptr (.agg [.lit (.string [110, 111, 116, 32, 109, 97, 100, 101, 32, 98, 121, 32, 78, 101, 119])]))
def laid_caulker_array_errBroken {H : Type} : DataW H := .iface "*errors.errorString" (.ptr (.agg [.lit (.string [110, 111, 116, 104, 105, 110, 103, 32, 109, 111, 114, 101, 32, 105, 115, 32, 100, 111, 110, 101])]))
def laid_caulker_array_errRange {H : Type} : DataW H := .iface "*errors.errorString" (.ptr (.agg [.lit (.string [110, 111, 110, 101, 32, 111, 102, 32, 116, 104, 97, 116, 32, 110, 117, 109, 98, 101, 114])]))
def laid_caulker_array_errArg {H : Type} : DataW H := .iface "*errors.errorString" (.ptr (.agg [.lit (.string [109, 97, 121, 32, 110, 111, 116, 32, 98, 101])]))
def laid_caulker_array_errGone {H : Type} : DataW H := .iface "*errors.errorString" (.ptr (.agg [.lit (.string [103, 111, 110, 101])]))
def laid_caulker_array_errIO {H : Type} : DataW H := .iface "*errors.errorString" (.ptr (.agg [.lit (.string [114, 101, 102, 117, 115, 101, 100])]))

/-- 'caulkerlaw15.ArrayNone': WHATEVER THE INPUT: true; the input reads as it did. -/
def arrayNoneSpec : ChangeSpec := { name := "arrayNone", fn := fun _ => fun
  | [d] => { results := [.lit (.bool true)], args := [d] }
  | _ => none }
def arrayNoneRow : OpenClaim := { program := "ytdebnikolhhmgaadoor", sum := "23ecc9f3b45fa8eff0c7f6d277ebdf885d5e736b483e70c4d2dc2036f726aab2", func := "caulker/caulkerlaw15.ArrayNone", spec := "arrayNone", inPlace := ["internal/reflectlite.TypeOf"], unfollowed := true, recurses := true, named := ["caulker/array.errArg", "caulker/array.errNil", "caulker/array.errBroken", "caulker/array.errRange", "caulker/array.errGone", "caulker/array.errIO"], apart := false, laid := [("caulker/array.errNil", laid_caulker_array_errNil), ("caulker/array.errBroken", laid_caulker_array_errBroken), ("caulker/array.errRange", laid_caulker_array_errRange), ("caulker/array.errArg", laid_caulker_array_errArg), ("caulker/array.errGone", laid_caulker_array_errGone), ("caulker/array.errIO", laid_caulker_array_errIO)] }
def ArrayNoneSaid : Prop := arrayNoneRow.holds Tryd.pinned (OpenSpec.ofChange arrayNoneSpec)

/-- ITS FALSE NEIGHBOUR: 'it returns false'. Refute it at one input. -/
def arrayNoneWrong : ChangeSpec := { name := "arrayNone", fn := fun _ => fun
  | [d] => { results := [.lit (.bool false)], args := [d] }
  | _ => none }
def ArrayNoneWrongFalsely : Prop := arrayNoneRow.holds Tryd.pinned (OpenSpec.ofChange arrayNoneWrong)

/-- 'caulkerlaw15.ArrayKnown': WHATEVER THE INPUT: true; the input reads as it did. -/
def arrayKnownSpec : ChangeSpec := { name := "arrayKnown", fn := fun _ => fun
  | [] => { results := [.lit (.bool true)], args := [] }
  | _ => none }
def arrayKnownRow : OpenClaim := { program := "ytdebnikolhhmgaadoor", sum := "23ecc9f3b45fa8eff0c7f6d277ebdf885d5e736b483e70c4d2dc2036f726aab2", func := "caulker/caulkerlaw15.ArrayKnown", spec := "arrayKnown", inPlace := ["internal/reflectlite.TypeOf"], unfollowed := true, recurses := true, named := ["caulker/array.errArg", "caulker/array.errNil", "caulker/array.errBroken", "caulker/array.errRange", "caulker/array.errGone", "caulker/array.errIO"], apart := false, laid := [("caulker/array.errNil", laid_caulker_array_errNil), ("caulker/array.errBroken", laid_caulker_array_errBroken), ("caulker/array.errRange", laid_caulker_array_errRange), ("caulker/array.errArg", laid_caulker_array_errArg), ("caulker/array.errGone", laid_caulker_array_errGone), ("caulker/array.errIO", laid_caulker_array_errIO)] }
def ArrayKnownSaid : Prop := arrayKnownRow.holds Tryd.pinned (OpenSpec.ofChange arrayKnownSpec)

/-- ITS FALSE NEIGHBOUR: 'it returns false'. Refute it at one input. -/
def arrayKnownWrong : ChangeSpec := { name := "arrayKnown", fn := fun _ => fun
  | [] => { results := [.lit (.bool false)], args := [] }
  | _ => none }
def ArrayKnownWrongFalsely : Prop := arrayKnownRow.holds Tryd.pinned (OpenSpec.ofChange arrayKnownWrong)

/-- 'caulkerlaw15.ArrayFirm': WHATEVER THE INPUT: true; the input reads as it did. -/
def arrayFirmSpec : ChangeSpec := { name := "arrayFirm", fn := fun _ => fun
  | [d1, d2, d3] => { results := [.lit (.bool true)], args := [d1, d2, d3] }
  | _ => none }
def arrayFirmRow : OpenClaim := { program := "ytdebnikolhhmgaadoor", sum := "23ecc9f3b45fa8eff0c7f6d277ebdf885d5e736b483e70c4d2dc2036f726aab2", func := "caulker/caulkerlaw15.ArrayFirm", spec := "arrayFirm", inPlace := ["internal/reflectlite.TypeOf"], unfollowed := true, recurses := true, named := ["caulker/array.errArg", "caulker/array.errNil", "caulker/array.errBroken", "caulker/array.errRange", "caulker/array.errGone", "caulker/array.errIO"], apart := false, laid := [("caulker/array.errNil", laid_caulker_array_errNil), ("caulker/array.errBroken", laid_caulker_array_errBroken), ("caulker/array.errRange", laid_caulker_array_errRange), ("caulker/array.errArg", laid_caulker_array_errArg), ("caulker/array.errGone", laid_caulker_array_errGone), ("caulker/array.errIO", laid_caulker_array_errIO)] }
def ArrayFirmSaid : Prop := arrayFirmRow.holds Tryd.pinned (OpenSpec.ofChange arrayFirmSpec)

/-- ITS FALSE NEIGHBOUR: 'it returns false'. Refute it at one input. -/
def arrayFirmWrong : ChangeSpec := { name := "arrayFirm", fn := fun _ => fun
  | [d1, d2, d3] => { results := [.lit (.bool false)], args := [d1, d2, d3] }
  | _ => none }
def ArrayFirmWrongFalsely : Prop := arrayFirmRow.holds Tryd.pinned (OpenSpec.ofChange arrayFirmWrong)

/-- 'caulkerlaw15.ArrayApart': WHATEVER THE INPUT: true; the input reads as it did. -/
def arrayApartSpec : ChangeSpec := { name := "arrayApart", fn := fun _ => fun
  | [d1, d2] => { results := [.lit (.bool true)], args := [d1, d2] }
  | _ => none }
def arrayApartRow : OpenClaim := { program := "ytdebnikolhhmgaadoor", sum := "23ecc9f3b45fa8eff0c7f6d277ebdf885d5e736b483e70c4d2dc2036f726aab2", func := "caulker/caulkerlaw15.ArrayApart", spec := "arrayApart", inPlace := ["internal/reflectlite.TypeOf"], unfollowed := true, recurses := true, named := ["caulker/array.errArg", "caulker/array.errNil", "caulker/array.errBroken", "caulker/array.errRange", "caulker/array.errGone", "caulker/array.errIO"], apart := false, laid := [("caulker/array.errNil", laid_caulker_array_errNil), ("caulker/array.errBroken", laid_caulker_array_errBroken), ("caulker/array.errRange", laid_caulker_array_errRange), ("caulker/array.errArg", laid_caulker_array_errArg), ("caulker/array.errGone", laid_caulker_array_errGone), ("caulker/array.errIO", laid_caulker_array_errIO)] }
def ArrayApartSaid : Prop := arrayApartRow.holds Tryd.pinned (OpenSpec.ofChange arrayApartSpec)

/-- ITS FALSE NEIGHBOUR: 'it returns false'. Refute it at one input. -/
def arrayApartWrong : ChangeSpec := { name := "arrayApart", fn := fun _ => fun
  | [d1, d2] => { results := [.lit (.bool false)], args := [d1, d2] }
  | _ => none }
def ArrayApartWrongFalsely : Prop := arrayApartRow.holds Tryd.pinned (OpenSpec.ofChange arrayApartWrong)

/-- 'caulkerlaw15.ArrayFuses': WHATEVER THE INPUT: true; the input reads as it did. -/
def arrayFusesSpec : ChangeSpec := { name := "arrayFuses", fn := fun _ => fun
  | [d1, d2] => { results := [.lit (.bool true)], args := [d1, d2] }
  | _ => none }
def arrayFusesRow : OpenClaim := { program := "ytdebnikolhhmgaadoor", sum := "23ecc9f3b45fa8eff0c7f6d277ebdf885d5e736b483e70c4d2dc2036f726aab2", func := "caulker/caulkerlaw15.ArrayFuses", spec := "arrayFuses", inPlace := ["internal/reflectlite.TypeOf"], unfollowed := true, recurses := true, named := ["caulker/array.errArg", "caulker/array.errNil", "caulker/array.errBroken", "caulker/array.errRange", "caulker/array.errGone", "caulker/array.errIO"], apart := false, laid := [("caulker/array.errNil", laid_caulker_array_errNil), ("caulker/array.errBroken", laid_caulker_array_errBroken), ("caulker/array.errRange", laid_caulker_array_errRange), ("caulker/array.errArg", laid_caulker_array_errArg), ("caulker/array.errGone", laid_caulker_array_errGone), ("caulker/array.errIO", laid_caulker_array_errIO)] }
def ArrayFusesSaid : Prop := arrayFusesRow.holds Tryd.pinned (OpenSpec.ofChange arrayFusesSpec)

/-- ITS FALSE NEIGHBOUR: 'it returns false'. Refute it at one input. -/
def arrayFusesWrong : ChangeSpec := { name := "arrayFuses", fn := fun _ => fun
  | [d1, d2] => { results := [.lit (.bool false)], args := [d1, d2] }
  | _ => none }
def ArrayFusesWrongFalsely : Prop := arrayFusesRow.holds Tryd.pinned (OpenSpec.ofChange arrayFusesWrong)

/-- 'caulkerlaw15.ArrayFaults': WHATEVER THE INPUT: true; the input reads as it did. -/
def arrayFaultsSpec : ChangeSpec := { name := "arrayFaults", fn := fun _ => fun
  | [d1, d2, d3, d4, d5] => { results := [.lit (.bool true)], args := [d1, d2, d3, d4, d5] }
  | _ => none }
def arrayFaultsRow : OpenClaim := { program := "ytdebnikolhhmgaadoor", sum := "23ecc9f3b45fa8eff0c7f6d277ebdf885d5e736b483e70c4d2dc2036f726aab2", func := "caulker/caulkerlaw15.ArrayFaults", spec := "arrayFaults", inPlace := ["internal/reflectlite.TypeOf"], unfollowed := true, recurses := true, named := ["caulker/array.errArg", "caulker/array.errNil", "caulker/array.errBroken", "caulker/array.errRange", "caulker/array.errGone", "caulker/array.errIO"], apart := false, laid := [("caulker/array.errNil", laid_caulker_array_errNil), ("caulker/array.errBroken", laid_caulker_array_errBroken), ("caulker/array.errRange", laid_caulker_array_errRange), ("caulker/array.errArg", laid_caulker_array_errArg), ("caulker/array.errGone", laid_caulker_array_errGone), ("caulker/array.errIO", laid_caulker_array_errIO)] }
def ArrayFaultsSaid : Prop := arrayFaultsRow.holds Tryd.pinned (OpenSpec.ofChange arrayFaultsSpec)

/-- ITS FALSE NEIGHBOUR: 'it returns false'. Refute it at one input. -/
def arrayFaultsWrong : ChangeSpec := { name := "arrayFaults", fn := fun _ => fun
  | [d1, d2, d3, d4, d5] => { results := [.lit (.bool false)], args := [d1, d2, d3, d4, d5] }
  | _ => none }
def ArrayFaultsWrongFalsely : Prop := arrayFaultsRow.holds Tryd.pinned (OpenSpec.ofChange arrayFaultsWrong)

/- THE SECOND FORM. 'bulk': how many values and letters a reading holds, each counted each time it is reached (what is shared counts as often as it is met; a slice's spare places count too). A statement '..UptoSaid' is the law's where the arguments, and the package variables that the reading takes, are together of bulk at most 1048576: NARROWER than '..Said'. Prove '..Said' where nothing that the law and all that it calls make is longer than what came in: it says more and counts as full. Else prove '..UptoSaid'. A law counts once. -/
mutual
def uptoBulk {H : Type} : DataW H → Nat
  | .lit (.string bytes) => bytes.length + 1
  | .lit _ => 1
  | .nil => 1
  | .ptr d => uptoBulk d + 1
  | .slice elems spare => uptoBulkAll elems + uptoBulkAll spare + 1
  | .agg parts => uptoBulkAll parts + 1
  | .iface _ d => uptoBulk d + 1
  | .map entries => uptoBulkEntries entries + 1
  | .held _ => 1
def uptoBulkAll {H : Type} : List (DataW H) → Nat
  | [] => 0
  | d :: r => uptoBulk d + uptoBulkAll r
def uptoBulkEntries {H : Type} : List (Lit × DataW H) → Nat
  | [] => 0
  | x :: r => uptoBulkEntry x + uptoBulkEntries r
def uptoBulkEntry {H : Type} : Lit × DataW H → Nat
  | (.string bytes, d) => bytes.length + uptoBulk d + 1
  | (_, d) => uptoBulk d + 1
 end
def uptoSmall : (H : Type) → List (DataW H) → Bool := fun _ ds => decide (uptoBulkAll ds ≤ 1048576)
def OpenSpec.upto (s : _root_.Go.ChangeSpec) : _root_.Go.OpenSpec := { _root_.Go.OpenSpec.ofChange s with cond := some uptoSmall }

/-- 'caulkerlaw15.ArrayNone', WHERE WHAT IT READS IS OF BULK AT MOST 1048576: true; the input reads as it did. -/
def arrayNoneUptoRow : OpenClaim := { program := "ytdebnikolhhmgaadoor", sum := "23ecc9f3b45fa8eff0c7f6d277ebdf885d5e736b483e70c4d2dc2036f726aab2", func := "caulker/caulkerlaw15.ArrayNone", spec := "arrayNone", inPlace := ["internal/reflectlite.TypeOf"], unfollowed := true, recurses := true, named := ["caulker/array.errArg", "caulker/array.errNil", "caulker/array.errBroken", "caulker/array.errRange", "caulker/array.errGone", "caulker/array.errIO"], apart := false, laid := [("caulker/array.errNil", laid_caulker_array_errNil), ("caulker/array.errBroken", laid_caulker_array_errBroken), ("caulker/array.errRange", laid_caulker_array_errRange), ("caulker/array.errArg", laid_caulker_array_errArg), ("caulker/array.errGone", laid_caulker_array_errGone), ("caulker/array.errIO", laid_caulker_array_errIO)], narrowed := true }
def ArrayNoneUptoSaid : Prop := arrayNoneUptoRow.holds Tryd.pinned (OpenSpec.upto arrayNoneSpec)

/-- 'caulkerlaw15.ArrayKnown', WHERE WHAT IT READS IS OF BULK AT MOST 1048576: true; the input reads as it did. -/
def arrayKnownUptoRow : OpenClaim := { program := "ytdebnikolhhmgaadoor", sum := "23ecc9f3b45fa8eff0c7f6d277ebdf885d5e736b483e70c4d2dc2036f726aab2", func := "caulker/caulkerlaw15.ArrayKnown", spec := "arrayKnown", inPlace := ["internal/reflectlite.TypeOf"], unfollowed := true, recurses := true, named := ["caulker/array.errArg", "caulker/array.errNil", "caulker/array.errBroken", "caulker/array.errRange", "caulker/array.errGone", "caulker/array.errIO"], apart := false, laid := [("caulker/array.errNil", laid_caulker_array_errNil), ("caulker/array.errBroken", laid_caulker_array_errBroken), ("caulker/array.errRange", laid_caulker_array_errRange), ("caulker/array.errArg", laid_caulker_array_errArg), ("caulker/array.errGone", laid_caulker_array_errGone), ("caulker/array.errIO", laid_caulker_array_errIO)], narrowed := true }
def ArrayKnownUptoSaid : Prop := arrayKnownUptoRow.holds Tryd.pinned (OpenSpec.upto arrayKnownSpec)

/-- 'caulkerlaw15.ArrayFirm', WHERE WHAT IT READS IS OF BULK AT MOST 1048576: true; the input reads as it did. -/
def arrayFirmUptoRow : OpenClaim := { program := "ytdebnikolhhmgaadoor", sum := "23ecc9f3b45fa8eff0c7f6d277ebdf885d5e736b483e70c4d2dc2036f726aab2", func := "caulker/caulkerlaw15.ArrayFirm", spec := "arrayFirm", inPlace := ["internal/reflectlite.TypeOf"], unfollowed := true, recurses := true, named := ["caulker/array.errArg", "caulker/array.errNil", "caulker/array.errBroken", "caulker/array.errRange", "caulker/array.errGone", "caulker/array.errIO"], apart := false, laid := [("caulker/array.errNil", laid_caulker_array_errNil), ("caulker/array.errBroken", laid_caulker_array_errBroken), ("caulker/array.errRange", laid_caulker_array_errRange), ("caulker/array.errArg", laid_caulker_array_errArg), ("caulker/array.errGone", laid_caulker_array_errGone), ("caulker/array.errIO", laid_caulker_array_errIO)], narrowed := true }
def ArrayFirmUptoSaid : Prop := arrayFirmUptoRow.holds Tryd.pinned (OpenSpec.upto arrayFirmSpec)

/-- 'caulkerlaw15.ArrayApart', WHERE WHAT IT READS IS OF BULK AT MOST 1048576: true; the input reads as it did. -/
def arrayApartUptoRow : OpenClaim := { program := "ytdebnikolhhmgaadoor", sum := "23ecc9f3b45fa8eff0c7f6d277ebdf885d5e736b483e70c4d2dc2036f726aab2", func := "caulker/caulkerlaw15.ArrayApart", spec := "arrayApart", inPlace := ["internal/reflectlite.TypeOf"], unfollowed := true, recurses := true, named := ["caulker/array.errArg", "caulker/array.errNil", "caulker/array.errBroken", "caulker/array.errRange", "caulker/array.errGone", "caulker/array.errIO"], apart := false, laid := [("caulker/array.errNil", laid_caulker_array_errNil), ("caulker/array.errBroken", laid_caulker_array_errBroken), ("caulker/array.errRange", laid_caulker_array_errRange), ("caulker/array.errArg", laid_caulker_array_errArg), ("caulker/array.errGone", laid_caulker_array_errGone), ("caulker/array.errIO", laid_caulker_array_errIO)], narrowed := true }
def ArrayApartUptoSaid : Prop := arrayApartUptoRow.holds Tryd.pinned (OpenSpec.upto arrayApartSpec)

/-- 'caulkerlaw15.ArrayFuses', WHERE WHAT IT READS IS OF BULK AT MOST 1048576: true; the input reads as it did. -/
def arrayFusesUptoRow : OpenClaim := { program := "ytdebnikolhhmgaadoor", sum := "23ecc9f3b45fa8eff0c7f6d277ebdf885d5e736b483e70c4d2dc2036f726aab2", func := "caulker/caulkerlaw15.ArrayFuses", spec := "arrayFuses", inPlace := ["internal/reflectlite.TypeOf"], unfollowed := true, recurses := true, named := ["caulker/array.errArg", "caulker/array.errNil", "caulker/array.errBroken", "caulker/array.errRange", "caulker/array.errGone", "caulker/array.errIO"], apart := false, laid := [("caulker/array.errNil", laid_caulker_array_errNil), ("caulker/array.errBroken", laid_caulker_array_errBroken), ("caulker/array.errRange", laid_caulker_array_errRange), ("caulker/array.errArg", laid_caulker_array_errArg), ("caulker/array.errGone", laid_caulker_array_errGone), ("caulker/array.errIO", laid_caulker_array_errIO)], narrowed := true }
def ArrayFusesUptoSaid : Prop := arrayFusesUptoRow.holds Tryd.pinned (OpenSpec.upto arrayFusesSpec)

/-- 'caulkerlaw15.ArrayFaults', WHERE WHAT IT READS IS OF BULK AT MOST 1048576: true; the input reads as it did. -/
def arrayFaultsUptoRow : OpenClaim := { program := "ytdebnikolhhmgaadoor", sum := "23ecc9f3b45fa8eff0c7f6d277ebdf885d5e736b483e70c4d2dc2036f726aab2", func := "caulker/caulkerlaw15.ArrayFaults", spec := "arrayFaults", inPlace := ["internal/reflectlite.TypeOf"], unfollowed := true, recurses := true, named := ["caulker/array.errArg", "caulker/array.errNil", "caulker/array.errBroken", "caulker/array.errRange", "caulker/array.errGone", "caulker/array.errIO"], apart := false, laid := [("caulker/array.errNil", laid_caulker_array_errNil), ("caulker/array.errBroken", laid_caulker_array_errBroken), ("caulker/array.errRange", laid_caulker_array_errRange), ("caulker/array.errArg", laid_caulker_array_errArg), ("caulker/array.errGone", laid_caulker_array_errGone), ("caulker/array.errIO", laid_caulker_array_errIO)], narrowed := true }
def ArrayFaultsUptoSaid : Prop := arrayFaultsUptoRow.holds Tryd.pinned (OpenSpec.upto arrayFaultsSpec)

end Rows
end Go.Proofs.YtdebnikolhhmgaaDoor
