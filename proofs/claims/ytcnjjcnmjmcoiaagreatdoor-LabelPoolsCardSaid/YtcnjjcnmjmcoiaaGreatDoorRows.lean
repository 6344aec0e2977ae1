/-
  NARROWER THAN 'FOR EVERY INPUT', by the rows' own cells (each row's printed sentence says how): LabelReads: laid · LabelPools: laid · LabelKnown: laid · LabelBack: laid · LabelMost: laid.
  DERIVED. THE GIVEN ROWS OF THIS SEAT. 5 by the template 'for every input the law returns true; each argument reads behind the call as it read before'; 0 by the template 'total and deterministic' (their statements: YtcnjjcnmjmcoiaaGreatDoorTotals.lean).
  GIVEN WITH THE SEED: the statements are not yours to turn. If you find one false, say at which input.
  Laid BY PROGRAM, IN A SANDBOX (cutbox-rows.mjs): the forced cells as the released guide's own fill.sh prints them over the translation d31be19ae71d8684… (all of the seat's roots in one cut). By AI agents, Wed Nov 11 2026. No macro, syntax, notation, axiom, sorry.
-/
import Derived.Test.YtcnjjcnmjmcoiaaGreatDoorChecked
import GoSem.Claim
import GoSem.ClaimJoined
import GoSem.ClaimMapViews
import Derived.JoinedTies
import Derived.KernelRfl
namespace Go.Proofs.YtcnjjcnmjmcoiaaGreatDoor
/- THE CELL 'sum', in the pinned program and in every row, IS THE sha256 OF THE DUMP (.gsa) THAT YtcnjjcnmjmcoiaaGreatDoorProg.lean LOADS. Nothing in Lean hashes anything: it is a label: what it is worth is what the hold of that sum in a sandbox is worth. -/
noncomputable def Tryz.pinned : Pinned := { name := "ytcnjjcnmjmcoiaagreatdoor", sum := "d31be19ae71d8684581a10316d8ce21c8b8b4f5ac6fc6d378f558d4e0ac7f19e", checked := Tryz.checked }
namespace Rows
def none {H : Type} : Left H := { results := [], args := [] }

/- WHAT THE LISTED PACKAGE-LEVEL VARIABLES READ AS WHEN THE CALL BEGINS. Each datum BY PROGRAM (the guide's laid-datum.mjs) off the statement by which the dump's own 'gosem.cut.vars' lays the variable. In a bare row this is a premise. The card (YtcnjjcnmjmcoiaaGreatDoorCards.lean) ties it to the program's text. -/
def laid_caulker_hash_addends {H : Type} : DataW H := .agg [.lit (.int .u32 1116352408), .lit (.int .u32 1899447441), .lit (.int .u32 3049323471), .lit (.int .u32 3921009573), .lit (.int .u32 961987163), .lit (.int .u32 1508970993), .lit (.int .u32 2453635748), .lit (.int .u32 2870763221), .lit (.int .u32 3624381080), .lit (.int .u32 310598401), .lit (.int .u32 607225278), .lit (.int .u32 1426881987), .lit (.int .u32 1925078388), .lit (.int .u32 2162078206), .lit (.int .u32 2614888103), .lit (.int .u32 3248222580), .lit (.int .u32 3835390401), .lit (.int .u32 4022224774), .lit (.int .u32 264347078), .lit (.int .u32 604807628), .lit (.int .u32 770255983), .lit (.int .u32 1249150122), .lit (.int .u32 1555081692), .lit (.int .u32 1996064986), .lit (.int .u32 2554220882), .lit (.int .u32 2821834349), .lit (.int .u32 2952996808), .lit (.int .u32 3210313671), .lit (.int .u32 3336571891), .lit (.int .u32 3584528711), .lit (.int .u32 113926993), .lit (.int .u32 338241895), .lit (.int .u32 666307205), .lit (.int .u32 773529912), .lit (.int .u32 1294757372), .lit (.int .u32 1396182291), .lit (.int .u32 1695183700), .lit (.int .u32 1986661051), .lit (.int .u32 2177026350), .lit (.int .u32 2456956037), .lit (.int .u32 2730485921), .lit (.int .u32 2820302411), .lit (.int .u32 3259730800), .lit (.int .u32 3345764771), .lit (.int .u32 3516065817), .lit (.int .u32 3600352804), .lit (.int .u32 4094571909), .lit (.int .u32 275423344), .lit (.int .u32 430227734), .lit (.int .u32 506948616), .lit (.int .u32 659060556), .lit (.int .u32 883997877), .lit (.int .u32 958139571), .lit (.int .u32 1322822218), .lit (.int .u32 1537002063), .lit (.int .u32 1747873779), .lit (.int .u32 1955562222), .lit (.int .u32 2024104815), .lit (.int .u32 2227730452), .lit (.int .u32 2361852424), .lit (.int .u32 2428436474), .lit (.int .u32 2756734187), .lit (.int .u32 3204031479), .lit (.int .u32 3329325298)]

/-- 'caulkerlaw08.LabelReads': WHATEVER THE INPUT: true; the input reads as it did. -/
def labelReadsSpec : ChangeSpec := { name := "labelReads", fn := fun _ => fun
  | [d] => { results := [.lit (.bool true)], args := [d] }
  | _ => none }
def labelReadsRow : OpenClaim := { program := "ytcnjjcnmjmcoiaagreatdoor", sum := "d31be19ae71d8684581a10316d8ce21c8b8b4f5ac6fc6d378f558d4e0ac7f19e", func := "caulker/caulkerlaw08.LabelReads", spec := "labelReads", inPlace := ["internal/bytealg.Count", "internal/bytealg.IndexByte", "internal/bytealg.Index"], unfollowed := true, recurses := true, named := ["caulker/hash.addends", "internal/bytealg.MaxLen"], plainKeys := false, apart := false, laid := [("caulker/hash.addends", laid_caulker_hash_addends)] }
def LabelReadsSaid : Prop := labelReadsRow.holds Tryz.pinned (OpenSpec.ofChange labelReadsSpec)

/-- ITS FALSE NEIGHBOUR: 'it returns false'. Refute it at one input. -/
def labelReadsWrong : ChangeSpec := { name := "labelReads", fn := fun _ => fun
  | [d] => { results := [.lit (.bool false)], args := [d] }
  | _ => none }
def LabelReadsWrongFalsely : Prop := labelReadsRow.holds Tryz.pinned (OpenSpec.ofChange labelReadsWrong)

/-- 'caulkerlaw08.LabelPools': WHATEVER THE INPUT: true; the input reads as it did. -/
def labelPoolsSpec : ChangeSpec := { name := "labelPools", fn := fun _ => fun
  | [d1, d2, d3, d4] => { results := [.lit (.bool true)], args := [d1, d2, d3, d4] }
  | _ => none }
def labelPoolsRow : OpenClaim := { program := "ytcnjjcnmjmcoiaagreatdoor", sum := "d31be19ae71d8684581a10316d8ce21c8b8b4f5ac6fc6d378f558d4e0ac7f19e", func := "caulker/caulkerlaw08.LabelPools", spec := "labelPools", inPlace := ["internal/bytealg.Count", "internal/bytealg.IndexByte", "internal/bytealg.Index", "internal/bytealg.Compare"], unfollowed := true, recurses := true, named := ["caulker/hash.addends", "internal/bytealg.MaxLen"], plainKeys := false, apart := false, laid := [("caulker/hash.addends", laid_caulker_hash_addends)] }
def LabelPoolsSaid : Prop := labelPoolsRow.holds Tryz.pinned (OpenSpec.ofChange labelPoolsSpec)

/-- ITS FALSE NEIGHBOUR: 'it returns false'. Refute it at one input. -/
def labelPoolsWrong : ChangeSpec := { name := "labelPools", fn := fun _ => fun
  | [d1, d2, d3, d4] => { results := [.lit (.bool false)], args := [d1, d2, d3, d4] }
  | _ => none }
def LabelPoolsWrongFalsely : Prop := labelPoolsRow.holds Tryz.pinned (OpenSpec.ofChange labelPoolsWrong)

/-- 'caulkerlaw08.LabelKnown': WHATEVER THE INPUT: true; the input reads as it did. -/
def labelKnownSpec : ChangeSpec := { name := "labelKnown", fn := fun _ => fun
  | [] => { results := [.lit (.bool true)], args := [] }
  | _ => none }
def labelKnownRow : OpenClaim := { program := "ytcnjjcnmjmcoiaagreatdoor", sum := "d31be19ae71d8684581a10316d8ce21c8b8b4f5ac6fc6d378f558d4e0ac7f19e", func := "caulker/caulkerlaw08.LabelKnown", spec := "labelKnown", inPlace := ["internal/bytealg.Count", "internal/bytealg.IndexByte", "internal/bytealg.Index", "internal/bytealg.Compare"], unfollowed := true, recurses := true, named := ["internal/bytealg.MaxLen", "caulker/hash.addends"], plainKeys := false, apart := false, laid := [("caulker/hash.addends", laid_caulker_hash_addends)] }
def LabelKnownSaid : Prop := labelKnownRow.holds Tryz.pinned (OpenSpec.ofChange labelKnownSpec)

/-- ITS FALSE NEIGHBOUR: 'it returns false'. Refute it at one input. -/
def labelKnownWrong : ChangeSpec := { name := "labelKnown", fn := fun _ => fun
  | [] => { results := [.lit (.bool false)], args := [] }
  | _ => none }
def LabelKnownWrongFalsely : Prop := labelKnownRow.holds Tryz.pinned (OpenSpec.ofChange labelKnownWrong)

/-- 'caulkerlaw08.LabelBack': WHATEVER THE INPUT: true; the input reads as it did. -/
def labelBackSpec : ChangeSpec := { name := "labelBack", fn := fun _ => fun
  | [d1, d2] => { results := [.lit (.bool true)], args := [d1, d2] }
  | _ => none }
def labelBackRow : OpenClaim := { program := "ytcnjjcnmjmcoiaagreatdoor", sum := "d31be19ae71d8684581a10316d8ce21c8b8b4f5ac6fc6d378f558d4e0ac7f19e", func := "caulker/caulkerlaw08.LabelBack", spec := "labelBack", inPlace := ["internal/bytealg.Count", "internal/bytealg.IndexByte", "internal/bytealg.Index", "internal/bytealg.Compare"], unfollowed := true, recurses := true, named := ["internal/bytealg.MaxLen", "caulker/hash.addends"], plainKeys := false, apart := false, laid := [("caulker/hash.addends", laid_caulker_hash_addends)] }
def LabelBackSaid : Prop := labelBackRow.holds Tryz.pinned (OpenSpec.ofChange labelBackSpec)

/-- ITS FALSE NEIGHBOUR: 'it returns false'. Refute it at one input. -/
def labelBackWrong : ChangeSpec := { name := "labelBack", fn := fun _ => fun
  | [d1, d2] => { results := [.lit (.bool false)], args := [d1, d2] }
  | _ => none }
def LabelBackWrongFalsely : Prop := labelBackRow.holds Tryz.pinned (OpenSpec.ofChange labelBackWrong)

/-- 'caulkerlaw08.LabelMost': WHATEVER THE INPUT: true; the input reads as it did. -/
def labelMostSpec : ChangeSpec := { name := "labelMost", fn := fun _ => fun
  | [d1, d2, d3, d4] => { results := [.lit (.bool true)], args := [d1, d2, d3, d4] }
  | _ => none }
def labelMostRow : OpenClaim := { program := "ytcnjjcnmjmcoiaagreatdoor", sum := "d31be19ae71d8684581a10316d8ce21c8b8b4f5ac6fc6d378f558d4e0ac7f19e", func := "caulker/caulkerlaw08.LabelMost", spec := "labelMost", inPlace := ["internal/bytealg.Count", "internal/bytealg.IndexByte", "internal/bytealg.Index", "internal/bytealg.Compare"], unfollowed := true, recurses := true, named := ["caulker/hash.addends", "internal/bytealg.MaxLen"], plainKeys := false, apart := false, laid := [("caulker/hash.addends", laid_caulker_hash_addends)] }
def LabelMostSaid : Prop := labelMostRow.holds Tryz.pinned (OpenSpec.ofChange labelMostSpec)

/-- ITS FALSE NEIGHBOUR: 'it returns false'. Refute it at one input. -/
def labelMostWrong : ChangeSpec := { name := "labelMost", fn := fun _ => fun
  | [d1, d2, d3, d4] => { results := [.lit (.bool false)], args := [d1, d2, d3, d4] }
  | _ => none }
def LabelMostWrongFalsely : Prop := labelMostRow.holds Tryz.pinned (OpenSpec.ofChange labelMostWrong)

/- THE SECOND FORM. 'bulk': how many values and letters a reading holds, each counted each time it is reached (what is shared counts as often as it is met; a slice's spare places count too). A statement '..UptoSaid' is the law's where the arguments, and the package variables that the reading takes, are together of bulk at most 1048576: NARROWER than '..Said'. Prove '..Said' where nothing that the law and all that it calls make is longer than what came in: it says more and counts as full. Else prove '..UptoSaid'. A law counts once. -/
mutual
def uptoBulk {H : Type} : DataW H → Nat
  | .lit (.string bytes) => bytes.length + 1
  | .lit _ => 1
  | .nil => 1
  | .ptr d => uptoBulk d + 1
  | .slice elems spare => uptoBulkAll elems + uptoBulkAll spare + 1
  | .agg parts => uptoBulkAll parts + 1
  | .iface _ d => uptoBulk d + 1
  | .map entries => uptoBulkEntries entries + 1
  | .held _ => 1
def uptoBulkAll {H : Type} : List (DataW H) → Nat
  | [] => 0
  | d :: r => uptoBulk d + uptoBulkAll r
def uptoBulkEntries {H : Type} : List (Lit × DataW H) → Nat
  | [] => 0
  | x :: r => uptoBulkEntry x + uptoBulkEntries r
def uptoBulkEntry {H : Type} : Lit × DataW H → Nat
  | (.string bytes, d) => bytes.length + uptoBulk d + 1
  | (_, d) => uptoBulk d + 1
 end
def uptoSmall : (H : Type) → List (DataW H) → Bool := fun _ ds => decide (uptoBulkAll ds ≤ 1048576)
def OpenSpec.upto (s : _root_.Go.ChangeSpec) : _root_.Go.OpenSpec := { _root_.Go.OpenSpec.ofChange s with cond := some uptoSmall }

/-- 'caulkerlaw08.LabelReads', WHERE WHAT IT READS IS OF BULK AT MOST 1048576: true; the input reads as it did. -/
def labelReadsUptoRow : OpenClaim := { program := "ytcnjjcnmjmcoiaagreatdoor", sum := "d31be19ae71d8684581a10316d8ce21c8b8b4f5ac6fc6d378f558d4e0ac7f19e", func := "caulker/caulkerlaw08.LabelReads", spec := "labelReads", inPlace := ["internal/bytealg.Count", "internal/bytealg.IndexByte", "internal/bytealg.Index"], unfollowed := true, recurses := true, named := ["caulker/hash.addends", "internal/bytealg.MaxLen"], plainKeys := false, apart := false, laid := [("caulker/hash.addends", laid_caulker_hash_addends)], narrowed := true }
def LabelReadsUptoSaid : Prop := labelReadsUptoRow.holds Tryz.pinned (OpenSpec.upto labelReadsSpec)

/-- 'caulkerlaw08.LabelPools', WHERE WHAT IT READS IS OF BULK AT MOST 1048576: true; the input reads as it did. -/
def labelPoolsUptoRow : OpenClaim := { program := "ytcnjjcnmjmcoiaagreatdoor", sum := "d31be19ae71d8684581a10316d8ce21c8b8b4f5ac6fc6d378f558d4e0ac7f19e", func := "caulker/caulkerlaw08.LabelPools", spec := "labelPools", inPlace := ["internal/bytealg.Count", "internal/bytealg.IndexByte", "internal/bytealg.Index", "internal/bytealg.Compare"], unfollowed := true, recurses := true, named := ["caulker/hash.addends", "internal/bytealg.MaxLen"], plainKeys := false, apart := false, laid := [("caulker/hash.addends", laid_caulker_hash_addends)], narrowed := true }
def LabelPoolsUptoSaid : Prop := labelPoolsUptoRow.holds Tryz.pinned (OpenSpec.upto labelPoolsSpec)

/-- 'caulkerlaw08.LabelKnown', WHERE WHAT IT READS IS OF BULK AT MOST 1048576: true; the input reads as it did. -/
def labelKnownUptoRow : OpenClaim := { program := "ytcnjjcnmjmcoiaagreatdoor", sum := "d31be19ae71d8684581a10316d8ce21c8b8b4f5ac6fc6d378f558d4e0ac7f19e", func := "caulker/caulkerlaw08.LabelKnown", spec := "labelKnown", inPlace := ["internal/bytealg.Count", "internal/bytealg.IndexByte", "internal/bytealg.Index", "internal/bytealg.Compare"], unfollowed := true, recurses := true, named := ["internal/bytealg.MaxLen", "caulker/hash.addends"], plainKeys := false, apart := false, laid := [("caulker/hash.addends", laid_caulker_hash_addends)], narrowed := true }
def LabelKnownUptoSaid : Prop := labelKnownUptoRow.holds Tryz.pinned (OpenSpec.upto labelKnownSpec)

/-- 'caulkerlaw08.LabelBack', WHERE WHAT IT READS IS OF BULK AT MOST 1048576: true; the input reads as it did. -/
def labelBackUptoRow : OpenClaim := { program := "ytcnjjcnmjmcoiaagreatdoor", sum := "d31be19ae71d8684581a10316d8ce21c8b8b4f5ac6fc6d378f558d4e0ac7f19e", func := "caulker/caulkerlaw08.LabelBack", spec := "labelBack", inPlace := ["internal/bytealg.Count", "internal/bytealg.IndexByte", "internal/bytealg.Index", "internal/bytealg.Compare"], unfollowed := true, recurses := true, named := ["internal/bytealg.MaxLen", "caulker/hash.addends"], plainKeys := false, apart := false, laid := [("caulker/hash.addends", laid_caulker_hash_addends)], narrowed := true }
def LabelBackUptoSaid : Prop := labelBackUptoRow.holds Tryz.pinned (OpenSpec.upto labelBackSpec)

/-- 'caulkerlaw08.LabelMost', WHERE WHAT IT READS IS OF BULK AT MOST 1048576: true; the input reads as it did. -/
def labelMostUptoRow : OpenClaim := { program := "ytcnjjcnmjmcoiaagreatdoor", sum := "d31be19ae71d8684581a10316d8ce21c8b8b4f5ac6fc6d378f558d4e0ac7f19e", func := "caulker/caulkerlaw08.LabelMost", spec := "labelMost", inPlace := ["internal/bytealg.Count", "internal/bytealg.IndexByte", "internal/bytealg.Index", "internal/bytealg.Compare"], unfollowed := true, recurses := true, named := ["caulker/hash.addends", "internal/bytealg.MaxLen"], plainKeys := false, apart := false, laid := [("caulker/hash.addends", laid_caulker_hash_addends)], narrowed := true }
def LabelMostUptoSaid : Prop := labelMostUptoRow.holds Tryz.pinned (OpenSpec.upto labelMostSpec)

end Rows
end Go.Proofs.YtcnjjcnmjmcoiaaGreatDoor
