/-
  NARROWER THAN 'FOR EVERY INPUT', by the rows' own cells (each row's printed sentence says how): UberPacks: laid · UberReads: laid · UberKnown: laid · UberBack: laid · UberTorn: laid · RingFinds: laid · RingBest: laid · RingKnown: laid · RingTurns: laid · RingLaid: laid · RingOrder: laid.
  DERIVED. THE GIVEN ROWS OF THIS SEAT. 11 by the template 'for every input the law returns true; each argument reads behind the call as it read before'; 0 by the template 'total and deterministic' (their statements: YtjdejhgfkjeeiaaGreatDoorTotals.lean).
  GIVEN WITH THE SEED: the statements are not yours to turn. If you find one false, say at which input.
  Laid BY PROGRAM, IN A SANDBOX (cutbox-rows.mjs): the forced cells as the released guide's own fill.sh prints them over the translation 8606e2aa817d360b… (all of the seat's roots in one cut). By AI agents, Wed Nov 11 2026. No macro, syntax, notation, axiom, sorry.
-/
import Derived.Test.YtjdejhgfkjeeiaaGreatDoorChecked
import GoSem.Claim
import GoSem.ClaimJoined
import GoSem.ClaimMapViews
import Derived.JoinedTies
import Derived.KernelRfl
namespace Go.Proofs.YtjdejhgfkjeeiaaGreatDoor
/- THE CELL 'sum', in the pinned program and in every row, IS THE sha256 OF THE DUMP (.gsa) THAT YtjdejhgfkjeeiaaGreatDoorProg.lean LOADS. Nothing in Lean hashes anything: it is a label: what it is worth is what the hold of that sum in a sandbox is worth. -/
noncomputable def Tryz.pinned : Pinned := { name := "ytjdejhgfkjeeiaagreatdoor", sum := "8606e2aa817d360bcd001da32722e121052e07257ef6e86ebeea27c25fd9fb46", checked := Tryz.checked }
namespace Rows
def none {H : Type} : Left H := { results := [], args := [] }

/- WHAT THE LISTED PACKAGE-LEVEL VARIABLES READ AS WHEN THE CALL BEGINS. Each datum BY PROGRAM (the guide's laid-datum.mjs) off the statement by which the dump's own 'gosem.cut.vars' lays the variable. In a bare row this is a premise. The card (YtjdejhgfkjeeiaaGreatDoorCards.lean) ties it to the program's text. -/
def laid_caulker_hash_addends {H : Type} : DataW H := .agg [.lit (.int .u32 1116352408), .lit (.int .u32 1899447441), .lit (.int .u32 3049323471), .lit (.int .u32 3921009573), .lit (.int .u32 961987163), .lit (.int .u32 1508970993), .lit (.int .u32 2453635748), .lit (.int .u32 2870763221), .lit (.int .u32 3624381080), .lit (.int .u32 310598401), .lit (.int .u32 607225278), .lit (.int .u32 1426881987), .lit (.int .u32 1925078388), .lit (.int .u32 2162078206), .lit (.int .u32 2614888103), .lit (.int .u32 3248222580), .lit (.int .u32 3835390401), .lit (.int .u32 4022224774), .lit (.int .u32 264347078), .lit (.int .u32 604807628), .lit (.int .u32 770255983), .lit (.int .u32 1249150122), .lit (.int .u32 1555081692), .lit (.int .u32 1996064986), .lit (.int .u32 2554220882), .lit (.int .u32 2821834349), .lit (.int .u32 2952996808), .lit (.int .u32 3210313671), .lit (.int .u32 3336571891), .lit (.int .u32 3584528711), .lit (.int .u32 113926993), .lit (.int .u32 338241895), .lit (.int .u32 666307205), .lit (.int .u32 773529912), .lit (.int .u32 1294757372), .lit (.int .u32 1396182291), .lit (.int .u32 1695183700), .lit (.int .u32 1986661051), .lit (.int .u32 2177026350), .lit (.int .u32 2456956037), .lit (.int .u32 2730485921), .lit (.int .u32 2820302411), .lit (.int .u32 3259730800), .lit (.int .u32 3345764771), .lit (.int .u32 3516065817), .lit (.int .u32 3600352804), .lit (.int .u32 4094571909), .lit (.int .u32 275423344), .lit (.int .u32 430227734), .lit (.int .u32 506948616), .lit (.int .u32 659060556), .lit (.int .u32 883997877), .lit (.int .u32 958139571), .lit (.int .u32 1322822218), .lit (.int .u32 1537002063), .lit (.int .u32 1747873779), .lit (.int .u32 1955562222), .lit (.int .u32 2024104815), .lit (.int .u32 2227730452), .lit (.int .u32 2361852424), .lit (.int .u32 2428436474), .lit (.int .u32 2756734187), .lit (.int .u32 3204031479), .lit (.int .u32 3329325298)]
def laid_caulker_uber_errSize {H : Type} : DataW H := .iface "*errors.errorString" (.ptr (.agg [.lit (.string [111, 116, 104, 101, 114, 32, 116, 104, 97, 110, 32, 97, 32, 115, 101, 99, 116, 111, 114, 39, 115, 32, 110, 117, 109, 98, 101, 114, 32, 111, 102, 32, 98, 121, 116, 101, 115])]))
def laid_caulker_uber_errBlank {H : Type} : DataW H := .iface "*errors.errorString" (.ptr (.agg [.lit (.string [97, 32, 115, 101, 99, 116, 111, 114, 32, 111, 102, 32, 110, 111, 117, 103, 104, 116, 115])]))
def laid_caulker_uber_errDamaged {H : Type} : DataW H := .iface "*errors.errorString" (.ptr (.agg [.lit (.string [110, 111, 32, 117, 98, 101, 114, 98, 108, 111, 99, 107, 39, 115, 32, 115, 101, 99, 116, 111, 114])]))

/-- 'caulkerlaw09.UberPacks': WHATEVER THE INPUT: true; the input reads as it did. -/
def uberPacksSpec : ChangeSpec := { name := "uberPacks", fn := fun _ => fun
  | [d1, d2] => { results := [.lit (.bool true)], args := [d1, d2] }
  | _ => none }
def uberPacksRow : OpenClaim := { program := "ytjdejhgfkjeeiaagreatdoor", sum := "8606e2aa817d360bcd001da32722e121052e07257ef6e86ebeea27c25fd9fb46", func := "caulker/caulkerlaw09.UberPacks", spec := "uberPacks", inPlace := ["internal/reflectlite.TypeOf"], unfollowed := true, recurses := true, named := ["caulker/hash.addends", "caulker/uber.errSize", "caulker/uber.errBlank", "caulker/uber.errDamaged"], apart := false, laid := [("caulker/hash.addends", laid_caulker_hash_addends), ("caulker/uber.errSize", laid_caulker_uber_errSize), ("caulker/uber.errBlank", laid_caulker_uber_errBlank), ("caulker/uber.errDamaged", laid_caulker_uber_errDamaged)] }
def UberPacksSaid : Prop := uberPacksRow.holds Tryz.pinned (OpenSpec.ofChange uberPacksSpec)

/-- ITS FALSE NEIGHBOUR: 'it returns false'. Refute it at one input. -/
def uberPacksWrong : ChangeSpec := { name := "uberPacks", fn := fun _ => fun
  | [d1, d2] => { results := [.lit (.bool false)], args := [d1, d2] }
  | _ => none }
def UberPacksWrongFalsely : Prop := uberPacksRow.holds Tryz.pinned (OpenSpec.ofChange uberPacksWrong)

/-- 'caulkerlaw09.UberReads': WHATEVER THE INPUT: true; the input reads as it did. -/
def uberReadsSpec : ChangeSpec := { name := "uberReads", fn := fun _ => fun
  | [d] => { results := [.lit (.bool true)], args := [d] }
  | _ => none }
def uberReadsRow : OpenClaim := { program := "ytjdejhgfkjeeiaagreatdoor", sum := "8606e2aa817d360bcd001da32722e121052e07257ef6e86ebeea27c25fd9fb46", func := "caulker/caulkerlaw09.UberReads", spec := "uberReads", inPlace := ["internal/reflectlite.TypeOf"], unfollowed := true, recurses := true, named := ["caulker/hash.addends", "caulker/uber.errSize", "caulker/uber.errBlank", "caulker/uber.errDamaged"], apart := false, laid := [("caulker/hash.addends", laid_caulker_hash_addends), ("caulker/uber.errSize", laid_caulker_uber_errSize), ("caulker/uber.errBlank", laid_caulker_uber_errBlank), ("caulker/uber.errDamaged", laid_caulker_uber_errDamaged)] }
def UberReadsSaid : Prop := uberReadsRow.holds Tryz.pinned (OpenSpec.ofChange uberReadsSpec)

/-- ITS FALSE NEIGHBOUR: 'it returns false'. Refute it at one input. -/
def uberReadsWrong : ChangeSpec := { name := "uberReads", fn := fun _ => fun
  | [d] => { results := [.lit (.bool false)], args := [d] }
  | _ => none }
def UberReadsWrongFalsely : Prop := uberReadsRow.holds Tryz.pinned (OpenSpec.ofChange uberReadsWrong)

/-- 'caulkerlaw09.UberKnown': WHATEVER THE INPUT: true; the input reads as it did. -/
def uberKnownSpec : ChangeSpec := { name := "uberKnown", fn := fun _ => fun
  | [] => { results := [.lit (.bool true)], args := [] }
  | _ => none }
def uberKnownRow : OpenClaim := { program := "ytjdejhgfkjeeiaagreatdoor", sum := "8606e2aa817d360bcd001da32722e121052e07257ef6e86ebeea27c25fd9fb46", func := "caulker/caulkerlaw09.UberKnown", spec := "uberKnown", inPlace := ["internal/reflectlite.TypeOf"], unfollowed := true, recurses := true, named := ["caulker/uber.errSize", "caulker/uber.errBlank", "caulker/uber.errDamaged", "caulker/hash.addends"], apart := false, laid := [("caulker/hash.addends", laid_caulker_hash_addends), ("caulker/uber.errSize", laid_caulker_uber_errSize), ("caulker/uber.errBlank", laid_caulker_uber_errBlank), ("caulker/uber.errDamaged", laid_caulker_uber_errDamaged)] }
def UberKnownSaid : Prop := uberKnownRow.holds Tryz.pinned (OpenSpec.ofChange uberKnownSpec)

/-- ITS FALSE NEIGHBOUR: 'it returns false'. Refute it at one input. -/
def uberKnownWrong : ChangeSpec := { name := "uberKnown", fn := fun _ => fun
  | [] => { results := [.lit (.bool false)], args := [] }
  | _ => none }
def UberKnownWrongFalsely : Prop := uberKnownRow.holds Tryz.pinned (OpenSpec.ofChange uberKnownWrong)

/-- 'caulkerlaw09.UberBack': WHATEVER THE INPUT: true; the input reads as it did. -/
def uberBackSpec : ChangeSpec := { name := "uberBack", fn := fun _ => fun
  | [d1, d2] => { results := [.lit (.bool true)], args := [d1, d2] }
  | _ => none }
def uberBackRow : OpenClaim := { program := "ytjdejhgfkjeeiaagreatdoor", sum := "8606e2aa817d360bcd001da32722e121052e07257ef6e86ebeea27c25fd9fb46", func := "caulker/caulkerlaw09.UberBack", spec := "uberBack", inPlace := ["internal/reflectlite.TypeOf"], unfollowed := true, recurses := true, named := ["caulker/uber.errSize", "caulker/uber.errBlank", "caulker/uber.errDamaged", "caulker/hash.addends"], apart := false, laid := [("caulker/hash.addends", laid_caulker_hash_addends), ("caulker/uber.errSize", laid_caulker_uber_errSize), ("caulker/uber.errBlank", laid_caulker_uber_errBlank), ("caulker/uber.errDamaged", laid_caulker_uber_errDamaged)] }
def UberBackSaid : Prop := uberBackRow.holds Tryz.pinned (OpenSpec.ofChange uberBackSpec)

/-- ITS FALSE NEIGHBOUR: 'it returns false'. Refute it at one input. -/
def uberBackWrong : ChangeSpec := { name := "uberBack", fn := fun _ => fun
  | [d1, d2] => { results := [.lit (.bool false)], args := [d1, d2] }
  | _ => none }
def UberBackWrongFalsely : Prop := uberBackRow.holds Tryz.pinned (OpenSpec.ofChange uberBackWrong)

/-- 'caulkerlaw09.UberTorn': WHATEVER THE INPUT: true; the input reads as it did. -/
def uberTornSpec : ChangeSpec := { name := "uberTorn", fn := fun _ => fun
  | [d1, d2, d3, d4] => { results := [.lit (.bool true)], args := [d1, d2, d3, d4] }
  | _ => none }
def uberTornRow : OpenClaim := { program := "ytjdejhgfkjeeiaagreatdoor", sum := "8606e2aa817d360bcd001da32722e121052e07257ef6e86ebeea27c25fd9fb46", func := "caulker/caulkerlaw09.UberTorn", spec := "uberTorn", inPlace := ["internal/reflectlite.TypeOf"], unfollowed := true, recurses := true, named := ["caulker/hash.addends", "caulker/uber.errSize", "caulker/uber.errBlank", "caulker/uber.errDamaged"], apart := false, laid := [("caulker/hash.addends", laid_caulker_hash_addends), ("caulker/uber.errSize", laid_caulker_uber_errSize), ("caulker/uber.errBlank", laid_caulker_uber_errBlank), ("caulker/uber.errDamaged", laid_caulker_uber_errDamaged)] }
def UberTornSaid : Prop := uberTornRow.holds Tryz.pinned (OpenSpec.ofChange uberTornSpec)

/-- ITS FALSE NEIGHBOUR: 'it returns false'. Refute it at one input. -/
def uberTornWrong : ChangeSpec := { name := "uberTorn", fn := fun _ => fun
  | [d1, d2, d3, d4] => { results := [.lit (.bool false)], args := [d1, d2, d3, d4] }
  | _ => none }
def UberTornWrongFalsely : Prop := uberTornRow.holds Tryz.pinned (OpenSpec.ofChange uberTornWrong)

/-- 'caulkerlaw10.RingFinds': WHATEVER THE INPUT: true; the input reads as it did. -/
def ringFindsSpec : ChangeSpec := { name := "ringFinds", fn := fun _ => fun
  | [d1, d2, d3] => { results := [.lit (.bool true)], args := [d1, d2, d3] }
  | _ => none }
def ringFindsRow : OpenClaim := { program := "ytjdejhgfkjeeiaagreatdoor", sum := "8606e2aa817d360bcd001da32722e121052e07257ef6e86ebeea27c25fd9fb46", func := "caulker/caulkerlaw10.RingFinds", spec := "ringFinds", inPlace := ["internal/reflectlite.TypeOf"], unfollowed := true, recurses := true, named := ["caulker/hash.addends", "caulker/uber.errSize", "caulker/uber.errBlank", "caulker/uber.errDamaged"], apart := false, laid := [("caulker/hash.addends", laid_caulker_hash_addends), ("caulker/uber.errSize", laid_caulker_uber_errSize), ("caulker/uber.errBlank", laid_caulker_uber_errBlank), ("caulker/uber.errDamaged", laid_caulker_uber_errDamaged)] }
def RingFindsSaid : Prop := ringFindsRow.holds Tryz.pinned (OpenSpec.ofChange ringFindsSpec)

/-- ITS FALSE NEIGHBOUR: 'it returns false'. Refute it at one input. -/
def ringFindsWrong : ChangeSpec := { name := "ringFinds", fn := fun _ => fun
  | [d1, d2, d3] => { results := [.lit (.bool false)], args := [d1, d2, d3] }
  | _ => none }
def RingFindsWrongFalsely : Prop := ringFindsRow.holds Tryz.pinned (OpenSpec.ofChange ringFindsWrong)

/-- 'caulkerlaw10.RingBest': WHATEVER THE INPUT: true; the input reads as it did. -/
def ringBestSpec : ChangeSpec := { name := "ringBest", fn := fun _ => fun
  | [d] => { results := [.lit (.bool true)], args := [d] }
  | _ => none }
def ringBestRow : OpenClaim := { program := "ytjdejhgfkjeeiaagreatdoor", sum := "8606e2aa817d360bcd001da32722e121052e07257ef6e86ebeea27c25fd9fb46", func := "caulker/caulkerlaw10.RingBest", spec := "ringBest", inPlace := ["internal/reflectlite.TypeOf"], unfollowed := true, recurses := true, named := ["caulker/hash.addends", "caulker/uber.errSize", "caulker/uber.errBlank", "caulker/uber.errDamaged"], apart := false, laid := [("caulker/hash.addends", laid_caulker_hash_addends), ("caulker/uber.errSize", laid_caulker_uber_errSize), ("caulker/uber.errBlank", laid_caulker_uber_errBlank), ("caulker/uber.errDamaged", laid_caulker_uber_errDamaged)] }
def RingBestSaid : Prop := ringBestRow.holds Tryz.pinned (OpenSpec.ofChange ringBestSpec)

/-- ITS FALSE NEIGHBOUR: 'it returns false'. Refute it at one input. -/
def ringBestWrong : ChangeSpec := { name := "ringBest", fn := fun _ => fun
  | [d] => { results := [.lit (.bool false)], args := [d] }
  | _ => none }
def RingBestWrongFalsely : Prop := ringBestRow.holds Tryz.pinned (OpenSpec.ofChange ringBestWrong)

/-- 'caulkerlaw10.RingKnown': WHATEVER THE INPUT: true; the input reads as it did. -/
def ringKnownSpec : ChangeSpec := { name := "ringKnown", fn := fun _ => fun
  | [] => { results := [.lit (.bool true)], args := [] }
  | _ => none }
def ringKnownRow : OpenClaim := { program := "ytjdejhgfkjeeiaagreatdoor", sum := "8606e2aa817d360bcd001da32722e121052e07257ef6e86ebeea27c25fd9fb46", func := "caulker/caulkerlaw10.RingKnown", spec := "ringKnown", inPlace := ["internal/reflectlite.TypeOf"], unfollowed := true, recurses := true, named := ["caulker/hash.addends", "caulker/uber.errSize", "caulker/uber.errBlank", "caulker/uber.errDamaged"], apart := false, laid := [("caulker/hash.addends", laid_caulker_hash_addends), ("caulker/uber.errSize", laid_caulker_uber_errSize), ("caulker/uber.errBlank", laid_caulker_uber_errBlank), ("caulker/uber.errDamaged", laid_caulker_uber_errDamaged)] }
def RingKnownSaid : Prop := ringKnownRow.holds Tryz.pinned (OpenSpec.ofChange ringKnownSpec)

/-- ITS FALSE NEIGHBOUR: 'it returns false'. Refute it at one input. -/
def ringKnownWrong : ChangeSpec := { name := "ringKnown", fn := fun _ => fun
  | [] => { results := [.lit (.bool false)], args := [] }
  | _ => none }
def RingKnownWrongFalsely : Prop := ringKnownRow.holds Tryz.pinned (OpenSpec.ofChange ringKnownWrong)

/-- 'caulkerlaw10.RingTurns': WHATEVER THE INPUT: true; the input reads as it did. -/
def ringTurnsSpec : ChangeSpec := { name := "ringTurns", fn := fun _ => fun
  | [d] => { results := [.lit (.bool true)], args := [d] }
  | _ => none }
def ringTurnsRow : OpenClaim := { program := "ytjdejhgfkjeeiaagreatdoor", sum := "8606e2aa817d360bcd001da32722e121052e07257ef6e86ebeea27c25fd9fb46", func := "caulker/caulkerlaw10.RingTurns", spec := "ringTurns", inPlace := ["internal/reflectlite.TypeOf"], unfollowed := true, recurses := true, named := ["caulker/hash.addends", "caulker/uber.errSize", "caulker/uber.errBlank", "caulker/uber.errDamaged"], apart := false, laid := [("caulker/hash.addends", laid_caulker_hash_addends), ("caulker/uber.errSize", laid_caulker_uber_errSize), ("caulker/uber.errBlank", laid_caulker_uber_errBlank), ("caulker/uber.errDamaged", laid_caulker_uber_errDamaged)] }
def RingTurnsSaid : Prop := ringTurnsRow.holds Tryz.pinned (OpenSpec.ofChange ringTurnsSpec)

/-- ITS FALSE NEIGHBOUR: 'it returns false'. Refute it at one input. -/
def ringTurnsWrong : ChangeSpec := { name := "ringTurns", fn := fun _ => fun
  | [d] => { results := [.lit (.bool false)], args := [d] }
  | _ => none }
def RingTurnsWrongFalsely : Prop := ringTurnsRow.holds Tryz.pinned (OpenSpec.ofChange ringTurnsWrong)

/-- 'caulkerlaw10.RingLaid': WHATEVER THE INPUT: true; the input reads as it did. -/
def ringLaidSpec : ChangeSpec := { name := "ringLaid", fn := fun _ => fun
  | [d1, d2, d3] => { results := [.lit (.bool true)], args := [d1, d2, d3] }
  | _ => none }
def ringLaidRow : OpenClaim := { program := "ytjdejhgfkjeeiaagreatdoor", sum := "8606e2aa817d360bcd001da32722e121052e07257ef6e86ebeea27c25fd9fb46", func := "caulker/caulkerlaw10.RingLaid", spec := "ringLaid", inPlace := ["internal/reflectlite.TypeOf"], unfollowed := true, recurses := true, named := ["caulker/hash.addends", "caulker/uber.errSize", "caulker/uber.errBlank", "caulker/uber.errDamaged"], apart := false, laid := [("caulker/hash.addends", laid_caulker_hash_addends), ("caulker/uber.errSize", laid_caulker_uber_errSize), ("caulker/uber.errBlank", laid_caulker_uber_errBlank), ("caulker/uber.errDamaged", laid_caulker_uber_errDamaged)] }
def RingLaidSaid : Prop := ringLaidRow.holds Tryz.pinned (OpenSpec.ofChange ringLaidSpec)

/-- ITS FALSE NEIGHBOUR: 'it returns false'. Refute it at one input. -/
def ringLaidWrong : ChangeSpec := { name := "ringLaid", fn := fun _ => fun
  | [d1, d2, d3] => { results := [.lit (.bool false)], args := [d1, d2, d3] }
  | _ => none }
def RingLaidWrongFalsely : Prop := ringLaidRow.holds Tryz.pinned (OpenSpec.ofChange ringLaidWrong)

/-- 'caulkerlaw10.RingOrder': WHATEVER THE INPUT: true; the input reads as it did. -/
def ringOrderSpec : ChangeSpec := { name := "ringOrder", fn := fun _ => fun
  | [d1, d2] => { results := [.lit (.bool true)], args := [d1, d2] }
  | _ => none }
def ringOrderRow : OpenClaim := { program := "ytjdejhgfkjeeiaagreatdoor", sum := "8606e2aa817d360bcd001da32722e121052e07257ef6e86ebeea27c25fd9fb46", func := "caulker/caulkerlaw10.RingOrder", spec := "ringOrder", inPlace := ["internal/reflectlite.TypeOf"], unfollowed := true, recurses := true, named := ["caulker/hash.addends", "caulker/uber.errSize", "caulker/uber.errBlank", "caulker/uber.errDamaged"], apart := false, laid := [("caulker/hash.addends", laid_caulker_hash_addends), ("caulker/uber.errSize", laid_caulker_uber_errSize), ("caulker/uber.errBlank", laid_caulker_uber_errBlank), ("caulker/uber.errDamaged", laid_caulker_uber_errDamaged)] }
def RingOrderSaid : Prop := ringOrderRow.holds Tryz.pinned (OpenSpec.ofChange ringOrderSpec)

/-- ITS FALSE NEIGHBOUR: 'it returns false'. Refute it at one input. -/
def ringOrderWrong : ChangeSpec := { name := "ringOrder", fn := fun _ => fun
  | [d1, d2] => { results := [.lit (.bool false)], args := [d1, d2] }
  | _ => none }
def RingOrderWrongFalsely : Prop := ringOrderRow.holds Tryz.pinned (OpenSpec.ofChange ringOrderWrong)

/- THE SECOND FORM. 'bulk': how many values and letters a reading holds, each counted each time it is reached (what is shared counts as often as it is met; a slice's spare places count too). A statement '..UptoSaid' is the law's where the arguments, and the package variables that the reading takes, are together of bulk at most 1048576: NARROWER than '..Said'. Prove '..Said' where nothing that the law and all that it calls make is longer than what came in: it says more and counts as full. Else prove '..UptoSaid'. A law counts once. -/
mutual
def uptoBulk {H : Type} : DataW H → Nat
  | .lit (.string bytes) => bytes.length + 1
  | .lit _ => 1
  | .nil => 1
  | .ptr d => uptoBulk d + 1
  | .slice elems spare => uptoBulkAll elems + uptoBulkAll spare + 1
  | .agg parts => uptoBulkAll parts + 1
  | .iface _ d => uptoBulk d + 1
  | .map entries => uptoBulkEntries entries + 1
  | .held _ => 1
def uptoBulkAll {H : Type} : List (DataW H) → Nat
  | [] => 0
  | d :: r => uptoBulk d + uptoBulkAll r
def uptoBulkEntries {H : Type} : List (Lit × DataW H) → Nat
  | [] => 0
  | x :: r => uptoBulkEntry x + uptoBulkEntries r
def uptoBulkEntry {H : Type} : Lit × DataW H → Nat
  | (.string bytes, d) => bytes.length + uptoBulk d + 1
  | (_, d) => uptoBulk d + 1
 end
def uptoSmall : (H : Type) → List (DataW H) → Bool := fun _ ds => decide (uptoBulkAll ds ≤ 1048576)
def OpenSpec.upto (s : _root_.Go.ChangeSpec) : _root_.Go.OpenSpec := { _root_.Go.OpenSpec.ofChange s with cond := some uptoSmall }

/-- 'caulkerlaw09.UberPacks', WHERE WHAT IT READS IS OF BULK AT MOST 1048576: true; the input reads as it did. -/
def uberPacksUptoRow : OpenClaim := { program := "ytjdejhgfkjeeiaagreatdoor", sum := "8606e2aa817d360bcd001da32722e121052e07257ef6e86ebeea27c25fd9fb46", func := "caulker/caulkerlaw09.UberPacks", spec := "uberPacks", inPlace := ["internal/reflectlite.TypeOf"], unfollowed := true, recurses := true, named := ["caulker/hash.addends", "caulker/uber.errSize", "caulker/uber.errBlank", "caulker/uber.errDamaged"], apart := false, laid := [("caulker/hash.addends", laid_caulker_hash_addends), ("caulker/uber.errSize", laid_caulker_uber_errSize), ("caulker/uber.errBlank", laid_caulker_uber_errBlank), ("caulker/uber.errDamaged", laid_caulker_uber_errDamaged)], narrowed := true }
def UberPacksUptoSaid : Prop := uberPacksUptoRow.holds Tryz.pinned (OpenSpec.upto uberPacksSpec)

/-- 'caulkerlaw09.UberReads', WHERE WHAT IT READS IS OF BULK AT MOST 1048576: true; the input reads as it did. -/
def uberReadsUptoRow : OpenClaim := { program := "ytjdejhgfkjeeiaagreatdoor", sum := "8606e2aa817d360bcd001da32722e121052e07257ef6e86ebeea27c25fd9fb46", func := "caulker/caulkerlaw09.UberReads", spec := "uberReads", inPlace := ["internal/reflectlite.TypeOf"], unfollowed := true, recurses := true, named := ["caulker/hash.addends", "caulker/uber.errSize", "caulker/uber.errBlank", "caulker/uber.errDamaged"], apart := false, laid := [("caulker/hash.addends", laid_caulker_hash_addends), ("caulker/uber.errSize", laid_caulker_uber_errSize), ("caulker/uber.errBlank", laid_caulker_uber_errBlank), ("caulker/uber.errDamaged", laid_caulker_uber_errDamaged)], narrowed := true }
def UberReadsUptoSaid : Prop := uberReadsUptoRow.holds Tryz.pinned (OpenSpec.upto uberReadsSpec)

/-- 'caulkerlaw09.UberKnown', WHERE WHAT IT READS IS OF BULK AT MOST 1048576: true; the input reads as it did. -/
def uberKnownUptoRow : OpenClaim := { program := "ytjdejhgfkjeeiaagreatdoor", sum := "8606e2aa817d360bcd001da32722e121052e07257ef6e86ebeea27c25fd9fb46", func := "caulker/caulkerlaw09.UberKnown", spec := "uberKnown", inPlace := ["internal/reflectlite.TypeOf"], unfollowed := true, recurses := true, named := ["caulker/uber.errSize", "caulker/uber.errBlank", "caulker/uber.errDamaged", "caulker/hash.addends"], apart := false, laid := [("caulker/hash.addends", laid_caulker_hash_addends), ("caulker/uber.errSize", laid_caulker_uber_errSize), ("caulker/uber.errBlank", laid_caulker_uber_errBlank), ("caulker/uber.errDamaged", laid_caulker_uber_errDamaged)], narrowed := true }
def UberKnownUptoSaid : Prop := uberKnownUptoRow.holds Tryz.pinned (OpenSpec.upto uberKnownSpec)

/-- 'caulkerlaw09.UberBack', WHERE WHAT IT READS IS OF BULK AT MOST 1048576: true; the input reads as it did. -/
def uberBackUptoRow : OpenClaim := { program := "ytjdejhgfkjeeiaagreatdoor", sum := "8606e2aa817d360bcd001da32722e121052e07257ef6e86ebeea27c25fd9fb46", func := "caulker/caulkerlaw09.UberBack", spec := "uberBack", inPlace := ["internal/reflectlite.TypeOf"], unfollowed := true, recurses := true, named := ["caulker/uber.errSize", "caulker/uber.errBlank", "caulker/uber.errDamaged", "caulker/hash.addends"], apart := false, laid := [("caulker/hash.addends", laid_caulker_hash_addends), ("caulker/uber.errSize", laid_caulker_uber_errSize), ("caulker/uber.errBlank", laid_caulker_uber_errBlank), ("caulker/uber.errDamaged", laid_caulker_uber_errDamaged)], narrowed := true }
def UberBackUptoSaid : Prop := uberBackUptoRow.holds Tryz.pinned (OpenSpec.upto uberBackSpec)

/-- 'caulkerlaw09.UberTorn', WHERE WHAT IT READS IS OF BULK AT MOST 1048576: true; the input reads as it did. -/
def uberTornUptoRow : OpenClaim := { program := "ytjdejhgfkjeeiaagreatdoor", sum := "8606e2aa817d360bcd001da32722e121052e07257ef6e86ebeea27c25fd9fb46", func := "caulker/caulkerlaw09.UberTorn", spec := "uberTorn", inPlace := ["internal/reflectlite.TypeOf"], unfollowed := true, recurses := true, named := ["caulker/hash.addends", "caulker/uber.errSize", "caulker/uber.errBlank", "caulker/uber.errDamaged"], apart := false, laid := [("caulker/hash.addends", laid_caulker_hash_addends), ("caulker/uber.errSize", laid_caulker_uber_errSize), ("caulker/uber.errBlank", laid_caulker_uber_errBlank), ("caulker/uber.errDamaged", laid_caulker_uber_errDamaged)], narrowed := true }
def UberTornUptoSaid : Prop := uberTornUptoRow.holds Tryz.pinned (OpenSpec.upto uberTornSpec)

/-- 'caulkerlaw10.RingFinds', WHERE WHAT IT READS IS OF BULK AT MOST 1048576: true; the input reads as it did. -/
def ringFindsUptoRow : OpenClaim := { program := "ytjdejhgfkjeeiaagreatdoor", sum := "8606e2aa817d360bcd001da32722e121052e07257ef6e86ebeea27c25fd9fb46", func := "caulker/caulkerlaw10.RingFinds", spec := "ringFinds", inPlace := ["internal/reflectlite.TypeOf"], unfollowed := true, recurses := true, named := ["caulker/hash.addends", "caulker/uber.errSize", "caulker/uber.errBlank", "caulker/uber.errDamaged"], apart := false, laid := [("caulker/hash.addends", laid_caulker_hash_addends), ("caulker/uber.errSize", laid_caulker_uber_errSize), ("caulker/uber.errBlank", laid_caulker_uber_errBlank), ("caulker/uber.errDamaged", laid_caulker_uber_errDamaged)], narrowed := true }
def RingFindsUptoSaid : Prop := ringFindsUptoRow.holds Tryz.pinned (OpenSpec.upto ringFindsSpec)

/-- 'caulkerlaw10.RingBest', WHERE WHAT IT READS IS OF BULK AT MOST 1048576: true; the input reads as it did. -/
def ringBestUptoRow : OpenClaim := { program := "ytjdejhgfkjeeiaagreatdoor", sum := "8606e2aa817d360bcd001da32722e121052e07257ef6e86ebeea27c25fd9fb46", func := "caulker/caulkerlaw10.RingBest", spec := "ringBest", inPlace := ["internal/reflectlite.TypeOf"], unfollowed := true, recurses := true, named := ["caulker/hash.addends", "caulker/uber.errSize", "caulker/uber.errBlank", "caulker/uber.errDamaged"], apart := false, laid := [("caulker/hash.addends", laid_caulker_hash_addends), ("caulker/uber.errSize", laid_caulker_uber_errSize), ("caulker/uber.errBlank", laid_caulker_uber_errBlank), ("caulker/uber.errDamaged", laid_caulker_uber_errDamaged)], narrowed := true }
def RingBestUptoSaid : Prop := ringBestUptoRow.holds Tryz.pinned (OpenSpec.upto ringBestSpec)

/-- 'caulkerlaw10.RingKnown', WHERE WHAT IT READS IS OF BULK AT MOST 1048576: true; the input reads as it did. -/
def ringKnownUptoRow : OpenClaim := { program := "ytjdejhgfkjeeiaagreatdoor", sum := "8606e2aa817d360bcd001da32722e121052e07257ef6e86ebeea27c25fd9fb46", func := "caulker/caulkerlaw10.RingKnown", spec := "ringKnown", inPlace := ["internal/reflectlite.TypeOf"], unfollowed := true, recurses := true, named := ["caulker/hash.addends", "caulker/uber.errSize", "caulker/uber.errBlank", "caulker/uber.errDamaged"], apart := false, laid := [("caulker/hash.addends", laid_caulker_hash_addends), ("caulker/uber.errSize", laid_caulker_uber_errSize), ("caulker/uber.errBlank", laid_caulker_uber_errBlank), ("caulker/uber.errDamaged", laid_caulker_uber_errDamaged)], narrowed := true }
def RingKnownUptoSaid : Prop := ringKnownUptoRow.holds Tryz.pinned (OpenSpec.upto ringKnownSpec)

/-- 'caulkerlaw10.RingTurns', WHERE WHAT IT READS IS OF BULK AT MOST 1048576: true; the input reads as it did. -/
def ringTurnsUptoRow : OpenClaim := { program := "ytjdejhgfkjeeiaagreatdoor", sum := "8606e2aa817d360bcd001da32722e121052e07257ef6e86ebeea27c25fd9fb46", func := "caulker/caulkerlaw10.RingTurns", spec := "ringTurns", inPlace := ["internal/reflectlite.TypeOf"], unfollowed := true, recurses := true, named := ["caulker/hash.addends", "caulker/uber.errSize", "caulker/uber.errBlank", "caulker/uber.errDamaged"], apart := false, laid := [("caulker/hash.addends", laid_caulker_hash_addends), ("caulker/uber.errSize", laid_caulker_uber_errSize), ("caulker/uber.errBlank", laid_caulker_uber_errBlank), ("caulker/uber.errDamaged", laid_caulker_uber_errDamaged)], narrowed := true }
def RingTurnsUptoSaid : Prop := ringTurnsUptoRow.holds Tryz.pinned (OpenSpec.upto ringTurnsSpec)

/-- 'caulkerlaw10.RingLaid', WHERE WHAT IT READS IS OF BULK AT MOST 1048576: true; the input reads as it did. -/
def ringLaidUptoRow : OpenClaim := { program := "ytjdejhgfkjeeiaagreatdoor", sum := "8606e2aa817d360bcd001da32722e121052e07257ef6e86ebeea27c25fd9fb46", func := "caulker/caulkerlaw10.RingLaid", spec := "ringLaid", inPlace := ["internal/reflectlite.TypeOf"], unfollowed := true, recurses := true, named := ["caulker/hash.addends", "caulker/uber.errSize", "caulker/uber.errBlank", "caulker/uber.errDamaged"], apart := false, laid := [("caulker/hash.addends", laid_caulker_hash_addends), ("caulker/uber.errSize", laid_caulker_uber_errSize), ("caulker/uber.errBlank", laid_caulker_uber_errBlank), ("caulker/uber.errDamaged", laid_caulker_uber_errDamaged)], narrowed := true }
def RingLaidUptoSaid : Prop := ringLaidUptoRow.holds Tryz.pinned (OpenSpec.upto ringLaidSpec)

/-- 'caulkerlaw10.RingOrder', WHERE WHAT IT READS IS OF BULK AT MOST 1048576: true; the input reads as it did. -/
def ringOrderUptoRow : OpenClaim := { program := "ytjdejhgfkjeeiaagreatdoor", sum := "8606e2aa817d360bcd001da32722e121052e07257ef6e86ebeea27c25fd9fb46", func := "caulker/caulkerlaw10.RingOrder", spec := "ringOrder", inPlace := ["internal/reflectlite.TypeOf"], unfollowed := true, recurses := true, named := ["caulker/hash.addends", "caulker/uber.errSize", "caulker/uber.errBlank", "caulker/uber.errDamaged"], apart := false, laid := [("caulker/hash.addends", laid_caulker_hash_addends), ("caulker/uber.errSize", laid_caulker_uber_errSize), ("caulker/uber.errBlank", laid_caulker_uber_errBlank), ("caulker/uber.errDamaged", laid_caulker_uber_errDamaged)], narrowed := true }
def RingOrderUptoSaid : Prop := ringOrderUptoRow.holds Tryz.pinned (OpenSpec.upto ringOrderSpec)

end Rows
end Go.Proofs.YtjdejhgfkjeeiaaGreatDoor
