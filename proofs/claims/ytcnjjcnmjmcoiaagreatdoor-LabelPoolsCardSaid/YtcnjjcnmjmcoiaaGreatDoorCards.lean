/-
  DERIVED. GIVEN WITH THE SEED: THE CARDS: each row of YtcnjjcnmjmcoiaaGreatDoorRows.lean that lists a variable, with what it lists TIED to the program's text (the seventh form; the later family's looks); each row that meets fmt, with fmt's text TOLD by the authors' own Lean function (tested against real Go, not proved from fmt's source: count such statements apart). THE CARD IS WHAT COUNTS. Prove the row's statement (the work); the ties are given (YtcnjjcnmjmcoiaaGreatDoorTie.lean); close each card by the builder's one call (the guide's Derived/Test/ToyasCard.lean, 'card_holds'). Laid BY PROGRAM, IN A SANDBOX (cutbox-door.mjs). By AI agents, Wed Nov 11 2026. No macro, syntax, notation, axiom, sorry.
-/
import Derived.Test.YtcnjjcnmjmcoiaaGreatDoorRows
import GoSem.ClaimSeven
namespace Go.Proofs.YtcnjjcnmjmcoiaaGreatDoor
namespace Rows

/-- THE TIED CARD OF 'caulkerlaw08.LabelReads'. -/
def labelReadsCard : Claim7 := { stood := { row := labelReadsRow, standIns := [], harness := (true, "606c7b6b8f880842b8e1231a055d14ce30a93f26145335a115b5e5b5064dd3a2"), looks := true }, kinds := [], alts := [], laidByText := true, laidKinds := [.data], laidTests := true, laidLooks := .later }
def LabelReadsCardSaid : Prop := Claim7.holds Tryz.pinned (.plain (OpenSpec.ofChange labelReadsSpec)) labelReadsCard

/-- THE TIED CARD OF 'caulkerlaw08.LabelPools'. -/
def labelPoolsCard : Claim7 := { stood := { row := labelPoolsRow, standIns := [], harness := (true, "606c7b6b8f880842b8e1231a055d14ce30a93f26145335a115b5e5b5064dd3a2"), looks := true }, kinds := [], alts := [], laidByText := true, laidKinds := [.data], laidTests := true, laidLooks := .later }
def LabelPoolsCardSaid : Prop := Claim7.holds Tryz.pinned (.plain (OpenSpec.ofChange labelPoolsSpec)) labelPoolsCard

/-- THE TIED CARD OF 'caulkerlaw08.LabelKnown'. -/
def labelKnownCard : Claim7 := { stood := { row := labelKnownRow, standIns := [], harness := (true, "606c7b6b8f880842b8e1231a055d14ce30a93f26145335a115b5e5b5064dd3a2"), looks := true }, kinds := [], alts := [], laidByText := true, laidKinds := [.data], laidTests := true, laidLooks := .later }
def LabelKnownCardSaid : Prop := Claim7.holds Tryz.pinned (.plain (OpenSpec.ofChange labelKnownSpec)) labelKnownCard

/-- THE TIED CARD OF 'caulkerlaw08.LabelBack'. -/
def labelBackCard : Claim7 := { stood := { row := labelBackRow, standIns := [], harness := (true, "606c7b6b8f880842b8e1231a055d14ce30a93f26145335a115b5e5b5064dd3a2"), looks := true }, kinds := [], alts := [], laidByText := true, laidKinds := [.data], laidTests := true, laidLooks := .later }
def LabelBackCardSaid : Prop := Claim7.holds Tryz.pinned (.plain (OpenSpec.ofChange labelBackSpec)) labelBackCard

/-- THE TIED CARD OF 'caulkerlaw08.LabelMost'. -/
def labelMostCard : Claim7 := { stood := { row := labelMostRow, standIns := [], harness := (true, "606c7b6b8f880842b8e1231a055d14ce30a93f26145335a115b5e5b5064dd3a2"), looks := true }, kinds := [], alts := [], laidByText := true, laidKinds := [.data], laidTests := true, laidLooks := .later }
def LabelMostCardSaid : Prop := Claim7.holds Tryz.pinned (.plain (OpenSpec.ofChange labelMostSpec)) labelMostCard

/-- THE SECOND FORM's CARD OF 'caulkerlaw08.LabelReads'. -/
def labelReadsUptoCard : Claim7 := { stood := { row := labelReadsUptoRow, standIns := [], harness := (true, "606c7b6b8f880842b8e1231a055d14ce30a93f26145335a115b5e5b5064dd3a2"), looks := true }, kinds := [], alts := [], laidByText := true, laidKinds := [.data], laidTests := true, laidLooks := .later }
def LabelReadsUptoCardSaid : Prop := Claim7.holds Tryz.pinned (.plain (OpenSpec.upto labelReadsSpec)) labelReadsUptoCard

/-- THE SECOND FORM's CARD OF 'caulkerlaw08.LabelPools'. -/
def labelPoolsUptoCard : Claim7 := { stood := { row := labelPoolsUptoRow, standIns := [], harness := (true, "606c7b6b8f880842b8e1231a055d14ce30a93f26145335a115b5e5b5064dd3a2"), looks := true }, kinds := [], alts := [], laidByText := true, laidKinds := [.data], laidTests := true, laidLooks := .later }
def LabelPoolsUptoCardSaid : Prop := Claim7.holds Tryz.pinned (.plain (OpenSpec.upto labelPoolsSpec)) labelPoolsUptoCard

/-- THE SECOND FORM's CARD OF 'caulkerlaw08.LabelKnown'. -/
def labelKnownUptoCard : Claim7 := { stood := { row := labelKnownUptoRow, standIns := [], harness := (true, "606c7b6b8f880842b8e1231a055d14ce30a93f26145335a115b5e5b5064dd3a2"), looks := true }, kinds := [], alts := [], laidByText := true, laidKinds := [.data], laidTests := true, laidLooks := .later }
def LabelKnownUptoCardSaid : Prop := Claim7.holds Tryz.pinned (.plain (OpenSpec.upto labelKnownSpec)) labelKnownUptoCard

/-- THE SECOND FORM's CARD OF 'caulkerlaw08.LabelBack'. -/
def labelBackUptoCard : Claim7 := { stood := { row := labelBackUptoRow, standIns := [], harness := (true, "606c7b6b8f880842b8e1231a055d14ce30a93f26145335a115b5e5b5064dd3a2"), looks := true }, kinds := [], alts := [], laidByText := true, laidKinds := [.data], laidTests := true, laidLooks := .later }
def LabelBackUptoCardSaid : Prop := Claim7.holds Tryz.pinned (.plain (OpenSpec.upto labelBackSpec)) labelBackUptoCard

/-- THE SECOND FORM's CARD OF 'caulkerlaw08.LabelMost'. -/
def labelMostUptoCard : Claim7 := { stood := { row := labelMostUptoRow, standIns := [], harness := (true, "606c7b6b8f880842b8e1231a055d14ce30a93f26145335a115b5e5b5064dd3a2"), looks := true }, kinds := [], alts := [], laidByText := true, laidKinds := [.data], laidTests := true, laidLooks := .later }
def LabelMostUptoCardSaid : Prop := Claim7.holds Tryz.pinned (.plain (OpenSpec.upto labelMostSpec)) labelMostUptoCard
end Rows
end Go.Proofs.YtcnjjcnmjmcoiaaGreatDoor
