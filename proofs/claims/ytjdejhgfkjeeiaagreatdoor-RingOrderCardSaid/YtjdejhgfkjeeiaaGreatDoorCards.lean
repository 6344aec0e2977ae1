/-
  DERIVED. GIVEN WITH THE SEED: THE CARDS: each row of YtjdejhgfkjeeiaaGreatDoorRows.lean that lists a variable, with what it lists TIED to the program's text (the seventh form; the later family's looks); each row that meets fmt, with fmt's text TOLD by the authors' own Lean function (tested against real Go, not proved from fmt's source: count such statements apart). THE CARD IS WHAT COUNTS. Prove the row's statement (the work); the ties are given (YtjdejhgfkjeeiaaGreatDoorTie.lean); close each card by the builder's one call (the guide's Derived/Test/ToyasCard.lean, 'card_holds'). Laid BY PROGRAM, IN A SANDBOX (cutbox-door.mjs). By AI agents, Wed Nov 11 2026. No macro, syntax, notation, axiom, sorry.
-/
import Derived.Test.YtjdejhgfkjeeiaaGreatDoorRows
import GoSem.ClaimSeven
namespace Go.Proofs.YtjdejhgfkjeeiaaGreatDoor
namespace Rows

/-- THE TIED CARD OF 'caulkerlaw09.UberPacks'. -/
def uberPacksCard : Claim7 := { stood := { row := uberPacksRow, standIns := [], harness := (true, "e1d5c5878fc58041688d6768e29f44b21b4ca4a6e98ec3398c92d3c737bb1395"), looks := true }, kinds := [], alts := [], laidByText := true, laidKinds := [.data, .sentinel, .sentinel, .sentinel], laidTests := true, laidLooks := .later }
def UberPacksCardSaid : Prop := Claim7.holds Tryz.pinned (.plain (OpenSpec.ofChange uberPacksSpec)) uberPacksCard

/-- THE TIED CARD OF 'caulkerlaw09.UberReads'. -/
def uberReadsCard : Claim7 := { stood := { row := uberReadsRow, standIns := [], harness := (true, "e1d5c5878fc58041688d6768e29f44b21b4ca4a6e98ec3398c92d3c737bb1395"), looks := true }, kinds := [], alts := [], laidByText := true, laidKinds := [.data, .sentinel, .sentinel, .sentinel], laidTests := true, laidLooks := .later }
def UberReadsCardSaid : Prop := Claim7.holds Tryz.pinned (.plain (OpenSpec.ofChange uberReadsSpec)) uberReadsCard

/-- THE TIED CARD OF 'caulkerlaw09.UberKnown'. -/
def uberKnownCard : Claim7 := { stood := { row := uberKnownRow, standIns := [], harness := (true, "e1d5c5878fc58041688d6768e29f44b21b4ca4a6e98ec3398c92d3c737bb1395"), looks := true }, kinds := [], alts := [], laidByText := true, laidKinds := [.data, .sentinel, .sentinel, .sentinel], laidTests := true, laidLooks := .later }
def UberKnownCardSaid : Prop := Claim7.holds Tryz.pinned (.plain (OpenSpec.ofChange uberKnownSpec)) uberKnownCard

/-- THE TIED CARD OF 'caulkerlaw09.UberBack'. -/
def uberBackCard : Claim7 := { stood := { row := uberBackRow, standIns := [], harness := (true, "e1d5c5878fc58041688d6768e29f44b21b4ca4a6e98ec3398c92d3c737bb1395"), looks := true }, kinds := [], alts := [], laidByText := true, laidKinds := [.data, .sentinel, .sentinel, .sentinel], laidTests := true, laidLooks := .later }
def UberBackCardSaid : Prop := Claim7.holds Tryz.pinned (.plain (OpenSpec.ofChange uberBackSpec)) uberBackCard

/-- THE TIED CARD OF 'caulkerlaw09.UberTorn'. -/
def uberTornCard : Claim7 := { stood := { row := uberTornRow, standIns := [], harness := (true, "e1d5c5878fc58041688d6768e29f44b21b4ca4a6e98ec3398c92d3c737bb1395"), looks := true }, kinds := [], alts := [], laidByText := true, laidKinds := [.data, .sentinel, .sentinel, .sentinel], laidTests := true, laidLooks := .later }
def UberTornCardSaid : Prop := Claim7.holds Tryz.pinned (.plain (OpenSpec.ofChange uberTornSpec)) uberTornCard

/-- THE TIED CARD OF 'caulkerlaw10.RingFinds'. -/
def ringFindsCard : Claim7 := { stood := { row := ringFindsRow, standIns := [], harness := (true, "e1d5c5878fc58041688d6768e29f44b21b4ca4a6e98ec3398c92d3c737bb1395"), looks := true }, kinds := [], alts := [], laidByText := true, laidKinds := [.data, .sentinel, .sentinel, .sentinel], laidTests := true, laidLooks := .later }
def RingFindsCardSaid : Prop := Claim7.holds Tryz.pinned (.plain (OpenSpec.ofChange ringFindsSpec)) ringFindsCard

/-- THE TIED CARD OF 'caulkerlaw10.RingBest'. -/
def ringBestCard : Claim7 := { stood := { row := ringBestRow, standIns := [], harness := (true, "e1d5c5878fc58041688d6768e29f44b21b4ca4a6e98ec3398c92d3c737bb1395"), looks := true }, kinds := [], alts := [], laidByText := true, laidKinds := [.data, .sentinel, .sentinel, .sentinel], laidTests := true, laidLooks := .later }
def RingBestCardSaid : Prop := Claim7.holds Tryz.pinned (.plain (OpenSpec.ofChange ringBestSpec)) ringBestCard

/-- THE TIED CARD OF 'caulkerlaw10.RingKnown'. -/
def ringKnownCard : Claim7 := { stood := { row := ringKnownRow, standIns := [], harness := (true, "e1d5c5878fc58041688d6768e29f44b21b4ca4a6e98ec3398c92d3c737bb1395"), looks := true }, kinds := [], alts := [], laidByText := true, laidKinds := [.data, .sentinel, .sentinel, .sentinel], laidTests := true, laidLooks := .later }
def RingKnownCardSaid : Prop := Claim7.holds Tryz.pinned (.plain (OpenSpec.ofChange ringKnownSpec)) ringKnownCard

/-- THE TIED CARD OF 'caulkerlaw10.RingTurns'. -/
def ringTurnsCard : Claim7 := { stood := { row := ringTurnsRow, standIns := [], harness := (true, "e1d5c5878fc58041688d6768e29f44b21b4ca4a6e98ec3398c92d3c737bb1395"), looks := true }, kinds := [], alts := [], laidByText := true, laidKinds := [.data, .sentinel, .sentinel, .sentinel], laidTests := true, laidLooks := .later }
def RingTurnsCardSaid : Prop := Claim7.holds Tryz.pinned (.plain (OpenSpec.ofChange ringTurnsSpec)) ringTurnsCard

/-- THE TIED CARD OF 'caulkerlaw10.RingLaid'. -/
def ringLaidCard : Claim7 := { stood := { row := ringLaidRow, standIns := [], harness := (true, "e1d5c5878fc58041688d6768e29f44b21b4ca4a6e98ec3398c92d3c737bb1395"), looks := true }, kinds := [], alts := [], laidByText := true, laidKinds := [.data, .sentinel, .sentinel, .sentinel], laidTests := true, laidLooks := .later }
def RingLaidCardSaid : Prop := Claim7.holds Tryz.pinned (.plain (OpenSpec.ofChange ringLaidSpec)) ringLaidCard

/-- THE TIED CARD OF 'caulkerlaw10.RingOrder'. -/
def ringOrderCard : Claim7 := { stood := { row := ringOrderRow, standIns := [], harness := (true, "e1d5c5878fc58041688d6768e29f44b21b4ca4a6e98ec3398c92d3c737bb1395"), looks := true }, kinds := [], alts := [], laidByText := true, laidKinds := [.data, .sentinel, .sentinel, .sentinel], laidTests := true, laidLooks := .later }
def RingOrderCardSaid : Prop := Claim7.holds Tryz.pinned (.plain (OpenSpec.ofChange ringOrderSpec)) ringOrderCard

/-- THE SECOND FORM's CARD OF 'caulkerlaw09.UberPacks'. -/
def uberPacksUptoCard : Claim7 := { stood := { row := uberPacksUptoRow, standIns := [], harness := (true, "e1d5c5878fc58041688d6768e29f44b21b4ca4a6e98ec3398c92d3c737bb1395"), looks := true }, kinds := [], alts := [], laidByText := true, laidKinds := [.data, .sentinel, .sentinel, .sentinel], laidTests := true, laidLooks := .later }
def UberPacksUptoCardSaid : Prop := Claim7.holds Tryz.pinned (.plain (OpenSpec.upto uberPacksSpec)) uberPacksUptoCard

/-- THE SECOND FORM's CARD OF 'caulkerlaw09.UberReads'. -/
def uberReadsUptoCard : Claim7 := { stood := { row := uberReadsUptoRow, standIns := [], harness := (true, "e1d5c5878fc58041688d6768e29f44b21b4ca4a6e98ec3398c92d3c737bb1395"), looks := true }, kinds := [], alts := [], laidByText := true, laidKinds := [.data, .sentinel, .sentinel, .sentinel], laidTests := true, laidLooks := .later }
def UberReadsUptoCardSaid : Prop := Claim7.holds Tryz.pinned (.plain (OpenSpec.upto uberReadsSpec)) uberReadsUptoCard

/-- THE SECOND FORM's CARD OF 'caulkerlaw09.UberKnown'. -/
def uberKnownUptoCard : Claim7 := { stood := { row := uberKnownUptoRow, standIns := [], harness := (true, "e1d5c5878fc58041688d6768e29f44b21b4ca4a6e98ec3398c92d3c737bb1395"), looks := true }, kinds := [], alts := [], laidByText := true, laidKinds := [.data, .sentinel, .sentinel, .sentinel], laidTests := true, laidLooks := .later }
def UberKnownUptoCardSaid : Prop := Claim7.holds Tryz.pinned (.plain (OpenSpec.upto uberKnownSpec)) uberKnownUptoCard

/-- THE SECOND FORM's CARD OF 'caulkerlaw09.UberBack'. -/
def uberBackUptoCard : Claim7 := { stood := { row := uberBackUptoRow, standIns := [], harness := (true, "e1d5c5878fc58041688d6768e29f44b21b4ca4a6e98ec3398c92d3c737bb1395"), looks := true }, kinds := [], alts := [], laidByText := true, laidKinds := [.data, .sentinel, .sentinel, .sentinel], laidTests := true, laidLooks := .later }
def UberBackUptoCardSaid : Prop := Claim7.holds Tryz.pinned (.plain (OpenSpec.upto uberBackSpec)) uberBackUptoCard

/-- THE SECOND FORM's CARD OF 'caulkerlaw09.UberTorn'. -/
def uberTornUptoCard : Claim7 := { stood := { row := uberTornUptoRow, standIns := [], harness := (true, "e1d5c5878fc58041688d6768e29f44b21b4ca4a6e98ec3398c92d3c737bb1395"), looks := true }, kinds := [], alts := [], laidByText := true, laidKinds := [.data, .sentinel, .sentinel, .sentinel], laidTests := true, laidLooks := .later }
def UberTornUptoCardSaid : Prop := Claim7.holds Tryz.pinned (.plain (OpenSpec.upto uberTornSpec)) uberTornUptoCard

/-- THE SECOND FORM's CARD OF 'caulkerlaw10.RingFinds'. -/
def ringFindsUptoCard : Claim7 := { stood := { row := ringFindsUptoRow, standIns := [], harness := (true, "e1d5c5878fc58041688d6768e29f44b21b4ca4a6e98ec3398c92d3c737bb1395"), looks := true }, kinds := [], alts := [], laidByText := true, laidKinds := [.data, .sentinel, .sentinel, .sentinel], laidTests := true, laidLooks := .later }
def RingFindsUptoCardSaid : Prop := Claim7.holds Tryz.pinned (.plain (OpenSpec.upto ringFindsSpec)) ringFindsUptoCard

/-- THE SECOND FORM's CARD OF 'caulkerlaw10.RingBest'. -/
def ringBestUptoCard : Claim7 := { stood := { row := ringBestUptoRow, standIns := [], harness := (true, "e1d5c5878fc58041688d6768e29f44b21b4ca4a6e98ec3398c92d3c737bb1395"), looks := true }, kinds := [], alts := [], laidByText := true, laidKinds := [.data, .sentinel, .sentinel, .sentinel], laidTests := true, laidLooks := .later }
def RingBestUptoCardSaid : Prop := Claim7.holds Tryz.pinned (.plain (OpenSpec.upto ringBestSpec)) ringBestUptoCard

/-- THE SECOND FORM's CARD OF 'caulkerlaw10.RingKnown'. -/
def ringKnownUptoCard : Claim7 := { stood := { row := ringKnownUptoRow, standIns := [], harness := (true, "e1d5c5878fc58041688d6768e29f44b21b4ca4a6e98ec3398c92d3c737bb1395"), looks := true }, kinds := [], alts := [], laidByText := true, laidKinds := [.data, .sentinel, .sentinel, .sentinel], laidTests := true, laidLooks := .later }
def RingKnownUptoCardSaid : Prop := Claim7.holds Tryz.pinned (.plain (OpenSpec.upto ringKnownSpec)) ringKnownUptoCard

/-- THE SECOND FORM's CARD OF 'caulkerlaw10.RingTurns'. -/
def ringTurnsUptoCard : Claim7 := { stood := { row := ringTurnsUptoRow, standIns := [], harness := (true, "e1d5c5878fc58041688d6768e29f44b21b4ca4a6e98ec3398c92d3c737bb1395"), looks := true }, kinds := [], alts := [], laidByText := true, laidKinds := [.data, .sentinel, .sentinel, .sentinel], laidTests := true, laidLooks := .later }
def RingTurnsUptoCardSaid : Prop := Claim7.holds Tryz.pinned (.plain (OpenSpec.upto ringTurnsSpec)) ringTurnsUptoCard

/-- THE SECOND FORM's CARD OF 'caulkerlaw10.RingLaid'. -/
def ringLaidUptoCard : Claim7 := { stood := { row := ringLaidUptoRow, standIns := [], harness := (true, "e1d5c5878fc58041688d6768e29f44b21b4ca4a6e98ec3398c92d3c737bb1395"), looks := true }, kinds := [], alts := [], laidByText := true, laidKinds := [.data, .sentinel, .sentinel, .sentinel], laidTests := true, laidLooks := .later }
def RingLaidUptoCardSaid : Prop := Claim7.holds Tryz.pinned (.plain (OpenSpec.upto ringLaidSpec)) ringLaidUptoCard

/-- THE SECOND FORM's CARD OF 'caulkerlaw10.RingOrder'. -/
def ringOrderUptoCard : Claim7 := { stood := { row := ringOrderUptoRow, standIns := [], harness := (true, "e1d5c5878fc58041688d6768e29f44b21b4ca4a6e98ec3398c92d3c737bb1395"), looks := true }, kinds := [], alts := [], laidByText := true, laidKinds := [.data, .sentinel, .sentinel, .sentinel], laidTests := true, laidLooks := .later }
def RingOrderUptoCardSaid : Prop := Claim7.holds Tryz.pinned (.plain (OpenSpec.upto ringOrderSpec)) ringOrderUptoCard
end Rows
end Go.Proofs.YtjdejhgfkjeeiaaGreatDoor
