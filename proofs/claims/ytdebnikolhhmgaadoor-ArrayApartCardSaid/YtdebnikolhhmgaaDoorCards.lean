/-
  DERIVED. GIVEN WITH THE SEED: THE CARDS: each row of YtdebnikolhhmgaaDoorRows.lean that lists a variable, with what it lists TIED to the program's text (the seventh form; the later family's looks); each row that meets fmt, with fmt's text TOLD by the authors' own Lean function (tested against real Go, not proved from fmt's source: count such statements apart). THE CARD IS WHAT COUNTS. Prove the row's statement (the work); the ties are given (YtdebnikolhhmgaaDoorTie.lean); close each card by the builder's one call (the guide's Derived/Test/ToyasCard.lean, 'card_holds'). Laid BY PROGRAM, IN A SANDBOX (cutbox-door.mjs). By AI agents, Wed Nov 11 2026. No macro, syntax, notation, axiom, sorry.
-/
import Derived.Test.YtdebnikolhhmgaaDoorRows
import GoSem.ClaimSeven
namespace Go.Proofs.YtdebnikolhhmgaaDoor
namespace Rows

/-- THE TIED CARD OF 'caulkerlaw15.ArrayNone'. -/
def arrayNoneCard : Claim7 := { stood := { row := arrayNoneRow, standIns := [], harness := (true, "a90b152e0973fe1b6121b6bde1759d0e2dd48419e540ca958d08b81a6d63ff94"), looks := true }, kinds := [], alts := [], laidByText := true, laidKinds := [.sentinel, .sentinel, .sentinel, .sentinel, .sentinel, .sentinel], laidTests := true, laidLooks := .later }
def ArrayNoneCardSaid : Prop := Claim7.holds Tryd.pinned (.plain (OpenSpec.ofChange arrayNoneSpec)) arrayNoneCard

/-- THE TIED CARD OF 'caulkerlaw15.ArrayKnown'. -/
def arrayKnownCard : Claim7 := { stood := { row := arrayKnownRow, standIns := [], harness := (true, "a90b152e0973fe1b6121b6bde1759d0e2dd48419e540ca958d08b81a6d63ff94"), looks := true }, kinds := [], alts := [], laidByText := true, laidKinds := [.sentinel, .sentinel, .sentinel, .sentinel, .sentinel, .sentinel], laidTests := true, laidLooks := .later }
def ArrayKnownCardSaid : Prop := Claim7.holds Tryd.pinned (.plain (OpenSpec.ofChange arrayKnownSpec)) arrayKnownCard

/-- THE TIED CARD OF 'caulkerlaw15.ArrayFirm'. -/
def arrayFirmCard : Claim7 := { stood := { row := arrayFirmRow, standIns := [], harness := (true, "a90b152e0973fe1b6121b6bde1759d0e2dd48419e540ca958d08b81a6d63ff94"), looks := true }, kinds := [], alts := [], laidByText := true, laidKinds := [.sentinel, .sentinel, .sentinel, .sentinel, .sentinel, .sentinel], laidTests := true, laidLooks := .later }
def ArrayFirmCardSaid : Prop := Claim7.holds Tryd.pinned (.plain (OpenSpec.ofChange arrayFirmSpec)) arrayFirmCard

/-- THE TIED CARD OF 'caulkerlaw15.ArrayApart'. -/
def arrayApartCard : Claim7 := { stood := { row := arrayApartRow, standIns := [], harness := (true, "a90b152e0973fe1b6121b6bde1759d0e2dd48419e540ca958d08b81a6d63ff94"), looks := true }, kinds := [], alts := [], laidByText := true, laidKinds := [.sentinel, .sentinel, .sentinel, .sentinel, .sentinel, .sentinel], laidTests := true, laidLooks := .later }
def ArrayApartCardSaid : Prop := Claim7.holds Tryd.pinned (.plain (OpenSpec.ofChange arrayApartSpec)) arrayApartCard

/-- THE TIED CARD OF 'caulkerlaw15.ArrayFuses'. -/
def arrayFusesCard : Claim7 := { stood := { row := arrayFusesRow, standIns := [], harness := (true, "a90b152e0973fe1b6121b6bde1759d0e2dd48419e540ca958d08b81a6d63ff94"), looks := true }, kinds := [], alts := [], laidByText := true, laidKinds := [.sentinel, .sentinel, .sentinel, .sentinel, .sentinel, .sentinel], laidTests := true, laidLooks := .later }
def ArrayFusesCardSaid : Prop := Claim7.holds Tryd.pinned (.plain (OpenSpec.ofChange arrayFusesSpec)) arrayFusesCard

/-- THE TIED CARD OF 'caulkerlaw15.ArrayFaults'. -/
def arrayFaultsCard : Claim7 := { stood := { row := arrayFaultsRow, standIns := [], harness := (true, "a90b152e0973fe1b6121b6bde1759d0e2dd48419e540ca958d08b81a6d63ff94"), looks := true }, kinds := [], alts := [], laidByText := true, laidKinds := [.sentinel, .sentinel, .sentinel, .sentinel, .sentinel, .sentinel], laidTests := true, laidLooks := .later }
def ArrayFaultsCardSaid : Prop := Claim7.holds Tryd.pinned (.plain (OpenSpec.ofChange arrayFaultsSpec)) arrayFaultsCard

/-- THE SECOND FORM's CARD OF 'caulkerlaw15.ArrayNone'. -/
def arrayNoneUptoCard : Claim7 := { stood := { row := arrayNoneUptoRow, standIns := [], harness := (true, "a90b152e0973fe1b6121b6bde1759d0e2dd48419e540ca958d08b81a6d63ff94"), looks := true }, kinds := [], alts := [], laidByText := true, laidKinds := [.sentinel, .sentinel, .sentinel, .sentinel, .sentinel, .sentinel], laidTests := true, laidLooks := .later }
def ArrayNoneUptoCardSaid : Prop := Claim7.holds Tryd.pinned (.plain (OpenSpec.upto arrayNoneSpec)) arrayNoneUptoCard

/-- THE SECOND FORM's CARD OF 'caulkerlaw15.ArrayKnown'. -/
def arrayKnownUptoCard : Claim7 := { stood := { row := arrayKnownUptoRow, standIns := [], harness := (true, "a90b152e0973fe1b6121b6bde1759d0e2dd48419e540ca958d08b81a6d63ff94"), looks := true }, kinds := [], alts := [], laidByText := true, laidKinds := [.sentinel, .sentinel, .sentinel, .sentinel, .sentinel, .sentinel], laidTests := true, laidLooks := .later }
def ArrayKnownUptoCardSaid : Prop := Claim7.holds Tryd.pinned (.plain (OpenSpec.upto arrayKnownSpec)) arrayKnownUptoCard

/-- THE SECOND FORM's CARD OF 'caulkerlaw15.ArrayFirm'. -/
def arrayFirmUptoCard : Claim7 := { stood := { row := arrayFirmUptoRow, standIns := [], harness := (true, "a90b152e0973fe1b6121b6bde1759d0e2dd48419e540ca958d08b81a6d63ff94"), looks := true }, kinds := [], alts := [], laidByText := true, laidKinds := [.sentinel, .sentinel, .sentinel, .sentinel, .sentinel, .sentinel], laidTests := true, laidLooks := .later }
def ArrayFirmUptoCardSaid : Prop := Claim7.holds Tryd.pinned (.plain (OpenSpec.upto arrayFirmSpec)) arrayFirmUptoCard

/-- THE SECOND FORM's CARD OF 'caulkerlaw15.ArrayApart'. -/
def arrayApartUptoCard : Claim7 := { stood := { row := arrayApartUptoRow, standIns := [], harness := (true, "a90b152e0973fe1b6121b6bde1759d0e2dd48419e540ca958d08b81a6d63ff94"), looks := true }, kinds := [], alts := [], laidByText := true, laidKinds := [.sentinel, .sentinel, .sentinel, .sentinel, .sentinel, .sentinel], laidTests := true, laidLooks := .later }
def ArrayApartUptoCardSaid : Prop := Claim7.holds Tryd.pinned (.plain (OpenSpec.upto arrayApartSpec)) arrayApartUptoCard

/-- THE SECOND FORM's CARD OF 'caulkerlaw15.ArrayFuses'. -/
def arrayFusesUptoCard : Claim7 := { stood := { row := arrayFusesUptoRow, standIns := [], harness := (true, "a90b152e0973fe1b6121b6bde1759d0e2dd48419e540ca958d08b81a6d63ff94"), looks := true }, kinds := [], alts := [], laidByText := true, laidKinds := [.sentinel, .sentinel, .sentinel, .sentinel, .sentinel, .sentinel], laidTests := true, laidLooks := .later }
def ArrayFusesUptoCardSaid : Prop := Claim7.holds Tryd.pinned (.plain (OpenSpec.upto arrayFusesSpec)) arrayFusesUptoCard

/-- THE SECOND FORM's CARD OF 'caulkerlaw15.ArrayFaults'. -/
def arrayFaultsUptoCard : Claim7 := { stood := { row := arrayFaultsUptoRow, standIns := [], harness := (true, "a90b152e0973fe1b6121b6bde1759d0e2dd48419e540ca958d08b81a6d63ff94"), looks := true }, kinds := [], alts := [], laidByText := true, laidKinds := [.sentinel, .sentinel, .sentinel, .sentinel, .sentinel, .sentinel], laidTests := true, laidLooks := .later }
def ArrayFaultsUptoCardSaid : Prop := Claim7.holds Tryd.pinned (.plain (OpenSpec.upto arrayFaultsSpec)) arrayFaultsUptoCard
end Rows
end Go.Proofs.YtdebnikolhhmgaaDoor
