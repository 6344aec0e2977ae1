/-
  DERIVED. GIVEN WITH THE SEED: THE CARDS: each row of YtcnjjcnmjmcoiaaDoorRows.lean that lists a variable, with what it lists TIED to the program's text (the seventh form; the later family's looks); each row that meets fmt, with fmt's text TOLD by the authors' own Lean function (tested against real Go, not proved from fmt's source: count such statements apart). THE CARD IS WHAT COUNTS. Prove the row's statement (the work); the ties are given (YtcnjjcnmjmcoiaaDoorTie.lean); close each card by the builder's one call (the guide's Derived/Test/ToyasCard.lean, 'card_holds'). Laid BY PROGRAM, IN A SANDBOX (cutbox-door.mjs). By AI agents, Wed Nov 11 2026. No macro, syntax, notation, axiom, sorry.
-/
import Derived.Test.YtcnjjcnmjmcoiaaDoorRows
import GoSem.ClaimSeven
namespace Go.Proofs.YtcnjjcnmjmcoiaaDoor
namespace Rows

/-- THE TIED CARD OF 'caulkerlaw08.LabelPacks'. -/
def labelPacksCard : Claim7 := { stood := { row := labelPacksRow, standIns := [], harness := (true, "006a9eff1451a0c9beeb489fd0ecb170521f42c15c941c9626a9ccbc9a1801d3"), looks := true }, kinds := [], alts := [], laidByText := true, laidKinds := [.data], laidTests := true, laidLooks := .later }
def LabelPacksCardSaid : Prop := Claim7.holds Tryd.pinned (.plain (OpenSpec.ofChange labelPacksSpec)) labelPacksCard

/-- THE TIED CARD OF 'caulkerlaw08.LabelTurned'. -/
def labelTurnedCard : Claim7 := { stood := { row := labelTurnedRow, standIns := [], harness := (true, "006a9eff1451a0c9beeb489fd0ecb170521f42c15c941c9626a9ccbc9a1801d3"), looks := true }, kinds := [], alts := [], laidByText := true, laidKinds := [.data], laidTests := true, laidLooks := .later }
def LabelTurnedCardSaid : Prop := Claim7.holds Tryd.pinned (.plain (OpenSpec.ofChange labelTurnedSpec)) labelTurnedCard

/-- THE SECOND FORM's CARD OF 'caulkerlaw08.LabelPacks'. -/
def labelPacksUptoCard : Claim7 := { stood := { row := labelPacksUptoRow, standIns := [], harness := (true, "006a9eff1451a0c9beeb489fd0ecb170521f42c15c941c9626a9ccbc9a1801d3"), looks := true }, kinds := [], alts := [], laidByText := true, laidKinds := [.data], laidTests := true, laidLooks := .later }
def LabelPacksUptoCardSaid : Prop := Claim7.holds Tryd.pinned (.plain (OpenSpec.upto labelPacksSpec)) labelPacksUptoCard

/-- THE SECOND FORM's CARD OF 'caulkerlaw08.LabelTurned'. -/
def labelTurnedUptoCard : Claim7 := { stood := { row := labelTurnedUptoRow, standIns := [], harness := (true, "006a9eff1451a0c9beeb489fd0ecb170521f42c15c941c9626a9ccbc9a1801d3"), looks := true }, kinds := [], alts := [], laidByText := true, laidKinds := [.data], laidTests := true, laidLooks := .later }
def LabelTurnedUptoCardSaid : Prop := Claim7.holds Tryd.pinned (.plain (OpenSpec.upto labelTurnedSpec)) labelTurnedUptoCard
end Rows
end Go.Proofs.YtcnjjcnmjmcoiaaDoor
