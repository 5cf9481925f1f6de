/-
  DERIVED. GIVEN WITH THE SEED: THE CARDS: each row of YthijpmomcompaaaDoorRows.lean that lists a variable, with what it lists TIED to the program's text (the seventh form; the later family's looks); each row that meets fmt, with fmt's text TOLD by the authors' own Lean function (tested against real Go, not proved from fmt's source: count such statements apart). THE CARD IS WHAT COUNTS. Prove the row's statement (the work); the ties are given (YthijpmomcompaaaDoorTie.lean); close each card by the builder's one call (the guide's Derived/Test/ToyasCard.lean, 'card_holds'). Laid BY PROGRAM, IN A SANDBOX (cutbox-door.mjs). By AI agents, Wed Nov 11 2026. No macro, syntax, notation, axiom, sorry.
-/
import Derived.Test.YthijpmomcompaaaDoorRows
import GoSem.ClaimSeven
namespace Go.Proofs.YthijpmomcompaaaDoor
namespace Rows

/-- THE TIED CARD OF 'docketlaw03.OrderPicks'. -/
def orderPicksCard : Claim7 := { stood := { row := orderPicksRow, standIns := [], harness := (true, "685f8d307c817ee044f2a445b818cc1172dad64b76fb8e576ae1303e4ca136d7"), looks := false }, kinds := [], alts := [], laidByText := true, laidKinds := [.data, .pinned], laidTests := true, laidLooks := .later }
def OrderPicksCardSaid : Prop := Claim7.holds Tryd.pinned (.plain (OpenSpec.ofChange orderPicksSpec)) orderPicksCard

/-- THE SECOND FORM's CARD OF 'docketlaw03.OrderPicks'. -/
def orderPicksUptoCard : Claim7 := { stood := { row := orderPicksUptoRow, standIns := [], harness := (true, "685f8d307c817ee044f2a445b818cc1172dad64b76fb8e576ae1303e4ca136d7"), looks := false }, kinds := [], alts := [], laidByText := true, laidKinds := [.data, .pinned], laidTests := true, laidLooks := .later }
def OrderPicksUptoCardSaid : Prop := Claim7.holds Tryd.pinned (.plain (OpenSpec.upto orderPicksSpec)) orderPicksUptoCard
end Rows
end Go.Proofs.YthijpmomcompaaaDoor
