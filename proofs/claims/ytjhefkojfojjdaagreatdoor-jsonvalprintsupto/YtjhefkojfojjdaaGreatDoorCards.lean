/-
  DERIVED. GIVEN WITH THE SEED: THE CARDS: each row of YtjhefkojfojjdaaGreatDoorRows.lean that lists a variable, with what it lists TIED to the program's text (the seventh form; the later family's looks); each row that meets fmt, with fmt's text TOLD by the authors' own Lean function (tested against real Go, not proved from fmt's source: count such statements apart). THE CARD IS WHAT COUNTS. Prove the row's statement (the work); the ties are given (YtjhefkojfojjdaaGreatDoorTie.lean); close each card by the builder's one call (the guide's Derived/Test/ToyasCard.lean, 'card_holds'). Laid BY PROGRAM, IN A SANDBOX (cutbox-door.mjs). By AI agents, Wed Nov 11 2026. No macro, syntax, notation, axiom, sorry.
-/
import Derived.Test.YtjhefkojfojjdaaGreatDoorRows
import GoSem.ClaimSeven
namespace Go.Proofs.YtjhefkojfojjdaaGreatDoor
namespace Rows

/-- THE TIED CARD OF 'docketlaw01.JsonvalPrints'. -/
def jsonvalPrintsCard : Claim7 := { stood := { row := jsonvalPrintsRow, standIns := [], harness := (true, "987b1097447c6c998926e4e079063ee6bd094e9115240eecaaac4c61477c0456"), looks := true }, kinds := [], alts := [], laidByText := true, laidKinds := [.data, .data, .data, .data, .sentinel, .sentinel, .pinned], laidTests := true, laidLooks := .later }
def JsonvalPrintsCardSaid : Prop := Claim7.holds Tryz.pinned (.plain (OpenSpec.ofChange jsonvalPrintsSpec)) jsonvalPrintsCard

/-- THE SECOND FORM's CARD OF 'docketlaw01.JsonvalPrints'. -/
def jsonvalPrintsUptoCard : Claim7 := { stood := { row := jsonvalPrintsUptoRow, standIns := [], harness := (true, "987b1097447c6c998926e4e079063ee6bd094e9115240eecaaac4c61477c0456"), looks := true }, kinds := [], alts := [], laidByText := true, laidKinds := [.data, .data, .data, .data, .sentinel, .sentinel, .pinned], laidTests := true, laidLooks := .later }
def JsonvalPrintsUptoCardSaid : Prop := Claim7.holds Tryz.pinned (.plain (OpenSpec.upto jsonvalPrintsSpec)) jsonvalPrintsUptoCard
end Rows
end Go.Proofs.YtjhefkojfojjdaaGreatDoor
