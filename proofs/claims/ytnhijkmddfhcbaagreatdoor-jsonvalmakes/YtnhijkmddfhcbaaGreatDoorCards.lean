/-
  DERIVED. GIVEN WITH THE SEED: THE CARDS: each row of YtnhijkmddfhcbaaGreatDoorRows.lean that lists a variable, with what it lists TIED to the program's text (the seventh form; the later family's looks); each row that meets fmt, with fmt's text TOLD by the authors' own Lean function (tested against real Go, not proved from fmt's source: count such statements apart). THE CARD IS WHAT COUNTS. Prove the row's statement (the work); the ties are given (YtnhijkmddfhcbaaGreatDoorTie.lean); close each card by the builder's one call (the guide's Derived/Test/ToyasCard.lean, 'card_holds'). Laid BY PROGRAM, IN A SANDBOX (cutbox-door.mjs). By AI agents, Wed Nov 11 2026. No macro, syntax, notation, axiom, sorry.
-/
import Derived.Test.YtnhijkmddfhcbaaGreatDoorRows
import GoSem.ClaimSeven
namespace Go.Proofs.YtnhijkmddfhcbaaGreatDoor
namespace Rows

/-- THE TIED CARD OF 'docketlaw01.JsonvalMakes'. -/
def jsonvalMakesCard : Claim7 := { stood := { row := jsonvalMakesRow, standIns := [], harness := (true, "6c66ce4a3021b695e8e241a6745bab8d7693472dd71d0683de9e24de97ee22cd"), looks := true }, kinds := [], alts := [], laidByText := true, laidKinds := [.data, .data, .data, .data, .sentinel, .sentinel, .pinned], laidTests := true, laidLooks := .later }
def JsonvalMakesCardSaid : Prop := Claim7.holds Tryz.pinned (.plain (OpenSpec.ofChange jsonvalMakesSpec)) jsonvalMakesCard

/-- THE SECOND FORM's CARD OF 'docketlaw01.JsonvalMakes'. -/
def jsonvalMakesUptoCard : Claim7 := { stood := { row := jsonvalMakesUptoRow, standIns := [], harness := (true, "6c66ce4a3021b695e8e241a6745bab8d7693472dd71d0683de9e24de97ee22cd"), looks := true }, kinds := [], alts := [], laidByText := true, laidKinds := [.data, .data, .data, .data, .sentinel, .sentinel, .pinned], laidTests := true, laidLooks := .later }
def JsonvalMakesUptoCardSaid : Prop := Claim7.holds Tryz.pinned (.plain (OpenSpec.upto jsonvalMakesSpec)) jsonvalMakesUptoCard
end Rows
end Go.Proofs.YtnhijkmddfhcbaaGreatDoor
