/-
  DERIVED. GIVEN WITH THE SEED: THE CARDS: each row of YtccfpbnkeaoicabDoorRows.lean that lists a variable, with what it lists TIED to the program's text (the seventh form; the later family's looks); each row that meets fmt, with fmt's text TOLD by the authors' own Lean function (tested against real Go, not proved from fmt's source: count such statements apart). THE CARD IS WHAT COUNTS. Prove the row's statement (the work); the ties are given (YtccfpbnkeaoicabDoorTie.lean); close each card by the builder's one call (the guide's Derived/Test/ToyasCard.lean, 'card_holds'). Laid BY PROGRAM, IN A SANDBOX (cutbox-door.mjs). By AI agents, Wed Nov 11 2026. No macro, syntax, notation, axiom, sorry.
-/
import Derived.Test.YtccfpbnkeaoicabDoorRows
import GoSem.ClaimSeven
namespace Go.Proofs.YtccfpbnkeaoicabDoor
namespace Rows

/-- THE TIED CARD OF 'docketlaw08.IdentNames'. -/
def identNamesCard : Claim7 := { stood := { row := identNamesRow, standIns := [], harness := (true, "55937ca58c8f7ecc35693c033b7d890fd071824088ddd6fe13ec7f005e53a918"), looks := false }, kinds := [], alts := [], laidByText := true, laidKinds := [.data], laidTests := true, laidLooks := .later }
def IdentNamesCardSaid : Prop := Claim7.holds Tryd.pinned (.plain (OpenSpec.ofChange identNamesSpec)) identNamesCard

/-- THE SECOND FORM's CARD OF 'docketlaw08.IdentNames'. -/
def identNamesUptoCard : Claim7 := { stood := { row := identNamesUptoRow, standIns := [], harness := (true, "55937ca58c8f7ecc35693c033b7d890fd071824088ddd6fe13ec7f005e53a918"), looks := false }, kinds := [], alts := [], laidByText := true, laidKinds := [.data], laidTests := true, laidLooks := .later }
def IdentNamesUptoCardSaid : Prop := Claim7.holds Tryd.pinned (.plain (OpenSpec.upto identNamesSpec)) identNamesUptoCard
end Rows
end Go.Proofs.YtccfpbnkeaoicabDoor
