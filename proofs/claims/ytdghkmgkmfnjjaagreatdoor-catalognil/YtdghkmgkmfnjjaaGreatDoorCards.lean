/-
  DERIVED. GIVEN WITH THE SEED: THE CARDS: each row of YtdghkmgkmfnjjaaGreatDoorRows.lean that lists a variable, with what it lists TIED to the program's text (the seventh form; the later family's looks); each row that meets fmt, with fmt's text TOLD by the authors' own Lean function (tested against real Go, not proved from fmt's source: count such statements apart). THE CARD IS WHAT COUNTS. Prove the row's statement (the work); the ties are given (YtdghkmgkmfnjjaaGreatDoorTie.lean); close each card by the builder's one call (the guide's Derived/Test/ToyasCard.lean, 'card_holds'). Laid BY PROGRAM, IN A SANDBOX (cutbox-door.mjs). By AI agents, Wed Nov 11 2026. No macro, syntax, notation, axiom, sorry.
-/
import Derived.Test.YtdghkmgkmfnjjaaGreatDoorRows
import GoSem.ClaimSeven
namespace Go.Proofs.YtdghkmgkmfnjjaaGreatDoor
namespace Rows

/-- THE TIED CARD OF 'docketlaw22.CatalogNil'. -/
def catalogNilCard : Claim7 := { stood := { row := catalogNilRow, standIns := [], harness := (true, "e1d012aff0e88749a495025af43ad80bb8f7b7b907550a2659ce1f0a71946478"), looks := false }, kinds := [], alts := [], laidByText := true, laidKinds := [.data, .data, .pinned], laidTests := true, laidLooks := .later }
def CatalogNilCardSaid : Prop := Claim7.holds Tryz.pinned (.plain (OpenSpec.ofChange catalogNilSpec)) catalogNilCard

/-- THE TIED CARD OF 'docketlaw22.CatalogNames'. -/
def catalogNamesCard : Claim7 := { stood := { row := catalogNamesRow, standIns := [], harness := (true, "e1d012aff0e88749a495025af43ad80bb8f7b7b907550a2659ce1f0a71946478"), looks := false }, kinds := [], alts := [], laidByText := true, laidKinds := [.data, .data, .pinned], laidTests := true, laidLooks := .later }
def CatalogNamesCardSaid : Prop := Claim7.holds Tryz.pinned (.plain (OpenSpec.ofChange catalogNamesSpec)) catalogNamesCard

/-- THE SECOND FORM's CARD OF 'docketlaw22.CatalogNil'. -/
def catalogNilUptoCard : Claim7 := { stood := { row := catalogNilUptoRow, standIns := [], harness := (true, "e1d012aff0e88749a495025af43ad80bb8f7b7b907550a2659ce1f0a71946478"), looks := false }, kinds := [], alts := [], laidByText := true, laidKinds := [.data, .data, .pinned], laidTests := true, laidLooks := .later }
def CatalogNilUptoCardSaid : Prop := Claim7.holds Tryz.pinned (.plain (OpenSpec.upto catalogNilSpec)) catalogNilUptoCard

/-- THE SECOND FORM's CARD OF 'docketlaw22.CatalogNames'. -/
def catalogNamesUptoCard : Claim7 := { stood := { row := catalogNamesUptoRow, standIns := [], harness := (true, "e1d012aff0e88749a495025af43ad80bb8f7b7b907550a2659ce1f0a71946478"), looks := false }, kinds := [], alts := [], laidByText := true, laidKinds := [.data, .data, .pinned], laidTests := true, laidLooks := .later }
def CatalogNamesUptoCardSaid : Prop := Claim7.holds Tryz.pinned (.plain (OpenSpec.upto catalogNamesSpec)) catalogNamesUptoCard
end Rows
end Go.Proofs.YtdghkmgkmfnjjaaGreatDoor
