/-
  DERIVED. GIVEN WITH THE SEED: THE CARDS: each row of YthgnkhpomhcdkaaGreatDoorRows.lean that lists a variable, with what it lists TIED to the program's text (the seventh form; the later family's looks); each row that meets fmt, with fmt's text TOLD by the authors' own Lean function (tested against real Go, not proved from fmt's source: count such statements apart). THE CARD IS WHAT COUNTS. Prove the row's statement (the work); the ties are given (YthgnkhpomhcdkaaGreatDoorTie.lean); close each card by the builder's one call (the guide's Derived/Test/ToyasCard.lean, 'card_holds'). Laid BY PROGRAM, IN A SANDBOX (cutbox-door.mjs). By AI agents, Wed Nov 11 2026. No macro, syntax, notation, axiom, sorry.
-/
import Derived.Test.YthgnkhpomhcdkaaGreatDoorRows
import GoSem.ClaimSeven
namespace Go.Proofs.YthgnkhpomhcdkaaGreatDoor
namespace Rows

/-- THE TIED CARD OF 'docketlaw05.UpdateNames'. -/
def updateNamesCard : Claim7 := { stood := { row := updateNamesRow, standIns := [], harness := (true, "4f6551c3c83b151ee04de5fba585175052b57338939fd09f4fb67d1e35cf7174"), looks := true }, kinds := [], alts := [], laidByText := true, laidKinds := [.data, .data, .data, .data, .handle, .pinned], laidTests := true, laidLooks := .later }
def UpdateNamesCardSaid : Prop := Claim7.holds Tryz.pinned (.plain (OpenSpec.ofChange updateNamesSpec)) updateNamesCard

/-- THE TIED CARD OF 'docketlaw05.UpdateNil'. -/
def updateNilCard : Claim7 := { stood := { row := updateNilRow, standIns := [], harness := (true, "4f6551c3c83b151ee04de5fba585175052b57338939fd09f4fb67d1e35cf7174"), looks := true }, kinds := [], alts := [], laidByText := true, laidKinds := [.data, .data, .data, .data, .handle, .pinned], laidTests := true, laidLooks := .later }
def UpdateNilCardSaid : Prop := Claim7.holds Tryz.pinned (.plain (OpenSpec.ofChange updateNilSpec)) updateNilCard

/-- THE SECOND FORM's CARD OF 'docketlaw05.UpdateNames'. -/
def updateNamesUptoCard : Claim7 := { stood := { row := updateNamesUptoRow, standIns := [], harness := (true, "4f6551c3c83b151ee04de5fba585175052b57338939fd09f4fb67d1e35cf7174"), looks := true }, kinds := [], alts := [], laidByText := true, laidKinds := [.data, .data, .data, .data, .handle, .pinned], laidTests := true, laidLooks := .later }
def UpdateNamesUptoCardSaid : Prop := Claim7.holds Tryz.pinned (.plain (OpenSpec.upto updateNamesSpec)) updateNamesUptoCard

/-- THE SECOND FORM's CARD OF 'docketlaw05.UpdateNil'. -/
def updateNilUptoCard : Claim7 := { stood := { row := updateNilUptoRow, standIns := [], harness := (true, "4f6551c3c83b151ee04de5fba585175052b57338939fd09f4fb67d1e35cf7174"), looks := true }, kinds := [], alts := [], laidByText := true, laidKinds := [.data, .data, .data, .data, .handle, .pinned], laidTests := true, laidLooks := .later }
def UpdateNilUptoCardSaid : Prop := Claim7.holds Tryz.pinned (.plain (OpenSpec.upto updateNilSpec)) updateNilUptoCard
end Rows
end Go.Proofs.YthgnkhpomhcdkaaGreatDoor
