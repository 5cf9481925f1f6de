/-
  DERIVED. GIVEN WITH THE SEED: THE CARDS: each row of YtelbjecdbogpcaaGreatDoorRows.lean that lists a variable, with what it lists TIED to the program's text (the seventh form; the later family's looks); each row that meets fmt, with fmt's text TOLD by the authors' own Lean function (tested against real Go, not proved from fmt's source: count such statements apart). THE CARD IS WHAT COUNTS. Prove the row's statement (the work); the ties are given (YtelbjecdbogpcaaGreatDoorTie.lean); close each card by the builder's one call (the guide's Derived/Test/ToyasCard.lean, 'card_holds'). Laid BY PROGRAM, IN A SANDBOX (cutbox-door.mjs). By AI agents, Wed Nov 11 2026. No macro, syntax, notation, axiom, sorry.
-/
import Derived.Test.YtelbjecdbogpcaaGreatDoorRows
import GoSem.ClaimSeven
namespace Go.Proofs.YtelbjecdbogpcaaGreatDoor
namespace Rows

/-- THE TIED CARD OF 'docketlaw01.JsonvalBack'. -/
def jsonvalBackCard : Claim7 := { stood := { row := jsonvalBackRow, standIns := [], harness := (true, "48646651d2f91cb41ceac5f4bd09fd36bc87d53397b19551ee8666aa23ba6f97"), looks := true }, kinds := [], alts := [], laidByText := true, laidKinds := [.data, .data, .data, .data, .sentinel, .sentinel, .pinned], laidTests := true, laidLooks := .later }
def JsonvalBackCardSaid : Prop := Claim7.holds Tryz.pinned (.plain (OpenSpec.ofChange jsonvalBackSpec)) jsonvalBackCard

/-- THE TIED CARD OF 'docketlaw01.JsonvalUnlike'. -/
def jsonvalUnlikeCard : Claim7 := { stood := { row := jsonvalUnlikeRow, standIns := [], harness := (true, "48646651d2f91cb41ceac5f4bd09fd36bc87d53397b19551ee8666aa23ba6f97"), looks := true }, kinds := [], alts := [], laidByText := true, laidKinds := [.data, .data, .data, .data, .sentinel, .sentinel, .pinned], laidTests := true, laidLooks := .later }
def JsonvalUnlikeCardSaid : Prop := Claim7.holds Tryz.pinned (.plain (OpenSpec.ofChange jsonvalUnlikeSpec)) jsonvalUnlikeCard

/-- THE TIED CARD OF 'docketlaw01.JsonvalMakes'. -/
def jsonvalMakesCard : Claim7 := { stood := { row := jsonvalMakesRow, standIns := [], harness := (true, "48646651d2f91cb41ceac5f4bd09fd36bc87d53397b19551ee8666aa23ba6f97"), looks := true }, kinds := [], alts := [], laidByText := true, laidKinds := [.data, .data, .data, .data, .sentinel, .sentinel, .pinned], laidTests := true, laidLooks := .later }
def JsonvalMakesCardSaid : Prop := Claim7.holds Tryz.pinned (.plain (OpenSpec.ofChange jsonvalMakesSpec)) jsonvalMakesCard

/-- THE TIED CARD OF 'docketlaw01.JsonvalAsks'. -/
def jsonvalAsksCard : Claim7 := { stood := { row := jsonvalAsksRow, standIns := [], harness := (true, "48646651d2f91cb41ceac5f4bd09fd36bc87d53397b19551ee8666aa23ba6f97"), looks := true }, kinds := [], alts := [], laidByText := true, laidKinds := [.data, .data, .data, .data, .sentinel, .sentinel, .pinned], laidTests := true, laidLooks := .later }
def JsonvalAsksCardSaid : Prop := Claim7.holds Tryz.pinned (.plain (OpenSpec.ofChange jsonvalAsksSpec)) jsonvalAsksCard

/-- THE TIED CARD OF 'docketlaw01.JsonvalEquals'. -/
def jsonvalEqualsCard : Claim7 := { stood := { row := jsonvalEqualsRow, standIns := [], harness := (true, "48646651d2f91cb41ceac5f4bd09fd36bc87d53397b19551ee8666aa23ba6f97"), looks := true }, kinds := [], alts := [], laidByText := true, laidKinds := [.data, .data, .data, .data, .sentinel, .sentinel, .pinned], laidTests := true, laidLooks := .later }
def JsonvalEqualsCardSaid : Prop := Claim7.holds Tryz.pinned (.plain (OpenSpec.ofChange jsonvalEqualsSpec)) jsonvalEqualsCard

/-- THE SECOND FORM's CARD OF 'docketlaw01.JsonvalBack'. -/
def jsonvalBackUptoCard : Claim7 := { stood := { row := jsonvalBackUptoRow, standIns := [], harness := (true, "48646651d2f91cb41ceac5f4bd09fd36bc87d53397b19551ee8666aa23ba6f97"), looks := true }, kinds := [], alts := [], laidByText := true, laidKinds := [.data, .data, .data, .data, .sentinel, .sentinel, .pinned], laidTests := true, laidLooks := .later }
def JsonvalBackUptoCardSaid : Prop := Claim7.holds Tryz.pinned (.plain (OpenSpec.upto jsonvalBackSpec)) jsonvalBackUptoCard

/-- THE SECOND FORM's CARD OF 'docketlaw01.JsonvalUnlike'. -/
def jsonvalUnlikeUptoCard : Claim7 := { stood := { row := jsonvalUnlikeUptoRow, standIns := [], harness := (true, "48646651d2f91cb41ceac5f4bd09fd36bc87d53397b19551ee8666aa23ba6f97"), looks := true }, kinds := [], alts := [], laidByText := true, laidKinds := [.data, .data, .data, .data, .sentinel, .sentinel, .pinned], laidTests := true, laidLooks := .later }
def JsonvalUnlikeUptoCardSaid : Prop := Claim7.holds Tryz.pinned (.plain (OpenSpec.upto jsonvalUnlikeSpec)) jsonvalUnlikeUptoCard

/-- THE SECOND FORM's CARD OF 'docketlaw01.JsonvalMakes'. -/
def jsonvalMakesUptoCard : Claim7 := { stood := { row := jsonvalMakesUptoRow, standIns := [], harness := (true, "48646651d2f91cb41ceac5f4bd09fd36bc87d53397b19551ee8666aa23ba6f97"), looks := true }, kinds := [], alts := [], laidByText := true, laidKinds := [.data, .data, .data, .data, .sentinel, .sentinel, .pinned], laidTests := true, laidLooks := .later }
def JsonvalMakesUptoCardSaid : Prop := Claim7.holds Tryz.pinned (.plain (OpenSpec.upto jsonvalMakesSpec)) jsonvalMakesUptoCard

/-- THE SECOND FORM's CARD OF 'docketlaw01.JsonvalAsks'. -/
def jsonvalAsksUptoCard : Claim7 := { stood := { row := jsonvalAsksUptoRow, standIns := [], harness := (true, "48646651d2f91cb41ceac5f4bd09fd36bc87d53397b19551ee8666aa23ba6f97"), looks := true }, kinds := [], alts := [], laidByText := true, laidKinds := [.data, .data, .data, .data, .sentinel, .sentinel, .pinned], laidTests := true, laidLooks := .later }
def JsonvalAsksUptoCardSaid : Prop := Claim7.holds Tryz.pinned (.plain (OpenSpec.upto jsonvalAsksSpec)) jsonvalAsksUptoCard

/-- THE SECOND FORM's CARD OF 'docketlaw01.JsonvalEquals'. -/
def jsonvalEqualsUptoCard : Claim7 := { stood := { row := jsonvalEqualsUptoRow, standIns := [], harness := (true, "48646651d2f91cb41ceac5f4bd09fd36bc87d53397b19551ee8666aa23ba6f97"), looks := true }, kinds := [], alts := [], laidByText := true, laidKinds := [.data, .data, .data, .data, .sentinel, .sentinel, .pinned], laidTests := true, laidLooks := .later }
def JsonvalEqualsUptoCardSaid : Prop := Claim7.holds Tryz.pinned (.plain (OpenSpec.upto jsonvalEqualsSpec)) jsonvalEqualsUptoCard
end Rows
end Go.Proofs.YtelbjecdbogpcaaGreatDoor
