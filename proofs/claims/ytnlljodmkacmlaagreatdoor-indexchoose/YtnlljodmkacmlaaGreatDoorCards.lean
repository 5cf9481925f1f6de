/-
  DERIVED. GIVEN WITH THE SEED: THE CARDS: each row of YtnlljodmkacmlaaGreatDoorRows.lean that lists a variable, with what it lists TIED to the program's text (the seventh form; the later family's looks); each row that meets fmt, with fmt's text TOLD by the authors' own Lean function (tested against real Go, not proved from fmt's source: count such statements apart). THE CARD IS WHAT COUNTS. Prove the row's statement (the work); the ties are given (YtnlljodmkacmlaaGreatDoorTie.lean); close each card by the builder's one call (the guide's Derived/Test/ToyasCard.lean, 'card_holds'). Laid BY PROGRAM, IN A SANDBOX (cutbox-door.mjs). By AI agents, Wed Nov 11 2026. No macro, syntax, notation, axiom, sorry.
-/
import Derived.Test.YtnlljodmkacmlaaGreatDoorRows
import GoSem.ClaimSeven
namespace Go.Proofs.YtnlljodmkacmlaaGreatDoor
namespace Rows

/-- THE TIED CARD OF 'docketlaw17.IndexNames'. -/
def indexNamesCard : Claim7 := { stood := { row := indexNamesRow, standIns := [], harness := (true, "6ab38871f11231fde099707e20bab4b038b3c9be9f9bcb4af3aea2f7fa67903a"), looks := false }, kinds := [], alts := [], laidByText := true, laidKinds := [.data, .pinned], laidTests := true, laidLooks := .later }
def IndexNamesCardSaid : Prop := Claim7.holds Tryz.pinned (.plain (OpenSpec.ofChange indexNamesSpec)) indexNamesCard

/-- THE TIED CARD OF 'docketlaw17.IndexNil'. -/
def indexNilCard : Claim7 := { stood := { row := indexNilRow, standIns := [], harness := (true, "6ab38871f11231fde099707e20bab4b038b3c9be9f9bcb4af3aea2f7fa67903a"), looks := false }, kinds := [], alts := [], laidByText := true, laidKinds := [.data, .pinned], laidTests := true, laidLooks := .later }
def IndexNilCardSaid : Prop := Claim7.holds Tryz.pinned (.plain (OpenSpec.ofChange indexNilSpec)) indexNilCard

/-- THE TIED CARD OF 'docketlaw17.IndexChoose'. -/
def indexChooseCard : Claim7 := { stood := { row := indexChooseRow, standIns := [], harness := (true, "6ab38871f11231fde099707e20bab4b038b3c9be9f9bcb4af3aea2f7fa67903a"), looks := false }, kinds := [], alts := [], laidByText := true, laidKinds := [.data, .pinned], laidTests := true, laidLooks := .later }
def IndexChooseCardSaid : Prop := Claim7.holds Tryz.pinned (.plain (OpenSpec.ofChange indexChooseSpec)) indexChooseCard

/-- THE SECOND FORM's CARD OF 'docketlaw17.IndexNames'. -/
def indexNamesUptoCard : Claim7 := { stood := { row := indexNamesUptoRow, standIns := [], harness := (true, "6ab38871f11231fde099707e20bab4b038b3c9be9f9bcb4af3aea2f7fa67903a"), looks := false }, kinds := [], alts := [], laidByText := true, laidKinds := [.data, .pinned], laidTests := true, laidLooks := .later }
def IndexNamesUptoCardSaid : Prop := Claim7.holds Tryz.pinned (.plain (OpenSpec.upto indexNamesSpec)) indexNamesUptoCard

/-- THE SECOND FORM's CARD OF 'docketlaw17.IndexNil'. -/
def indexNilUptoCard : Claim7 := { stood := { row := indexNilUptoRow, standIns := [], harness := (true, "6ab38871f11231fde099707e20bab4b038b3c9be9f9bcb4af3aea2f7fa67903a"), looks := false }, kinds := [], alts := [], laidByText := true, laidKinds := [.data, .pinned], laidTests := true, laidLooks := .later }
def IndexNilUptoCardSaid : Prop := Claim7.holds Tryz.pinned (.plain (OpenSpec.upto indexNilSpec)) indexNilUptoCard

/-- THE SECOND FORM's CARD OF 'docketlaw17.IndexChoose'. -/
def indexChooseUptoCard : Claim7 := { stood := { row := indexChooseUptoRow, standIns := [], harness := (true, "6ab38871f11231fde099707e20bab4b038b3c9be9f9bcb4af3aea2f7fa67903a"), looks := false }, kinds := [], alts := [], laidByText := true, laidKinds := [.data, .pinned], laidTests := true, laidLooks := .later }
def IndexChooseUptoCardSaid : Prop := Claim7.holds Tryz.pinned (.plain (OpenSpec.upto indexChooseSpec)) indexChooseUptoCard
end Rows
end Go.Proofs.YtnlljodmkacmlaaGreatDoor
