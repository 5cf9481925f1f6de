/-
  DERIVED. GIVEN WITH THE SEED: THE CARDS: each row of YtgohjkblfojmaaaDoorRows.lean that lists a variable, with what it lists TIED to the program's text (the seventh form; the later family's looks); each row that meets fmt, with fmt's text TOLD by the authors' own Lean function (tested against real Go, not proved from fmt's source: count such statements apart). THE CARD IS WHAT COUNTS. Prove the row's statement (the work); the ties are given (YtgohjkblfojmaaaDoorTie.lean); close each card by the builder's one call (the guide's Derived/Test/ToyasCard.lean, 'card_holds'). Laid BY PROGRAM, IN A SANDBOX (cutbox-door.mjs). By AI agents, Wed Nov 11 2026. No macro, syntax, notation, axiom, sorry.
-/
import Derived.Test.YtgohjkblfojmaaaDoorRows
import GoSem.ClaimSeven
namespace Go.Proofs.YtgohjkblfojmaaaDoor
namespace Rows

/-- THE TIED CARD OF 'docketlaw01.JsonvalNames'. -/
def jsonvalNamesCard : Claim7 := { stood := { row := jsonvalNamesRow, standIns := [], harness := (true, "9b87099ffddb0ea72bd8a5c2b3277e7240263d6cd92bf0851d6868d92687ec16"), looks := true }, kinds := [], alts := [], laidByText := true, laidKinds := [.data, .data, .data, .data, .sentinel, .sentinel, .pinned], laidTests := true, laidLooks := .later }
def JsonvalNamesCardSaid : Prop := Claim7.holds Tryd.pinned (.plain (OpenSpec.ofChange jsonvalNamesSpec)) jsonvalNamesCard

/-- THE TIED CARD OF 'docketlaw01.JsonvalFirst'. -/
def jsonvalFirstCard : Claim7 := { stood := { row := jsonvalFirstRow, standIns := [], harness := (true, "9b87099ffddb0ea72bd8a5c2b3277e7240263d6cd92bf0851d6868d92687ec16"), looks := true }, kinds := [], alts := [], laidByText := true, laidKinds := [.data, .data, .data, .data, .sentinel, .sentinel, .pinned], laidTests := true, laidLooks := .later }
def JsonvalFirstCardSaid : Prop := Claim7.holds Tryd.pinned (.plain (OpenSpec.ofChange jsonvalFirstSpec)) jsonvalFirstCard

/-- THE TIED CARD OF 'docketlaw01.JsonvalForm'. -/
def jsonvalFormCard : Claim7 := { stood := { row := jsonvalFormRow, standIns := [], harness := (true, "9b87099ffddb0ea72bd8a5c2b3277e7240263d6cd92bf0851d6868d92687ec16"), looks := true }, kinds := [], alts := [], laidByText := true, laidKinds := [.data, .data, .data, .data, .sentinel, .sentinel, .pinned], laidTests := true, laidLooks := .later }
def JsonvalFormCardSaid : Prop := Claim7.holds Tryd.pinned (.plain (OpenSpec.ofChange jsonvalFormSpec)) jsonvalFormCard

/-- THE SECOND FORM's CARD OF 'docketlaw01.JsonvalNames'. -/
def jsonvalNamesUptoCard : Claim7 := { stood := { row := jsonvalNamesUptoRow, standIns := [], harness := (true, "9b87099ffddb0ea72bd8a5c2b3277e7240263d6cd92bf0851d6868d92687ec16"), looks := true }, kinds := [], alts := [], laidByText := true, laidKinds := [.data, .data, .data, .data, .sentinel, .sentinel, .pinned], laidTests := true, laidLooks := .later }
def JsonvalNamesUptoCardSaid : Prop := Claim7.holds Tryd.pinned (.plain (OpenSpec.upto jsonvalNamesSpec)) jsonvalNamesUptoCard

/-- THE SECOND FORM's CARD OF 'docketlaw01.JsonvalFirst'. -/
def jsonvalFirstUptoCard : Claim7 := { stood := { row := jsonvalFirstUptoRow, standIns := [], harness := (true, "9b87099ffddb0ea72bd8a5c2b3277e7240263d6cd92bf0851d6868d92687ec16"), looks := true }, kinds := [], alts := [], laidByText := true, laidKinds := [.data, .data, .data, .data, .sentinel, .sentinel, .pinned], laidTests := true, laidLooks := .later }
def JsonvalFirstUptoCardSaid : Prop := Claim7.holds Tryd.pinned (.plain (OpenSpec.upto jsonvalFirstSpec)) jsonvalFirstUptoCard

/-- THE SECOND FORM's CARD OF 'docketlaw01.JsonvalForm'. -/
def jsonvalFormUptoCard : Claim7 := { stood := { row := jsonvalFormUptoRow, standIns := [], harness := (true, "9b87099ffddb0ea72bd8a5c2b3277e7240263d6cd92bf0851d6868d92687ec16"), looks := true }, kinds := [], alts := [], laidByText := true, laidKinds := [.data, .data, .data, .data, .sentinel, .sentinel, .pinned], laidTests := true, laidLooks := .later }
def JsonvalFormUptoCardSaid : Prop := Claim7.holds Tryd.pinned (.plain (OpenSpec.upto jsonvalFormSpec)) jsonvalFormUptoCard
end Rows
end Go.Proofs.YtgohjkblfojmaaaDoor
