/-
  DERIVED. GIVEN WITH THE SEED: THE CARDS: each row of YtlkomknjgfjnlaaGreatDoorRows.lean that lists a variable, with what it lists TIED to the program's text (the seventh form; the later family's looks); each row that meets fmt, with fmt's text TOLD by the authors' own Lean function (tested against real Go, not proved from fmt's source: count such statements apart). THE CARD IS WHAT COUNTS. Prove the row's statement (the work); the ties are given (YtlkomknjgfjnlaaGreatDoorTie.lean); close each card by the builder's one call (the guide's Derived/Test/ToyasCard.lean, 'card_holds'). Laid BY PROGRAM, IN A SANDBOX (cutbox-door.mjs). By AI agents, Wed Nov 11 2026. No macro, syntax, notation, axiom, sorry.
-/
import Derived.Test.YtlkomknjgfjnlaaGreatDoorRows
import GoSem.ClaimSeven
namespace Go.Proofs.YtlkomknjgfjnlaaGreatDoor
namespace Rows

/-- THE TIED CARD OF 'docketlaw01.JsonvalParses'. -/
def jsonvalParsesCard : Claim7 := { stood := { row := jsonvalParsesRow, standIns := [], harness := (true, "a9da1b25e3c07f72f4958c0636f78c716ddd9e599b2a91b59db8dfa49290a6f1"), looks := true }, kinds := [], alts := [], laidByText := true, laidKinds := [.data, .data, .data, .data, .sentinel, .sentinel, .pinned], laidTests := true, laidLooks := .later }
def JsonvalParsesCardSaid : Prop := Claim7.holds Tryz.pinned (.plain (OpenSpec.ofChange jsonvalParsesSpec)) jsonvalParsesCard

/-- THE TIED CARD OF 'docketlaw01.JsonvalOwn'. -/
def jsonvalOwnCard : Claim7 := { stood := { row := jsonvalOwnRow, standIns := [], harness := (true, "a9da1b25e3c07f72f4958c0636f78c716ddd9e599b2a91b59db8dfa49290a6f1"), looks := true }, kinds := [], alts := [], laidByText := true, laidKinds := [.data, .data, .data, .data, .sentinel, .sentinel, .pinned], laidTests := true, laidLooks := .later }
def JsonvalOwnCardSaid : Prop := Claim7.holds Tryz.pinned (.plain (OpenSpec.ofChange jsonvalOwnSpec)) jsonvalOwnCard

/-- THE SECOND FORM's CARD OF 'docketlaw01.JsonvalParses'. -/
def jsonvalParsesUptoCard : Claim7 := { stood := { row := jsonvalParsesUptoRow, standIns := [], harness := (true, "a9da1b25e3c07f72f4958c0636f78c716ddd9e599b2a91b59db8dfa49290a6f1"), looks := true }, kinds := [], alts := [], laidByText := true, laidKinds := [.data, .data, .data, .data, .sentinel, .sentinel, .pinned], laidTests := true, laidLooks := .later }
def JsonvalParsesUptoCardSaid : Prop := Claim7.holds Tryz.pinned (.plain (OpenSpec.upto jsonvalParsesSpec)) jsonvalParsesUptoCard

/-- THE SECOND FORM's CARD OF 'docketlaw01.JsonvalOwn'. -/
def jsonvalOwnUptoCard : Claim7 := { stood := { row := jsonvalOwnUptoRow, standIns := [], harness := (true, "a9da1b25e3c07f72f4958c0636f78c716ddd9e599b2a91b59db8dfa49290a6f1"), looks := true }, kinds := [], alts := [], laidByText := true, laidKinds := [.data, .data, .data, .data, .sentinel, .sentinel, .pinned], laidTests := true, laidLooks := .later }
def JsonvalOwnUptoCardSaid : Prop := Claim7.holds Tryz.pinned (.plain (OpenSpec.upto jsonvalOwnSpec)) jsonvalOwnUptoCard
end Rows
end Go.Proofs.YtlkomknjgfjnlaaGreatDoor
