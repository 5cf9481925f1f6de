/-
  DERIVED. GIVEN WITH THE SEED: THE CARDS: each row of YtnccaidlcaeeaaaGreatDoorRows.lean that lists a variable, with what it lists TIED to the program's text (the seventh form; the later family's looks); each row that meets fmt, with fmt's text TOLD by the authors' own Lean function (tested against real Go, not proved from fmt's source: count such statements apart). THE CARD IS WHAT COUNTS. Prove the row's statement (the work); the ties are given (YtnccaidlcaeeaaaGreatDoorTie.lean); close each card by the builder's one call (the guide's Derived/Test/ToyasCard.lean, 'card_holds'). Laid BY PROGRAM, IN A SANDBOX (cutbox-door.mjs). By AI agents, Wed Nov 11 2026. No macro, syntax, notation, axiom, sorry.
-/
import Derived.Test.YtnccaidlcaeeaaaGreatDoorRows
import GoSem.ClaimSeven
namespace Go.Proofs.YtnccaidlcaeeaaaGreatDoor
namespace Rows

/-- THE TIED CARD OF 'docketlaw01.JsonvalEquals'. -/
def jsonvalEqualsCard : Claim7 := { stood := { row := jsonvalEqualsRow, standIns := [], harness := (true, "21ad76a871457aade6396498899ae2f207324abda6a0c20173a657102bc79311"), looks := true }, kinds := [], alts := [], laidByText := true, laidKinds := [.data, .data, .data, .data, .sentinel, .sentinel, .pinned], laidTests := true, laidLooks := .later }
def JsonvalEqualsCardSaid : Prop := Claim7.holds Tryz.pinned (.plain (OpenSpec.ofChange jsonvalEqualsSpec)) jsonvalEqualsCard

/-- THE TIED CARD OF 'docketlaw01.JsonvalOwn'. -/
def jsonvalOwnCard : Claim7 := { stood := { row := jsonvalOwnRow, standIns := [], harness := (true, "21ad76a871457aade6396498899ae2f207324abda6a0c20173a657102bc79311"), looks := true }, kinds := [], alts := [], laidByText := true, laidKinds := [.data, .data, .data, .data, .sentinel, .sentinel, .pinned], laidTests := true, laidLooks := .later }
def JsonvalOwnCardSaid : Prop := Claim7.holds Tryz.pinned (.plain (OpenSpec.ofChange jsonvalOwnSpec)) jsonvalOwnCard

/-- THE SECOND FORM's CARD OF 'docketlaw01.JsonvalEquals'. -/
def jsonvalEqualsUptoCard : Claim7 := { stood := { row := jsonvalEqualsUptoRow, standIns := [], harness := (true, "21ad76a871457aade6396498899ae2f207324abda6a0c20173a657102bc79311"), looks := true }, kinds := [], alts := [], laidByText := true, laidKinds := [.data, .data, .data, .data, .sentinel, .sentinel, .pinned], laidTests := true, laidLooks := .later }
def JsonvalEqualsUptoCardSaid : Prop := Claim7.holds Tryz.pinned (.plain (OpenSpec.upto jsonvalEqualsSpec)) jsonvalEqualsUptoCard

/-- THE SECOND FORM's CARD OF 'docketlaw01.JsonvalOwn'. -/
def jsonvalOwnUptoCard : Claim7 := { stood := { row := jsonvalOwnUptoRow, standIns := [], harness := (true, "21ad76a871457aade6396498899ae2f207324abda6a0c20173a657102bc79311"), looks := true }, kinds := [], alts := [], laidByText := true, laidKinds := [.data, .data, .data, .data, .sentinel, .sentinel, .pinned], laidTests := true, laidLooks := .later }
def JsonvalOwnUptoCardSaid : Prop := Claim7.holds Tryz.pinned (.plain (OpenSpec.upto jsonvalOwnSpec)) jsonvalOwnUptoCard
end Rows
end Go.Proofs.YtnccaidlcaeeaaaGreatDoor
