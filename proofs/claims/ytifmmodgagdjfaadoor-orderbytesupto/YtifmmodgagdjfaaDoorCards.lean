/-
  DERIVED. GIVEN WITH THE SEED: THE CARDS: each row of YtifmmodgagdjfaaDoorRows.lean that lists a variable, with what it lists TIED to the program's text (the seventh form; the later family's looks); each row that meets fmt, with fmt's text TOLD by the authors' own Lean function (tested against real Go, not proved from fmt's source: count such statements apart). THE CARD IS WHAT COUNTS. Prove the row's statement (the work); the ties are given (YtifmmodgagdjfaaDoorTie.lean); close each card by the builder's one call (the guide's Derived/Test/ToyasCard.lean, 'card_holds'). Laid BY PROGRAM, IN A SANDBOX (cutbox-door.mjs). By AI agents, Wed Nov 11 2026. No macro, syntax, notation, axiom, sorry.
-/
import Derived.Test.YtifmmodgagdjfaaDoorRows
import GoSem.ClaimSeven
namespace Go.Proofs.YtifmmodgagdjfaaDoor
namespace Rows

/-- THE TIED CARD OF 'docketlaw03.OrderLies'. -/
def orderLiesCard : Claim7 := { stood := { row := orderLiesRow, standIns := [], harness := (true, "5ae1b71cfefadc376242b4c1a7eb1bd363106963720c8012c1fa2bed2b6a1a5a"), looks := false }, kinds := [], alts := [], laidByText := true, laidKinds := [.data, .pinned], laidTests := true, laidLooks := .later }
def OrderLiesCardSaid : Prop := Claim7.holds Tryd.pinned (.plain (OpenSpec.ofChange orderLiesSpec)) orderLiesCard

/-- THE TIED CARD OF 'docketlaw03.OrderBytes'. -/
def orderBytesCard : Claim7 := { stood := { row := orderBytesRow, standIns := [], harness := (true, "5ae1b71cfefadc376242b4c1a7eb1bd363106963720c8012c1fa2bed2b6a1a5a"), looks := false }, kinds := [], alts := [], laidByText := true, laidKinds := [.data, .pinned], laidTests := true, laidLooks := .later }
def OrderBytesCardSaid : Prop := Claim7.holds Tryd.pinned (.plain (OpenSpec.ofChange orderBytesSpec)) orderBytesCard

/-- THE SECOND FORM's CARD OF 'docketlaw03.OrderLies'. -/
def orderLiesUptoCard : Claim7 := { stood := { row := orderLiesUptoRow, standIns := [], harness := (true, "5ae1b71cfefadc376242b4c1a7eb1bd363106963720c8012c1fa2bed2b6a1a5a"), looks := false }, kinds := [], alts := [], laidByText := true, laidKinds := [.data, .pinned], laidTests := true, laidLooks := .later }
def OrderLiesUptoCardSaid : Prop := Claim7.holds Tryd.pinned (.plain (OpenSpec.upto orderLiesSpec)) orderLiesUptoCard

/-- THE SECOND FORM's CARD OF 'docketlaw03.OrderBytes'. -/
def orderBytesUptoCard : Claim7 := { stood := { row := orderBytesUptoRow, standIns := [], harness := (true, "5ae1b71cfefadc376242b4c1a7eb1bd363106963720c8012c1fa2bed2b6a1a5a"), looks := false }, kinds := [], alts := [], laidByText := true, laidKinds := [.data, .pinned], laidTests := true, laidLooks := .later }
def OrderBytesUptoCardSaid : Prop := Claim7.holds Tryd.pinned (.plain (OpenSpec.upto orderBytesSpec)) orderBytesUptoCard
end Rows
end Go.Proofs.YtifmmodgagdjfaaDoor
