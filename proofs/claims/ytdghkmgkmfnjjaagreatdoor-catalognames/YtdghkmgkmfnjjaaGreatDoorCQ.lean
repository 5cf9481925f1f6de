import Derived.Test.YtdghkmgkmfnjjaaGreatDoorCP
import Derived.Test.YtdghkmgkmfnjjaaGreatDoorTie
import Derived.Test.YtdghkmgkmfnjjaaGreatDoorCards
import Derived.SevenTiedAt
namespace Go.Proofs.YtdghkmgkmfnjjaaGreatDoor
open Go
theorem names_card : Rows.CatalogNamesCardSaid :=
  Claim7.holds_tied_plain_at .later [] _ _ _ _ names_holds (fun _ h => by cases h) (by kernel_rfl) (fun _ h => by cases h) catalogNames_row_tie rfl ⟨rfl, rfl⟩ (by kernel_rfl) rfl
    (fun f fn hf hfn => by
      obtain rfl : f = 4 := Option.some.inj ((show Tryz.prog.funcNamed "docket/docketlaw22.CatalogNames" = some 4 by kernel_rfl).symm.trans hf) |>.symm
      obtain rfl : fn = Tryz.f4 := (Option.some.inj (Tryz.func4.symm.trans hfn)).symm
      exact ⟨by kernel_rfl, fun j t ht => by
        rw [Tryz.params4] at ht
        simp at ht⟩)
    (by kernel_rfl)
#print axioms names_card
end Go.Proofs.YtdghkmgkmfnjjaaGreatDoor
