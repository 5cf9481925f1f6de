import Derived.Test.YtdghkmgkmfnjjaaGreatDoorNE
import Derived.Test.YtdghkmgkmfnjjaaGreatDoorTie
import Derived.Test.YtdghkmgkmfnjjaaGreatDoorCards
import Derived.SevenTiedAt
namespace Go.Proofs.YtdghkmgkmfnjjaaGreatDoor
open Go
theorem nil_card : Rows.CatalogNilCardSaid :=
  Claim7.holds_tied_plain_at .later [] _ _ _ _ nil_holds (fun _ h => by cases h) (by kernel_rfl) (fun _ h => by cases h) catalogNil_row_tie rfl ⟨rfl, rfl⟩ (by kernel_rfl) rfl
    (fun f fn hf hfn => by
      obtain rfl : f = 3 := Option.some.inj ((show Tryz.prog.funcNamed "docket/docketlaw22.CatalogNil" = some 3 by kernel_rfl).symm.trans hf) |>.symm
      obtain rfl : fn = Tryz.f3 := (Option.some.inj (Tryz.func3.symm.trans hfn)).symm
      exact ⟨by kernel_rfl, fun j t ht => by
        rw [Tryz.params3] at ht
        rcases j with _ | _ | j
        · obtain rfl : t = 32 := by simpa using ht.symm
          kernel_rfl
        · obtain rfl : t = 33 := by simpa using ht.symm
          kernel_rfl
        · simp at ht⟩)
    (by kernel_rfl)
#print axioms nil_card
end Go.Proofs.YtdghkmgkmfnjjaaGreatDoor
