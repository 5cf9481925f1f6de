import Derived.Test.YtnlljodmkacmlaaGreatDoorJX
import Derived.Test.YtnlljodmkacmlaaGreatDoorTie
import Derived.Test.YtnlljodmkacmlaaGreatDoorCards
import Derived.SevenTiedAt
namespace Go.Proofs.YtnlljodmkacmlaaGreatDoor
open Go
theorem names_card : Rows.IndexNamesCardSaid :=
  Claim7.holds_tied_plain_at .later [] _ _ _ _ names_holds (fun _ h => by cases h) (by kernel_rfl) (fun _ h => by cases h) indexNames_row_tie rfl ⟨rfl, rfl⟩ (by kernel_rfl) rfl
    (fun f fn hf hfn => by
      obtain rfl : f = 3 := Option.some.inj ((show Tryz.prog.funcNamed "docket/docketlaw17.IndexNames" = some 3 by kernel_rfl).symm.trans hf) |>.symm
      obtain rfl : fn = Tryz.f3 := (Option.some.inj (Tryz.func3.symm.trans hfn)).symm
      exact ⟨by kernel_rfl, fun j t ht => by
        rw [Tryz.params3] at ht
        simp at ht⟩)
    (by kernel_rfl)
#print axioms names_card
end Go.Proofs.YtnlljodmkacmlaaGreatDoor
