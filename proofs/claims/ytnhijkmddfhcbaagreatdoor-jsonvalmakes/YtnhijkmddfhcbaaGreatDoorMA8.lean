import Derived.Test.YtnhijkmddfhcbaaGreatDoorMA7
import Derived.Test.YtnhijkmddfhcbaaGreatDoorTie
import Derived.Test.YtnhijkmddfhcbaaGreatDoorCards
import Derived.SevenTiedAt
namespace Go.Proofs.YtnhijkmddfhcbaaGreatDoor
open Go
theorem makes_card : Rows.JsonvalMakesCardSaid :=
  Claim7.holds_tied_plain_at .later [] _ _ _ _ makes_holds (fun _ h => by cases h) (by kernel_rfl) (fun _ h => by cases h) jsonvalMakes_row_tie rfl ⟨rfl, rfl⟩ (by kernel_rfl) rfl
    (fun f fn hf hfn => by
      obtain rfl : f = 3 := Option.some.inj ((show Tryz.prog.funcNamed "docket/docketlaw01.JsonvalMakes" = some 3 by kernel_rfl).symm.trans hf) |>.symm
      obtain rfl : fn = Tryz.f3 := (Option.some.inj (Tryz.func3.symm.trans hfn)).symm
      exact ⟨by kernel_rfl, fun j t ht => by
        rw [Tryz.params3] at ht
        rcases j with _ | _ | _ | _ | j
        · obtain rfl : t = 22 := by simpa using ht.symm
          kernel_rfl
        · obtain rfl : t = 23 := by simpa using ht.symm
          kernel_rfl
        · obtain rfl : t = 2 := by simpa using ht.symm
          kernel_rfl
        · obtain rfl : t = 9 := by simpa using ht.symm
          kernel_rfl
        · simp at ht⟩)
    (by kernel_rfl)
#print axioms makes_card
end Go.Proofs.YtnhijkmddfhcbaaGreatDoor
