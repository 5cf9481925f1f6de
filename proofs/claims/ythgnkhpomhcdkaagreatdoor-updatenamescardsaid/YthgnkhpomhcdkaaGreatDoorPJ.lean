import Derived.Test.YthgnkhpomhcdkaaGreatDoorPI
import Derived.Test.YthgnkhpomhcdkaaGreatDoorTie
import Derived.Test.YthgnkhpomhcdkaaGreatDoorCards
import Derived.SevenTiedAt
/-! update: the card UpdateNames. -/
namespace Go.Proofs.YthgnkhpomhcdkaaGreatDoor
open Go
theorem names_card : Rows.UpdateNamesCardSaid :=
  Claim7.holds_tied_plain_at .later [] _ _ _ _ names_holds (fun _ h => by cases h) (by kernel_rfl) (fun _ h => by cases h) updateNames_row_tie rfl ⟨rfl, rfl⟩ (by kernel_rfl) rfl
    (fun f fn hf hfn => by
      obtain rfl : f = 3 := Option.some.inj ((show Tryz.prog.funcNamed "docket/docketlaw05.UpdateNames" = some 3 by kernel_rfl).symm.trans hf) |>.symm
      obtain rfl : fn = Tryz.f3 := (Option.some.inj (Tryz.func3.symm.trans hfn)).symm
      exact ⟨by kernel_rfl, fun j t ht => by
        rw [Tryz.params3] at ht
        simp at ht⟩)
    (by kernel_rfl)
#print axioms names_card
end Go.Proofs.YthgnkhpomhcdkaaGreatDoor
