import Derived.Test.YtjhefkojfojjdaaGreatDoorRR
import Derived.Test.YtjhefkojfojjdaaGreatDoorTie
import Derived.Test.YtjhefkojfojjdaaGreatDoorCards
import Derived.SevenTiedAt
namespace Go.Proofs.YtjhefkojfojjdaaGreatDoor
open Go
theorem prints_card : Rows.JsonvalPrintsUptoCardSaid :=
  Claim7.holds_tied_plain_at .later [] _ _ _ _ prints_holds (fun _ h => by cases h) (by kernel_rfl) (fun _ h => by cases h) jsonvalPrintsUpto_row_tie rfl ⟨rfl, rfl⟩ (by kernel_rfl) rfl
    (fun f fn hf hfn => by
      obtain rfl : f = 3 := Option.some.inj ((show Tryz.prog.funcNamed "docket/docketlaw01.JsonvalPrints" = some 3 by kernel_rfl).symm.trans hf) |>.symm
      obtain rfl : fn = Tryz.f3 := (Option.some.inj (Tryz.func3.symm.trans hfn)).symm
      exact ⟨by kernel_rfl, fun j t ht => by
        rw [Tryz.params3] at ht
        rcases j with _ | j
        · obtain rfl : t = 25 := by simpa using ht.symm
          kernel_rfl
        · simp at ht⟩)
    (by kernel_rfl)
#print axioms prints_card
end Go.Proofs.YtjhefkojfojjdaaGreatDoor
