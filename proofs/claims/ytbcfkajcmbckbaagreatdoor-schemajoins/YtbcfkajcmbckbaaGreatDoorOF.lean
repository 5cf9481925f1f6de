import Derived.Test.YtbcfkajcmbckbaaGreatDoorOE
import Derived.Test.YtbcfkajcmbckbaaGreatDoorTie
import Derived.Test.YtbcfkajcmbckbaaGreatDoorCards
import Derived.SevenTiedAt
namespace Go.Proofs.YtbcfkajcmbckbaaGreatDoor
open Go
theorem joins_card : Rows.SchemaJoinsCardSaid :=
  Claim7.holds_tied_plain_at .later [] _ _ _ _ joins_holds (fun _ h => by cases h) (by kernel_rfl) (fun _ h => by cases h) schemaJoins_row_tie rfl ⟨rfl, rfl⟩ (by kernel_rfl) rfl
    (fun f fn hf hfn => by
      obtain rfl : f = 4 := Option.some.inj ((show Tryz.prog.funcNamed "docket/docketlaw21.SchemaJoins" = some 4 by kernel_rfl).symm.trans hf) |>.symm
      obtain rfl : fn = Tryz.f4 := (Option.some.inj (Tryz.func4.symm.trans hfn)).symm
      exact ⟨by kernel_rfl, fun j t ht => by
        rw [Tryz.params4] at ht
        rcases j with _ | _ | _ | j
        · obtain rfl : t = 25 := by simpa using ht.symm
          kernel_rfl
        · obtain rfl : t = 25 := by simpa using ht.symm
          kernel_rfl
        · obtain rfl : t = 25 := by simpa using ht.symm
          kernel_rfl
        · simp at ht⟩)
    (by kernel_rfl)
#print axioms joins_card
end Go.Proofs.YtbcfkajcmbckbaaGreatDoor
