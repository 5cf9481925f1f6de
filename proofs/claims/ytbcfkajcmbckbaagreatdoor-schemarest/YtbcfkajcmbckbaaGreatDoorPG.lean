import Derived.Test.YtbcfkajcmbckbaaGreatDoorPF
import Derived.Test.YtbcfkajcmbckbaaGreatDoorTie
import Derived.Test.YtbcfkajcmbckbaaGreatDoorCards
import Derived.SevenTiedAt
namespace Go.Proofs.YtbcfkajcmbckbaaGreatDoor
open Go
theorem rest_card : Rows.SchemaRestCardSaid :=
  Claim7.holds_tied_plain_at .later [] _ _ _ _ rest_holds (fun _ h => by cases h) (by kernel_rfl) (fun _ h => by cases h) schemaRest_row_tie rfl ⟨rfl, rfl⟩ (by kernel_rfl) rfl
    (fun f fn hf hfn => by
      obtain rfl : f = 3 := Option.some.inj ((show Tryz.prog.funcNamed "docket/docketlaw21.SchemaRest" = some 3 by kernel_rfl).symm.trans hf) |>.symm
      obtain rfl : fn = Tryz.f3 := (Option.some.inj (Tryz.func3.symm.trans hfn)).symm
      exact ⟨by kernel_rfl, fun j t ht => by
        rw [Tryz.params3] at ht
        rcases j with _ | j
        · obtain rfl : t = 27 := by simpa using ht.symm
          kernel_rfl
        · simp at ht⟩)
    (by kernel_rfl)
#print axioms rest_card
end Go.Proofs.YtbcfkajcmbckbaaGreatDoor
