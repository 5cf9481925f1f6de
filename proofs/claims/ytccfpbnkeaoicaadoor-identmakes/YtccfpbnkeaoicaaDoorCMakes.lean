import Derived.Test.YtccfpbnkeaoicaaDoorRMakes
import Derived.Test.YtccfpbnkeaoicaaDoorTie
import Derived.Test.YtccfpbnkeaoicaaDoorCards
import Derived.SevenTiedAt
namespace Go.Proofs.YtccfpbnkeaoicaaDoor
open Go
theorem makes_card : Rows.IdentMakesCardSaid :=
  Claim7.holds_tied_plain_at .later [] _ _ _ _ makes_holds (fun _ h => by cases h) (by kernel_rfl) (fun _ h => by cases h) identMakes_row_tie rfl ⟨rfl, rfl⟩ (by kernel_rfl) rfl
    (fun f fn hf hfn => by
      obtain rfl : f = 7 := Option.some.inj ((show Tryd.prog.funcNamed "docket/docketlaw08.IdentMakes" = some 7 by kernel_rfl).symm.trans hf) |>.symm
      obtain rfl : fn = Tryd.f7 := (Option.some.inj (Tryd.func7.symm.trans hfn)).symm
      exact ⟨by kernel_rfl, fun j t ht => by
        rw [Tryd.params7] at ht
        rcases j with _ | j
        · obtain rfl : t = 45 := by simpa using ht.symm
          kernel_rfl
        · simp at ht⟩)
    (by kernel_rfl)
#print axioms makes_card
end Go.Proofs.YtccfpbnkeaoicaaDoor
