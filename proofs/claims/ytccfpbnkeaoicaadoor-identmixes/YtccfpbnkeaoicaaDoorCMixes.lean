import Derived.Test.YtccfpbnkeaoicaaDoorRMixes
import Derived.Test.YtccfpbnkeaoicaaDoorTie
import Derived.Test.YtccfpbnkeaoicaaDoorCards
import Derived.SevenTiedAt
namespace Go.Proofs.YtccfpbnkeaoicaaDoor
open Go
theorem mixes_card : Rows.IdentMixesCardSaid :=
  Claim7.holds_tied_plain_at .later [] _ _ _ _ mixes_holds (fun _ h => by cases h) (by kernel_rfl) (fun _ h => by cases h) identMixes_row_tie rfl ⟨rfl, rfl⟩ (by kernel_rfl) rfl
    (fun f fn hf hfn => by
      obtain rfl : f = 5 := Option.some.inj ((show Tryd.prog.funcNamed "docket/docketlaw08.IdentMixes" = some 5 by kernel_rfl).symm.trans hf) |>.symm
      obtain rfl : fn = Tryd.f5 := (Option.some.inj (Tryd.func5.symm.trans hfn)).symm
      exact ⟨by kernel_rfl, fun j t ht => by
        rw [Tryd.params5] at ht
        rcases j with _ | j
        · obtain rfl : t = 22 := by simpa using ht.symm
          kernel_rfl
        · simp at ht⟩)
    (by kernel_rfl)
#print axioms mixes_card
end Go.Proofs.YtccfpbnkeaoicaaDoor
