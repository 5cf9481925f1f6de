import Derived.Test.YtccfpbnkeaoicaaDoorRSums
import Derived.Test.YtccfpbnkeaoicaaDoorTie
import Derived.Test.YtccfpbnkeaoicaaDoorCards
import Derived.SevenTiedAt
namespace Go.Proofs.YtccfpbnkeaoicaaDoor
open Go
theorem sums_card : Rows.IdentSumsCardSaid :=
  Claim7.holds_tied_plain_at .later [] _ _ _ _ sums_holds (fun _ h => by cases h) (by kernel_rfl) (fun _ h => by cases h) identSums_row_tie rfl ⟨rfl, rfl⟩ (by kernel_rfl) rfl
    (fun f fn hf hfn => by
      obtain rfl : f = 6 := Option.some.inj ((show Tryd.prog.funcNamed "docket/docketlaw08.IdentSums" = some 6 by kernel_rfl).symm.trans hf) |>.symm
      obtain rfl : fn = Tryd.f6 := (Option.some.inj (Tryd.func6.symm.trans hfn)).symm
      exact ⟨by kernel_rfl, fun j t ht => by
        rw [Tryd.params6] at ht
        rcases j with _ | j
        · obtain rfl : t = 38 := by simpa using ht.symm
          kernel_rfl
        · simp at ht⟩)
    (by kernel_rfl)
#print axioms sums_card
end Go.Proofs.YtccfpbnkeaoicaaDoor
