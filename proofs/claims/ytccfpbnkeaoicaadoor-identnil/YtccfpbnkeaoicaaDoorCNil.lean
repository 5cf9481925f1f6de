import Derived.Test.YtccfpbnkeaoicaaDoorRNil
import Derived.Test.YtccfpbnkeaoicaaDoorTie
import Derived.Test.YtccfpbnkeaoicaaDoorCards
import Derived.SevenTiedAt
namespace Go.Proofs.YtccfpbnkeaoicaaDoor
open Go
theorem nil_card : Rows.IdentNilCardSaid :=
  Claim7.holds_tied_plain_at .later [] _ _ _ _ nil_holds (fun _ h => by cases h) (by kernel_rfl) (fun _ h => by cases h) identNil_row_tie rfl ⟨rfl, rfl⟩ (by kernel_rfl) rfl
    (fun f fn hf hfn => by
      obtain rfl : f = 4 := Option.some.inj ((show Tryd.prog.funcNamed "docket/docketlaw08.IdentNil" = some 4 by kernel_rfl).symm.trans hf) |>.symm
      obtain rfl : fn = Tryd.f4 := (Option.some.inj (Tryd.func4.symm.trans hfn)).symm
      exact ⟨by kernel_rfl, fun j t ht => by
        rw [Tryd.params4] at ht
        simp at ht⟩)
    (by kernel_rfl)
#print axioms nil_card
end Go.Proofs.YtccfpbnkeaoicaaDoor
