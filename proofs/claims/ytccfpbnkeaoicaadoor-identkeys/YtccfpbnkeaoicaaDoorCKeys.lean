import Derived.Test.YtccfpbnkeaoicaaDoorRKeys
import Derived.Test.YtccfpbnkeaoicaaDoorTie
import Derived.Test.YtccfpbnkeaoicaaDoorCards
import Derived.SevenTiedAt
namespace Go.Proofs.YtccfpbnkeaoicaaDoor
open Go
theorem keys_card : Rows.IdentKeysCardSaid :=
  Claim7.holds_tied_plain_at .later [] _ _ _ _ keys_holds (fun _ h => by cases h) (by kernel_rfl) (fun _ h => by cases h) identKeys_row_tie rfl ⟨rfl, rfl⟩ (by kernel_rfl) rfl
    (fun f fn hf hfn => by
      obtain rfl : f = 8 := Option.some.inj ((show Tryd.prog.funcNamed "docket/docketlaw08.IdentKeys" = some 8 by kernel_rfl).symm.trans hf) |>.symm
      obtain rfl : fn = Tryd.f8 := (Option.some.inj (Tryd.func8.symm.trans hfn)).symm
      exact ⟨by kernel_rfl, fun j t ht => by
        rw [Tryd.params8] at ht
        rcases j with _ | j
        · obtain rfl : t = 53 := by simpa using ht.symm
          kernel_rfl
        · simp at ht⟩)
    (by kernel_rfl)
#print axioms keys_card
end Go.Proofs.YtccfpbnkeaoicaaDoor
