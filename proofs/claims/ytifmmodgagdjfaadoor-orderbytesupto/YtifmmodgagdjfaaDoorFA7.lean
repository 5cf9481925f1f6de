import Derived.Test.YtifmmodgagdjfaaDoorFA6
import Derived.Test.YtifmmodgagdjfaaDoorTie
import Derived.Test.YtifmmodgagdjfaaDoorCards
import Derived.SevenTiedAt
namespace Go.Proofs.YtifmmodgagdjfaaDoor
open Go
theorem bytes_card : Rows.OrderBytesUptoCardSaid :=
  Claim7.holds_tied_plain_at .later [] _ _ _ _ bytes_holds (fun _ h => by cases h) (by kernel_rfl) (fun _ h => by cases h) orderBytesUpto_row_tie rfl ⟨rfl, rfl⟩ (by kernel_rfl) rfl
    (fun f fn hf hfn => by
      obtain rfl : f = 4 := Option.some.inj ((show Tryd.prog.funcNamed "docket/docketlaw03.OrderBytes" = some 4 by kernel_rfl).symm.trans hf) |>.symm
      obtain rfl : fn = Tryd.f4 := (Option.some.inj (Tryd.func4.symm.trans hfn)).symm
      exact ⟨by kernel_rfl, fun j t ht => by
        rw [Tryd.params4] at ht
        obtain rfl : t = 25 := by
          rcases j with _ | j
          · simpa using ht.symm
          · simp at ht
        kernel_rfl⟩)
    (by kernel_rfl)
#print axioms bytes_card
end Go.Proofs.YtifmmodgagdjfaaDoor
