import Derived.Test.YtgkcacimmanejaaDoorH4
import Derived.Test.YtgkcacimmanejaaDoorTie
import Derived.Test.YtgkcacimmanejaaDoorCards
import Derived.SevenTiedAt
namespace Go.Proofs.YtgkcacimmanejaaDoor
open Go
theorem lies_card : Rows.OrderLiesUptoCardSaid :=
  Claim7.holds_tied_plain_at .later [] _ _ _ _ lies_holds (fun _ h => by cases h) (by kernel_rfl) (fun _ h => by cases h) orderLiesUpto_row_tie rfl ⟨rfl, rfl⟩ (by kernel_rfl) rfl
    (fun f fn hf hfn => by
      obtain rfl : f = 3 := Option.some.inj ((show Tryd.prog.funcNamed "docket/docketlaw03.OrderLies" = some 3 by kernel_rfl).symm.trans hf) |>.symm
      obtain rfl : fn = Tryd.f3 := (Option.some.inj (Tryd.func3.symm.trans hfn)).symm
      exact ⟨by kernel_rfl, fun j t ht => by
        rw [Tryd.params3] at ht
        obtain rfl : t = 25 := by
          rcases j with _ | _ | j
          · simpa using ht.symm
          · simpa using ht.symm
          · simp at ht
        kernel_rfl⟩)
    (by kernel_rfl)
#print axioms lies_card
end Go.Proofs.YtgkcacimmanejaaDoor
