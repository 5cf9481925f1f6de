import Derived.Test.YthijpmomcompaaaDoorPH
import Derived.Test.YthijpmomcompaaaDoorTie
import Derived.Test.YthijpmomcompaaaDoorCards
import Derived.SevenTiedAt
namespace Go.Proofs.YthijpmomcompaaaDoor
open Go
theorem picks_card : Rows.OrderPicksCardSaid :=
  Claim7.holds_tied_plain_at .later [] _ _ _ _ picks_holds (fun _ h => by cases h) (by kernel_rfl) (fun _ h => by cases h) orderPicks_row_tie rfl ⟨rfl, rfl⟩ (by kernel_rfl) rfl
    (fun f fn hf hfn => by
      obtain rfl : f = 3 := Option.some.inj ((show Tryd.prog.funcNamed "docket/docketlaw03.OrderPicks" = some 3 by kernel_rfl).symm.trans hf) |>.symm
      obtain rfl : fn = Tryd.f3 := (Option.some.inj (Tryd.func3.symm.trans hfn)).symm
      exact ⟨by kernel_rfl, fun j t ht => by
        rw [Tryd.params3] at ht
        obtain rfl : t = 22 := by
          rcases j with _ | j
          · simpa using ht.symm
          · simp at ht
        kernel_rfl⟩)
    (by kernel_rfl)
#print axioms picks_card
end Go.Proofs.YthijpmomcompaaaDoor
