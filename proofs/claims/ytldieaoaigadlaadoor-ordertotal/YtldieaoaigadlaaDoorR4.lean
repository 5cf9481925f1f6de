import Derived.Test.YtldieaoaigadlaaDoorR3
import Derived.Test.YtldieaoaigadlaaDoorTie
import Derived.Test.YtldieaoaigadlaaDoorCards
import Derived.SevenTiedAt
namespace Go.Proofs.YtldieaoaigadlaaDoor
open Go
theorem total_card : Rows.OrderTotalCardSaid :=
  Claim7.holds_tied_plain_at .later [] [.data, .pinned] true (true, "f0da39a8b149de354de10c2f3b3be981569386923340e159faadecdc37324d33") false total_holds (fun _ h => by cases h) (by kernel_rfl) (fun _ h => by cases h) orderTotal_row_tie rfl ⟨rfl, rfl⟩ (by kernel_rfl) rfl
    (fun f fn hf hfn => by
      obtain rfl : f = 4 := Option.some.inj ((show Tryd.prog.funcNamed "docket/docketlaw03.OrderTotal" = some 4 by kernel_rfl).symm.trans hf) |>.symm
      obtain rfl : fn = Tryd.f4 := (Option.some.inj (Tryd.func4.symm.trans hfn)).symm
      exact ⟨by kernel_rfl, fun j t ht => by
        rw [Tryd.params4] at ht
        obtain rfl : t = 28 := by
          rcases j with _ | _ | _ | j
          · simpa using ht.symm
          · simpa using ht.symm
          · simpa using ht.symm
          · simp at ht
        kernel_rfl⟩)
    (by kernel_rfl)
#print axioms total_card
end Go.Proofs.YtldieaoaigadlaaDoor
