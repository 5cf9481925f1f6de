import Derived.Test.YtldieaoaigadlaaDoorR1
import Derived.Test.YtldieaoaigadlaaDoorTie
import Derived.Test.YtldieaoaigadlaaDoorCards
import Derived.SevenTiedAt
namespace Go.Proofs.YtldieaoaigadlaaDoor
open Go
theorem names_card : Rows.OrderNamesCardSaid :=
  Claim7.holds_tied_plain_at .later [] [.data, .pinned] true (true, "f0da39a8b149de354de10c2f3b3be981569386923340e159faadecdc37324d33") false names_holds (fun _ h => by cases h) (by kernel_rfl) (fun _ h => by cases h) orderNames_row_tie rfl ⟨rfl, rfl⟩ (by kernel_rfl) rfl
    (fun f fn hf hfn => by
      obtain rfl : f = 3 := Option.some.inj ((show Tryd.prog.funcNamed "docket/docketlaw03.OrderNames" = some 3 by kernel_rfl).symm.trans hf) |>.symm
      obtain rfl : fn = Tryd.f3 := (Option.some.inj (Tryd.func3.symm.trans hfn)).symm
      exact ⟨by kernel_rfl, fun j t ht => by
        rw [Tryd.params3] at ht
        simp at ht⟩)
    (by kernel_rfl)
#print axioms names_card
end Go.Proofs.YtldieaoaigadlaaDoor
