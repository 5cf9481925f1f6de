import Derived.Test.YtldieaoaigadlaaDoorR5
import Derived.Test.YtldieaoaigadlaaDoorTie
import Derived.Test.YtldieaoaigadlaaDoorCards
import Derived.SevenTiedAt
namespace Go.Proofs.YtldieaoaigadlaaDoor
open Go
theorem compares_card : Rows.OrderComparesCardSaid :=
  Claim7.holds_tied_plain_at .later [] [.data, .pinned] true (true, "f0da39a8b149de354de10c2f3b3be981569386923340e159faadecdc37324d33") false compares_holds (fun _ h => by cases h) (by kernel_rfl) (fun _ h => by cases h) orderCompares_row_tie rfl ⟨rfl, rfl⟩ (by kernel_rfl) rfl
    (fun f fn hf hfn => by
      obtain rfl : f = 7 := Option.some.inj ((show Tryd.prog.funcNamed "docket/docketlaw03.OrderCompares" = some 7 by kernel_rfl).symm.trans hf) |>.symm
      obtain rfl : fn = Tryd.f7 := (Option.some.inj (Tryd.func7.symm.trans hfn)).symm
      exact ⟨by kernel_rfl, fun j t ht => by
        rw [Tryd.params7] at ht
        obtain rfl : t = 28 := by
          rcases j with _ | _ | j
          · simpa using ht.symm
          · simpa using ht.symm
          · simp at ht
        kernel_rfl⟩)
    (by kernel_rfl)
#print axioms compares_card
end Go.Proofs.YtldieaoaigadlaaDoor
