import Derived.Test.YtjmneiepcbpdpaaDoorOR2
import Derived.Test.YtjmneiepcbpdpaaDoorTie
import Derived.Test.YtjmneiepcbpdpaaDoorCards
import Derived.SevenTiedAt
namespace Go.Proofs.YtjmneiepcbpdpaaDoor
open Go
theorem reads_card : Rows.OrderReadsUptoCardSaid :=
  Claim7.holds_tied_plain_at .later [] _ _ _ _ reads_holds (fun _ h => by cases h) (by kernel_rfl) (fun _ h => by cases h) orderReadsUpto_row_tie rfl ⟨rfl, rfl⟩ (by kernel_rfl) rfl
    (fun f fn hf hfn => by
      obtain rfl : f = 4 := Option.some.inj ((show Tryd.prog.funcNamed "docket/docketlaw03.OrderReads" = some 4 by kernel_rfl).symm.trans hf) |>.symm
      obtain rfl : fn = Tryd.f4 := (Option.some.inj (Tryd.func4.symm.trans hfn)).symm
      exact ⟨by kernel_rfl, fun j t ht => by
        rw [Tryd.params4] at ht
        rcases j with _ | j
        · obtain rfl : t = 26 := by simpa using ht.symm
          kernel_rfl
        · simp at ht⟩)
    (by kernel_rfl)
#print axioms reads_card
end Go.Proofs.YtjmneiepcbpdpaaDoor
