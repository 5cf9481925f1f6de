import Derived.Test.YtjmneiepcbpdpaaDoorOB2
import Derived.Test.YtjmneiepcbpdpaaDoorTie
import Derived.Test.YtjmneiepcbpdpaaDoorCards
import Derived.SevenTiedAt
namespace Go.Proofs.YtjmneiepcbpdpaaDoor
open Go
theorem back_card : Rows.OrderBackUptoCardSaid :=
  Claim7.holds_tied_plain_at .later [] _ _ _ _ back_holds (fun _ h => by cases h) (by kernel_rfl) (fun _ h => by cases h) orderBackUpto_row_tie rfl ⟨rfl, rfl⟩ (by kernel_rfl) rfl
    (fun f fn hf hfn => by
      obtain rfl : f = 3 := Option.some.inj ((show Tryd.prog.funcNamed "docket/docketlaw03.OrderBack" = some 3 by kernel_rfl).symm.trans hf) |>.symm
      obtain rfl : fn = Tryd.f3 := (Option.some.inj (Tryd.func3.symm.trans hfn)).symm
      exact ⟨by kernel_rfl, fun j t ht => by
        rw [Tryd.params3] at ht
        rcases j with _ | _ | j
        · obtain rfl : t = 25 := by simpa using ht.symm
          kernel_rfl
        · obtain rfl : t = 26 := by simpa using ht.symm
          kernel_rfl
        · simp at ht⟩)
    (by kernel_rfl)
#print axioms back_card
end Go.Proofs.YtjmneiepcbpdpaaDoor
