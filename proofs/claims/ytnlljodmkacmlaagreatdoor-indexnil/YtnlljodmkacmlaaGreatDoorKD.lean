import Derived.Test.YtnlljodmkacmlaaGreatDoorKC
import Derived.Test.YtnlljodmkacmlaaGreatDoorTie
import Derived.Test.YtnlljodmkacmlaaGreatDoorCards
import Derived.SevenTiedAt
namespace Go.Proofs.YtnlljodmkacmlaaGreatDoor
open Go
theorem nil_card : Rows.IndexNilCardSaid :=
  Claim7.holds_tied_plain_at .later [] _ _ _ _ nil_holds (fun _ h => by cases h) (by kernel_rfl) (fun _ h => by cases h) indexNil_row_tie rfl ⟨rfl, rfl⟩ (by kernel_rfl) rfl
    (fun f fn hf hfn => by
      obtain rfl : f = 4 := Option.some.inj ((show Tryz.prog.funcNamed "docket/docketlaw17.IndexNil" = some 4 by kernel_rfl).symm.trans hf) |>.symm
      obtain rfl : fn = Tryz.f4 := (Option.some.inj (Tryz.func4.symm.trans hfn)).symm
      exact ⟨by kernel_rfl, fun j t ht => by
        rw [Tryz.params4] at ht
        rcases j with _ | _ | j
        · obtain rfl : t = 30 := by simpa using ht.symm
          kernel_rfl
        · obtain rfl : t = 31 := by simpa using ht.symm
          kernel_rfl
        · simp at ht⟩)
    (by kernel_rfl)
#print axioms nil_card
end Go.Proofs.YtnlljodmkacmlaaGreatDoor
