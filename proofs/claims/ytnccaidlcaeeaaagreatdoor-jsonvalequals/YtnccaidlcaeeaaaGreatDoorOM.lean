import Derived.Test.YtnccaidlcaeeaaaGreatDoorOL
import Derived.Test.YtnccaidlcaeeaaaGreatDoorTie
import Derived.Test.YtnccaidlcaeeaaaGreatDoorCards
import Derived.SevenTiedAt
namespace Go.Proofs.YtnccaidlcaeeaaaGreatDoor
open Go
theorem equals_card : Rows.JsonvalEqualsCardSaid :=
  Claim7.holds_tied_plain_at .later [] [.data, .data, .data, .data, .sentinel, .sentinel, .pinned] true (true, "21ad76a871457aade6396498899ae2f207324abda6a0c20173a657102bc79311") true equals_holds (fun _ h => by cases h) (by kernel_rfl) (fun _ h => by cases h) jsonvalEquals_row_tie rfl ⟨rfl, rfl⟩ (by kernel_rfl) rfl
    (fun f fn hf hfn => by
      obtain rfl : f = 3 := Option.some.inj ((show Tryz.prog.funcNamed "docket/docketlaw01.JsonvalEquals" = some 3 by kernel_rfl).symm.trans hf) |>.symm
      obtain rfl : fn = Tryz.f3 := (Option.some.inj (Tryz.func3.symm.trans hfn)).symm
      exact ⟨by kernel_rfl, fun j t ht => by
        rw [Tryz.params3] at ht
        rcases j with _ | _ | j
        · obtain rfl : t = 25 := by simpa using ht.symm
          kernel_rfl
        · obtain rfl : t = 25 := by simpa using ht.symm
          kernel_rfl
        · simp at ht⟩)
    (by kernel_rfl)
#print axioms equals_card
end Go.Proofs.YtnccaidlcaeeaaaGreatDoor
