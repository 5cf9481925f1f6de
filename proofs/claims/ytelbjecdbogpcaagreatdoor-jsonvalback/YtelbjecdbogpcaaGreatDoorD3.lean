import Derived.Test.YtelbjecdbogpcaaGreatDoorD2
import Derived.Test.YtelbjecdbogpcaaGreatDoorTie
import Derived.Test.YtelbjecdbogpcaaGreatDoorCards
import Derived.SevenTiedAt
namespace Go.Proofs.YtelbjecdbogpcaaGreatDoor
open Go
theorem back_card : Rows.JsonvalBackCardSaid :=
  Claim7.holds_tied_plain_at .later [] [.data, .data, .data, .data, .sentinel, .sentinel, .pinned] true (true, "48646651d2f91cb41ceac5f4bd09fd36bc87d53397b19551ee8666aa23ba6f97") true back_holds (fun _ h => by cases h) (by kernel_rfl) (fun _ h => by cases h) jsonvalBack_row_tie rfl ⟨rfl, rfl⟩ (by kernel_rfl) rfl
    (fun f fn hf hfn => by
      obtain rfl : f = 3 := Option.some.inj ((show Tryz.prog.funcNamed "docket/docketlaw01.JsonvalBack" = some 3 by kernel_rfl).symm.trans hf) |>.symm
      obtain rfl : fn = Tryz.f3 := (Option.some.inj (Tryz.func3.symm.trans hfn)).symm
      exact ⟨by kernel_rfl, fun j t ht => by
        rw [Tryz.params3] at ht
        rcases j with _ | j
        · obtain rfl : t = 25 := by simpa using ht.symm
          kernel_rfl
        · simp at ht⟩)
    (by kernel_rfl)
#print axioms back_card
end Go.Proofs.YtelbjecdbogpcaaGreatDoor
