import Derived.Test.YtoghaanjdpcodaaGreatDoorTL
import Derived.Test.YtoghaanjdpcodaaGreatDoorTie
import Derived.Test.YtoghaanjdpcodaaGreatDoorCards
import Derived.SevenTiedAt
namespace Go.Proofs.YtoghaanjdpcodaaGreatDoor
open Go
theorem nil_card : Rows.SchemaNilCardSaid :=
  Claim7.holds_tied_plain_at .later [] _ _ _ _ nil_holds (fun _ h => by cases h) (by kernel_rfl) (fun _ h => by cases h) schemaNil_row_tie rfl ⟨rfl, rfl⟩ (by kernel_rfl) rfl
    (fun f fn hf hfn => by
      obtain rfl : f = 3 := Option.some.inj ((show Tryz.prog.funcNamed "docket/docketlaw21.SchemaNil" = some 3 by kernel_rfl).symm.trans hf) |>.symm
      obtain rfl : fn = Tryz.f3 := (Option.some.inj (Tryz.func3.symm.trans hfn)).symm
      exact ⟨by kernel_rfl, fun j t ht => by
        rw [Tryz.params3] at ht
        simp at ht⟩)
    (by kernel_rfl)
#print axioms nil_card
end Go.Proofs.YtoghaanjdpcodaaGreatDoor
