import Derived.Test.YthidmamckljggaaDoorP1
import Derived.Test.YthidmamckljggaaDoorTie
import Derived.Test.YthidmamckljggaaDoorCards
import Derived.SevenTiedAt
namespace Go.Proofs.YthidmamckljggaaDoor
open Go
theorem names_card : Rows.JsonvalNamesCardSaid :=
  Claim7.holds_tied_plain_at .later [] [.data, .data, .data, .data, .sentinel, .sentinel, .pinned] true (true, "9b87099ffddb0ea72bd8a5c2b3277e7240263d6cd92bf0851d6868d92687ec16") true names_holds (fun _ h => by cases h) (by kernel_rfl) (fun _ h => by cases h) jsonvalNames_row_tie rfl ⟨rfl, rfl⟩ (by kernel_rfl) rfl
    (fun f fn hf hfn => by
      obtain rfl : f = 3 := Option.some.inj ((show Tryd.prog.funcNamed "docket/docketlaw01.JsonvalNames" = some 3 by kernel_rfl).symm.trans hf) |>.symm
      obtain rfl : fn = Tryd.f3 := (Option.some.inj (Tryd.func3.symm.trans hfn)).symm
      exact ⟨by kernel_rfl, fun j t ht => by
        rw [Tryd.params3] at ht
        simp at ht⟩)
    (by kernel_rfl)
#print axioms names_card
end Go.Proofs.YthidmamckljggaaDoor
