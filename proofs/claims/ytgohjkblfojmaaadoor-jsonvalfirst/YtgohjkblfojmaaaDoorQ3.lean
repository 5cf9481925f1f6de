import Derived.Test.YtgohjkblfojmaaaDoorQ2
import Derived.Test.YtgohjkblfojmaaaDoorTie
import Derived.Test.YtgohjkblfojmaaaDoorCards
import Derived.SevenTiedAt
namespace Go.Proofs.YtgohjkblfojmaaaDoor
open Go
theorem first_card : Rows.JsonvalFirstCardSaid :=
  Claim7.holds_tied_plain_at .later [] [.data, .data, .data, .data, .sentinel, .sentinel, .pinned] true (true, "9b87099ffddb0ea72bd8a5c2b3277e7240263d6cd92bf0851d6868d92687ec16") true first_holds (fun _ h => by cases h) (by kernel_rfl) (fun _ h => by cases h) jsonvalFirst_row_tie rfl ⟨rfl, rfl⟩ (by kernel_rfl) rfl
    (fun f fn hf hfn => by
      obtain rfl : f = 4 := Option.some.inj ((show Tryd.prog.funcNamed "docket/docketlaw01.JsonvalFirst" = some 4 by kernel_rfl).symm.trans hf) |>.symm
      obtain rfl : fn = Tryd.f4 := (Option.some.inj (Tryd.func4.symm.trans hfn)).symm
      exact ⟨by kernel_rfl, fun j t ht => by
        rw [Tryd.params4] at ht
        obtain rfl : t = 9 := by
          rcases j with _ | j
          · simpa using ht.symm
          · simp at ht
        kernel_rfl⟩)
    (by kernel_rfl)
#print axioms first_card
end Go.Proofs.YtgohjkblfojmaaaDoor
