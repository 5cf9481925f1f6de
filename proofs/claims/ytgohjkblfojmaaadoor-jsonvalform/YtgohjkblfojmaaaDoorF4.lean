import Derived.Test.YtgohjkblfojmaaaDoorF3
import Derived.Test.YtgohjkblfojmaaaDoorTie
import Derived.Test.YtgohjkblfojmaaaDoorCards
import Derived.SevenTiedAt
namespace Go.Proofs.YtgohjkblfojmaaaDoor
open Go
theorem form_card : Rows.JsonvalFormCardSaid :=
  Claim7.holds_tied_plain_at .later [] [.data, .data, .data, .data, .sentinel, .sentinel, .pinned] true (true, "9b87099ffddb0ea72bd8a5c2b3277e7240263d6cd92bf0851d6868d92687ec16") true form_holds (fun _ h => by cases h) (by kernel_rfl) (fun _ h => by cases h) jsonvalForm_row_tie rfl ⟨rfl, rfl⟩ (by kernel_rfl) rfl
    (fun f fn hf hfn => by
      obtain rfl : f = 5 := Option.some.inj ((show Tryd.prog.funcNamed "docket/docketlaw01.JsonvalForm" = some 5 by kernel_rfl).symm.trans hf) |>.symm
      obtain rfl : fn = Tryd.f5 := (Option.some.inj (Tryd.func5.symm.trans hfn)).symm
      exact ⟨by kernel_rfl, fun j t ht => by
        rw [Tryd.params5] at ht
        obtain rfl : t = 9 := by
          rcases j with _ | j
          · simpa using ht.symm
          · simp at ht
        kernel_rfl⟩)
    (by kernel_rfl)
#print axioms form_card
end Go.Proofs.YtgohjkblfojmaaaDoor
