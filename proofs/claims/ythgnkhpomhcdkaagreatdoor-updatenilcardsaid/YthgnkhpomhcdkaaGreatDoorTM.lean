import Derived.Test.YthgnkhpomhcdkaaGreatDoorTK
import Derived.Test.YthgnkhpomhcdkaaGreatDoorTie
import Derived.Test.YthgnkhpomhcdkaaGreatDoorCards
import Derived.SevenTiedAt
/-! update: the row UpdateNil, claimed. -/
namespace Go.Proofs.YthgnkhpomhcdkaaGreatDoor
open Go Go.ChangeShapes Go.WideShapes Go.ChangeAt Go.RowKit

theorem func_ofN : Tryz.pinned.checked.prog.funcNamed Rows.updateNilRow.func = some 4 := by kernel_rfl
theorem inst_ofN : Tryz.f4.isInstance Tryz.pinned.checked.prog Rows.updateNilRow.origin Rows.updateNilRow.targs := of_decide_eq_true (by kernel_rfl)
theorem wrap_ofN : Tryz.f4.isWrapper Tryz.pinned.checked.prog Rows.updateNilRow.wrapper Rows.updateNilRow.mainSum := by unfold Func.isWrapper; first | (rw [if_pos (by decide +kernel)]; kernel_rfl) | (rw [if_neg (by decide +kernel)]; exact ⟨rfl, rfl⟩)
theorem nil_holds : Rows.UpdateNilSaid :=
  OpenClaim.holds_of_wide 4 Tryz.f4 rfl rfl rfl rfl rfl rfl rfl ⟨rfl, rfl, rfl, rfl, rfl⟩ rfl rfl rfl rfl rfl func_ofN Tryz.func4 closedN
    inst_ofN wrap_ofN
    (fun os started H enc _ => nil_lifted os started H enc)
end Go.Proofs.YthgnkhpomhcdkaaGreatDoor
/-! update: the card UpdateNil. -/
namespace Go.Proofs.YthgnkhpomhcdkaaGreatDoor
open Go
theorem nil_card : Rows.UpdateNilCardSaid :=
  Claim7.holds_tied_plain_at .later [] _ _ _ _ nil_holds (fun _ h => by cases h) (by kernel_rfl) (fun _ h => by cases h) updateNil_row_tie rfl ⟨rfl, rfl⟩ (by kernel_rfl) rfl
    (fun f fn hf hfn => by
      obtain rfl : f = 4 := Option.some.inj ((show Tryz.prog.funcNamed "docket/docketlaw05.UpdateNil" = some 4 by kernel_rfl).symm.trans hf) |>.symm
      obtain rfl : fn = Tryz.f4 := (Option.some.inj (Tryz.func4.symm.trans hfn)).symm
      exact ⟨by kernel_rfl, fun j t ht => by
        rw [Tryz.params4] at ht
        rcases j with _ | j
        · obtain rfl : t = 28 := by simpa using ht.symm
          kernel_rfl
        · simp at ht⟩)
    (by kernel_rfl)
#print axioms nil_card
end Go.Proofs.YthgnkhpomhcdkaaGreatDoor
