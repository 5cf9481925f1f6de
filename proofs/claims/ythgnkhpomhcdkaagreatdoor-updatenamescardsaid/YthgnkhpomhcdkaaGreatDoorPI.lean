import Derived.Test.YthgnkhpomhcdkaaGreatDoorPH
/-! update: the row UpdateNames, claimed. -/
namespace Go.Proofs.YthgnkhpomhcdkaaGreatDoor
open Go Go.ChangeShapes Go.WideShapes Go.ChangeAt Go.RowKit

theorem func_of : Tryz.pinned.checked.prog.funcNamed Rows.updateNamesRow.func = some 3 := by kernel_rfl
theorem inst_of : Tryz.f3.isInstance Tryz.pinned.checked.prog Rows.updateNamesRow.origin Rows.updateNamesRow.targs := of_decide_eq_true (by kernel_rfl)
theorem wrap_of : Tryz.f3.isWrapper Tryz.pinned.checked.prog Rows.updateNamesRow.wrapper Rows.updateNamesRow.mainSum := by unfold Func.isWrapper; first | (rw [if_pos (by decide +kernel)]; kernel_rfl) | (rw [if_neg (by decide +kernel)]; exact ⟨rfl, rfl⟩)
theorem names_holds : Rows.UpdateNamesSaid :=
  OpenClaim.holds_of_wide 3 Tryz.f3 rfl rfl rfl rfl rfl rfl rfl ⟨rfl, rfl, rfl, rfl, rfl⟩ rfl rfl rfl rfl rfl func_of Tryz.func3 closedU
    inst_of wrap_of
    (fun os started H enc _ => names_lifted os started H enc)
end Go.Proofs.YthgnkhpomhcdkaaGreatDoor
