import Derived.Test.YthgnkhpomhcdkaaGreatDoorTJ
/-! update: the row UpdateNil: its closed facts, one by one. -/
namespace Go.Proofs.YthgnkhpomhcdkaaGreatDoor
open Go Go.ChangeShapes Go.WideShapes Go.ChangeAt Go.RowKit

theorem and_n {a b : Bool} (ha : a = true) (hb : b = true) : (a && b) = true := by rw [ha, hb]; rfl
theorem jn0 : (Rows.updateNilRow.wf (OpenSpec.ofChange Rows.updateNilSpec)) = true := by kernel_rfl
theorem jn1 : (laidOutB Tryz.pinned.checked.prog) = true := by kernel_rfl
theorem jn2 : (mapsRowed Tryz.pinned.checked.prog) = true := by kernel_rfl
theorem jn3 : (Tryz.f4.params.all (Tryz.pinned.checked.prog.readableRec ·)) = true := by kernel_rfl
theorem jn4 : (namedTie Tryz.pinned.checked.prog Rows.updateNilRow.named Rows.updateNilSpec.vars) = true := by kernel_rfl
theorem jn5 : ((Rows.updateNilRow.stops == [])) = true := by kernel_rfl
theorem jn6 : ((Tryz.pinned.checked.prog.stops == [])) = true := by kernel_rfl
theorem jn7 : ((Rows.updateNilRow.knobs == [])) = true := by kernel_rfl
theorem jn8 : ((Tryz.pinned.checked.prog.stopKnobs == [])) = true := by kernel_rfl
theorem jn9 : ((Rows.updateNilRow.inPlace == Tryz.pinned.checked.prog.inPlace 4)) = true := by kernel_rfl
theorem jn10 : ((Rows.updateNilRow.unfollowed == Tryz.pinned.checked.prog.unfollowed 4)) = true := by kernel_rfl
theorem jn11 : ((Rows.updateNilRow.recurses == Tryz.pinned.checked.prog.recurses 4)) = true := by kernel_rfl
theorem jn12 : ((Rows.updateNilRow.named == Tryz.pinned.checked.prog.varsNamed 4)) = true := by kernel_rfl
theorem jn13 : ((Rows.updateNilRow.maps == (Tryz.f4.params.toList ++ Rows.updateNilSpec.plain.varTypes Tryz.pinned.checked.prog).any (Tryz.pinned.checked.prog.mapsRec ·))) = true := by kernel_rfl
theorem jn14 : ((Rows.updateNilRow.ifaces == (Tryz.f4.params.toList ++ Rows.updateNilSpec.plain.varTypes Tryz.pinned.checked.prog).any (Tryz.pinned.checked.prog.ifacesRec ·))) = true := by kernel_rfl
theorem jn15 : ((Rows.updateNilRow.mapsOut == Tryz.pinned.checked.prog.mapsAmong Tryz.f4.resultTypes.toList)) = true := by kernel_rfl
theorem jn16 : ((Rows.updateNilRow.loops == (Tryz.f4.params.toList ++ Rows.updateNilSpec.plain.varTypes Tryz.pinned.checked.prog).any (Tryz.pinned.checked.prog.loopsFrom ·))) = true := by kernel_rfl
theorem jn17 : ((Rows.updateNilRow.wideKeys == (Tryz.f4.params.toList ++ Rows.updateNilSpec.plain.varTypes Tryz.pinned.checked.prog ++ Tryz.f4.resultTypes.toList).any (Tryz.pinned.checked.prog.wideKeysFrom ·))) = true := by kernel_rfl
theorem jn18 : (Rows.updateNilSpec.vars.all (Tryz.pinned.checked.prog.varReadable ·)) = true := by kernel_rfl
theorem jn19 : (Tryz.f4.resultTypes.all (fun t => Tryz.pinned.checked.prog.readableRec t && decide (t < Tryz.pinned.checked.prog.types.size))) = true := by kernel_rfl
theorem jn20 : ((Rows.updateNilRow.ifacesOut == Tryz.f4.resultTypes.toList.any (Tryz.pinned.checked.prog.ifacesRec ·))) = true := by kernel_rfl
theorem jn21 : ((Rows.updateNilRow.loopsOut == Tryz.f4.resultTypes.toList.any (Tryz.pinned.checked.prog.loopsFrom ·))) = true := by kernel_rfl
theorem jn22 : ((Rows.updateNilRow.plainKeys == Tryz.pinned.checked.prog.plainKeys)) = true := by kernel_rfl
theorem jn23 : (Rows.updateNilRow.shortTexts.isNone) = true := by kernel_rfl
theorem jn24 : (Tryz.pinned.checked.prog.stopsHeard) = true := by kernel_rfl
theorem jn25 : (Tryz.pinned.checked.prog.mayEnter) = true := by kernel_rfl
theorem jn26 : ((Rows.updateNilRow.lifted == Tryz.pinned.checked.prog.liftsFinal)) = true := by kernel_rfl
theorem jn27 : ((Tryz.pinned.checked.prog.make == some Rows.updateNilRow.make)) = true := by kernel_rfl
theorem jn29 : ((Rows.updateNilRow.pinned == Rows.updateNilRow.pinnedBy)) = true := by kernel_rfl
theorem jn30 : ((Rows.updateNilRow.veiled == (Tryz.f4.params.toList ++ Rows.updateNilSpec.plain.varTypes Tryz.pinned.checked.prog ++ Tryz.f4.resultTypes.toList).any (Tryz.pinned.checked.prog.veiledRec ·))) = true := by kernel_rfl
theorem jn31 : (Rows.updateNilRow.veiledFits Tryz.pinned.checked.prog Tryz.f4.params.toList (Tryz.f4.params.toList ++ Rows.updateNilSpec.plain.varTypes Tryz.pinned.checked.prog ++ Tryz.f4.resultTypes.toList)) = true := by kernel_rfl
theorem closedN : joinedFacts Tryz.pinned.checked.prog 4 Tryz.f4 Rows.updateNilSpec Rows.updateNilRow = true := by
  unfold joinedFacts
  refine and_n ?_ ?_
  rotate_left
  · exact jn31
  refine and_n ?_ ?_
  rotate_left
  · exact jn30
  refine and_n ?_ ?_
  rotate_left
  · exact jn29
  refine and_n ?_ ?_
  rotate_left
  · kernel_rfl
  refine and_n ?_ ?_
  rotate_left
  · exact jn27
  refine and_n ?_ ?_
  rotate_left
  · exact jn26
  refine and_n ?_ ?_
  rotate_left
  · exact jn25
  refine and_n ?_ ?_
  rotate_left
  · exact jn24
  refine and_n ?_ ?_
  rotate_left
  · exact jn23
  refine and_n ?_ ?_
  rotate_left
  · exact jn22
  refine and_n ?_ ?_
  rotate_left
  · exact jn21
  refine and_n ?_ ?_
  rotate_left
  · exact jn20
  refine and_n ?_ ?_
  rotate_left
  · exact jn19
  refine and_n ?_ ?_
  rotate_left
  · exact jn18
  refine and_n ?_ ?_
  rotate_left
  · exact jn17
  refine and_n ?_ ?_
  rotate_left
  · exact jn16
  refine and_n ?_ ?_
  rotate_left
  · exact jn15
  refine and_n ?_ ?_
  rotate_left
  · exact jn14
  refine and_n ?_ ?_
  rotate_left
  · exact jn13
  refine and_n ?_ ?_
  rotate_left
  · exact jn12
  refine and_n ?_ ?_
  rotate_left
  · exact jn11
  refine and_n ?_ ?_
  rotate_left
  · exact jn10
  refine and_n ?_ ?_
  rotate_left
  · exact jn9
  refine and_n ?_ ?_
  rotate_left
  · exact jn8
  refine and_n ?_ ?_
  rotate_left
  · exact jn7
  refine and_n ?_ ?_
  rotate_left
  · exact jn6
  refine and_n ?_ ?_
  rotate_left
  · exact jn5
  refine and_n ?_ ?_
  rotate_left
  · exact jn4
  refine and_n ?_ ?_
  rotate_left
  · exact jn3
  refine and_n ?_ ?_
  rotate_left
  · exact jn2
  refine and_n ?_ ?_
  rotate_left
  · exact jn1
  exact jn0
end Go.Proofs.YthgnkhpomhcdkaaGreatDoor
