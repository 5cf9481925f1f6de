import Derived.Test.YthgnkhpomhcdkaaGreatDoorPG
/-! update: the row UpdateNames: its closed facts, one by one. -/
namespace Go.Proofs.YthgnkhpomhcdkaaGreatDoor
open Go Go.ChangeShapes Go.WideShapes Go.ChangeAt Go.RowKit

theorem and_b {a b : Bool} (ha : a = true) (hb : b = true) : (a && b) = true := by rw [ha, hb]; rfl
theorem ju0 : (Rows.updateNamesRow.wf (OpenSpec.ofChange Rows.updateNamesSpec)) = true := by kernel_rfl
theorem ju1 : (laidOutB Tryz.pinned.checked.prog) = true := by kernel_rfl
theorem ju2 : (mapsRowed Tryz.pinned.checked.prog) = true := by kernel_rfl
theorem ju3 : (Tryz.f3.params.all (Tryz.pinned.checked.prog.readableRec ·)) = true := by kernel_rfl
theorem ju4 : (namedTie Tryz.pinned.checked.prog Rows.updateNamesRow.named Rows.updateNamesSpec.vars) = true := by kernel_rfl
theorem ju5 : ((Rows.updateNamesRow.stops == [])) = true := by kernel_rfl
theorem ju6 : ((Tryz.pinned.checked.prog.stops == [])) = true := by kernel_rfl
theorem ju7 : ((Rows.updateNamesRow.knobs == [])) = true := by kernel_rfl
theorem ju8 : ((Tryz.pinned.checked.prog.stopKnobs == [])) = true := by kernel_rfl
theorem ju9 : ((Rows.updateNamesRow.inPlace == Tryz.pinned.checked.prog.inPlace 3)) = true := by kernel_rfl
theorem ju10 : ((Rows.updateNamesRow.unfollowed == Tryz.pinned.checked.prog.unfollowed 3)) = true := by kernel_rfl
theorem ju11 : ((Rows.updateNamesRow.recurses == Tryz.pinned.checked.prog.recurses 3)) = true := by kernel_rfl
theorem ju12 : ((Rows.updateNamesRow.named == Tryz.pinned.checked.prog.varsNamed 3)) = true := by kernel_rfl
theorem ju13 : ((Rows.updateNamesRow.maps == (Tryz.f3.params.toList ++ Rows.updateNamesSpec.plain.varTypes Tryz.pinned.checked.prog).any (Tryz.pinned.checked.prog.mapsRec ·))) = true := by kernel_rfl
theorem ju14 : ((Rows.updateNamesRow.ifaces == (Tryz.f3.params.toList ++ Rows.updateNamesSpec.plain.varTypes Tryz.pinned.checked.prog).any (Tryz.pinned.checked.prog.ifacesRec ·))) = true := by kernel_rfl
theorem ju15 : ((Rows.updateNamesRow.mapsOut == Tryz.pinned.checked.prog.mapsAmong Tryz.f3.resultTypes.toList)) = true := by kernel_rfl
theorem ju16 : ((Rows.updateNamesRow.loops == (Tryz.f3.params.toList ++ Rows.updateNamesSpec.plain.varTypes Tryz.pinned.checked.prog).any (Tryz.pinned.checked.prog.loopsFrom ·))) = true := by kernel_rfl
theorem ju17 : ((Rows.updateNamesRow.wideKeys == (Tryz.f3.params.toList ++ Rows.updateNamesSpec.plain.varTypes Tryz.pinned.checked.prog ++ Tryz.f3.resultTypes.toList).any (Tryz.pinned.checked.prog.wideKeysFrom ·))) = true := by kernel_rfl
theorem ju18 : (Rows.updateNamesSpec.vars.all (Tryz.pinned.checked.prog.varReadable ·)) = true := by kernel_rfl
theorem ju19 : (Tryz.f3.resultTypes.all (fun t => Tryz.pinned.checked.prog.readableRec t && decide (t < Tryz.pinned.checked.prog.types.size))) = true := by kernel_rfl
theorem ju20 : ((Rows.updateNamesRow.ifacesOut == Tryz.f3.resultTypes.toList.any (Tryz.pinned.checked.prog.ifacesRec ·))) = true := by kernel_rfl
theorem ju21 : ((Rows.updateNamesRow.loopsOut == Tryz.f3.resultTypes.toList.any (Tryz.pinned.checked.prog.loopsFrom ·))) = true := by kernel_rfl
theorem ju22 : ((Rows.updateNamesRow.plainKeys == Tryz.pinned.checked.prog.plainKeys)) = true := by kernel_rfl
theorem ju23 : (Rows.updateNamesRow.shortTexts.isNone) = true := by kernel_rfl
theorem ju24 : (Tryz.pinned.checked.prog.stopsHeard) = true := by kernel_rfl
theorem ju25 : (Tryz.pinned.checked.prog.mayEnter) = true := by kernel_rfl
theorem ju26 : ((Rows.updateNamesRow.lifted == Tryz.pinned.checked.prog.liftsFinal)) = true := by kernel_rfl
theorem ju27 : ((Tryz.pinned.checked.prog.make == some Rows.updateNamesRow.make)) = true := by kernel_rfl
theorem ju29 : ((Rows.updateNamesRow.pinned == Rows.updateNamesRow.pinnedBy)) = true := by kernel_rfl
theorem ju30 : ((Rows.updateNamesRow.veiled == (Tryz.f3.params.toList ++ Rows.updateNamesSpec.plain.varTypes Tryz.pinned.checked.prog ++ Tryz.f3.resultTypes.toList).any (Tryz.pinned.checked.prog.veiledRec ·))) = true := by kernel_rfl
theorem ju31 : (Rows.updateNamesRow.veiledFits Tryz.pinned.checked.prog Tryz.f3.params.toList (Tryz.f3.params.toList ++ Rows.updateNamesSpec.plain.varTypes Tryz.pinned.checked.prog ++ Tryz.f3.resultTypes.toList)) = true := by kernel_rfl
theorem closedU : joinedFacts Tryz.pinned.checked.prog 3 Tryz.f3 Rows.updateNamesSpec Rows.updateNamesRow = true := by
  unfold joinedFacts
  refine and_b ?_ ?_
  rotate_left
  · exact ju31
  refine and_b ?_ ?_
  rotate_left
  · exact ju30
  refine and_b ?_ ?_
  rotate_left
  · exact ju29
  refine and_b ?_ ?_
  rotate_left
  · kernel_rfl
  refine and_b ?_ ?_
  rotate_left
  · exact ju27
  refine and_b ?_ ?_
  rotate_left
  · exact ju26
  refine and_b ?_ ?_
  rotate_left
  · exact ju25
  refine and_b ?_ ?_
  rotate_left
  · exact ju24
  refine and_b ?_ ?_
  rotate_left
  · exact ju23
  refine and_b ?_ ?_
  rotate_left
  · exact ju22
  refine and_b ?_ ?_
  rotate_left
  · exact ju21
  refine and_b ?_ ?_
  rotate_left
  · exact ju20
  refine and_b ?_ ?_
  rotate_left
  · exact ju19
  refine and_b ?_ ?_
  rotate_left
  · exact ju18
  refine and_b ?_ ?_
  rotate_left
  · exact ju17
  refine and_b ?_ ?_
  rotate_left
  · exact ju16
  refine and_b ?_ ?_
  rotate_left
  · exact ju15
  refine and_b ?_ ?_
  rotate_left
  · exact ju14
  refine and_b ?_ ?_
  rotate_left
  · exact ju13
  refine and_b ?_ ?_
  rotate_left
  · exact ju12
  refine and_b ?_ ?_
  rotate_left
  · exact ju11
  refine and_b ?_ ?_
  rotate_left
  · exact ju10
  refine and_b ?_ ?_
  rotate_left
  · exact ju9
  refine and_b ?_ ?_
  rotate_left
  · exact ju8
  refine and_b ?_ ?_
  rotate_left
  · exact ju7
  refine and_b ?_ ?_
  rotate_left
  · exact ju6
  refine and_b ?_ ?_
  rotate_left
  · exact ju5
  refine and_b ?_ ?_
  rotate_left
  · exact ju4
  refine and_b ?_ ?_
  rotate_left
  · exact ju3
  refine and_b ?_ ?_
  rotate_left
  · exact ju2
  refine and_b ?_ ?_
  rotate_left
  · exact ju1
  exact ju0
end Go.Proofs.YthgnkhpomhcdkaaGreatDoor
