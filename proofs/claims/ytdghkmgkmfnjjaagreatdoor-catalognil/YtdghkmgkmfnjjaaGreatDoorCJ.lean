import Derived.Test.YtdghkmgkmfnjjaaGreatDoorCI
/-! Commit. -/
namespace Go.Proofs.YtdghkmgkmfnjjaaGreatDoor
open Go Go.RowKit Go.Maps

set_option maxHeartbeats 4000000 in
set_option maxRecDepth 100000 in
theorem commit1_two (u v nk xb gn bn bi bn' bi' : Nat) (w : World) (hu : w.cell? ⟨u, 0, none⟩ = some (.slice none 0 0)) (hv : w.cell? ⟨v, 0, none⟩ = some (.slice (some ⟨gn, 0, none⟩) 2 2)) (h : Coll1 w nk 0 xb) (hX : Ix0 w xb) (hR : w.heap[gn]? = some (nowC bn bi bn' bi')) (hn1 : w.cell? ⟨bn, 0, none⟩ = some (.string nameA)) (hI1 : NumAt w bi 0 5) (hn2 : w.cell? ⟨bn', 0, none⟩ = some (.string nameA)) (hI2 : NumAt w bi' 0 7) :
    Calls Tryz.prog 36 #[.pointer (some ⟨nk, 0, none⟩), .pointer (some ⟨u, 0, none⟩), .pointer (some ⟨v, 0, none⟩)] w fun e w' => ∃ yb, e = .returned (.int .i64 0) ∧ w.grownBy w' (some nk) ∧ Coll1 w' nk 2 yb ∧ IxTwo w' yb := by
  have ha := hid_of (commit_two nk xb gn bn bi bn' bi' w h hX hR hn1 hI1 hn2 hI2)
  clear h hX hR hn1 hI1 hn2 hI2
  go_enter Tryz.func36, Tryz.ntmps36
  go_wp2_with fail
  refine ha.out.mono ?_
  rintro e X1 ⟨xb, rfl, h1, h2, h3⟩
  replace h1 := hid_of h1
  replace h2 := hid_of h2
  replace h3 := hid_of h3
  clear ha
  go_wp2_with fail
  go_ret
  exact ⟨xb, rfl, h1.out, h2.out, h3.out⟩
set_option maxHeartbeats 4000000 in
set_option maxRecDepth 100000 in
theorem commit1_one (u v nk gn bn bi : Nat) (ix : Value) (w : World) (hu : w.cell? ⟨u, 0, none⟩ = some (.slice none 0 0)) (hv : w.cell? ⟨v, 0, none⟩ = some (.slice (some ⟨gn, 0, none⟩) 1 1)) (h : CollAt w nk 2 ix) (hR : w.heap[gn]? = some (oneC bn bi)) :
    Calls Tryz.prog 36 #[.pointer (some ⟨nk, 0, none⟩), .pointer (some ⟨u, 0, none⟩), .pointer (some ⟨v, 0, none⟩)] w fun e w' => e = .returned (.int .i64 5) ∧ w.grownBy w' (some nk) := by
  have ha := hid_of (commit_one nk gn bn bi ix w h hR)
  clear h hR
  go_enter Tryz.func36, Tryz.ntmps36
  go_wp2_with fail
  refine ha.out.mono ?_
  rintro e X1 ⟨rfl, h1⟩
  replace h1 := hid_of h1
  clear ha
  go_wp2_with fail
  go_ret
  exact ⟨rfl, h1.out⟩
set_option maxHeartbeats 4000000 in
set_option maxRecDepth 100000 in
theorem commit_ok (cb kb xb gn bn bi bn' bi' : Nat) (w : World) (h : Cat1 w cb kb) (hk : Coll1 w kb 0 xb) (hX : Ix0 w xb) (hR : w.heap[gn]? = some (nowC bn bi bn' bi')) (hn1 : w.cell? ⟨bn, 0, none⟩ = some (.string nameA)) (hI1 : NumAt w bi 0 5) (hn2 : w.cell? ⟨bn', 0, none⟩ = some (.string nameA)) (hI2 : NumAt w bi' 0 7) :
    Calls Tryz.prog 16 #[.pointer (some ⟨cb, 0, none⟩), .string nameC, .slice none 0 0, .slice (some ⟨gn, 0, none⟩) 2 2] w fun e w' => ∃ nb nk yb, e = .returned (.tuple #[.pointer (some ⟨nb, 0, none⟩), .int .i64 0]) ∧ Cat1 w' nb nk ∧ Coll1 w' nk 2 yb ∧ IxTwo w' yb ∧ Below w.heap.size w w' := by
  obtain ⟨g, c, hK, hc0, hgk⟩ := hk
  have lg := lt_of_cell hc0
  have hB := ((Below.refl _ w).alloc (Nat.le_refl _) (.cells #[.slice none 0 0] 28)).alloc (by simp) (.cells #[.slice (some ⟨gn, 0, none⟩) 2 2] 28)
  have n1 := cell_of_one (new1 w (.cells #[.slice none 0 0] 28) (.cells #[.slice (some ⟨gn, 0, none⟩) 2 2] 28))
  have n2 := cell_of_one (new2 w (.cells #[.slice none 0 0] 28) (.cells #[.slice (some ⟨gn, 0, none⟩) 2 2] 28))
  have he := hid_of (edited_commit cb kb w.heap.size (w.heap.size + 1) 0 (some ⟨g, 0, none⟩) 1 c (fun W nk => ∃ yb, Coll1 W nk 2 yb ∧ IxTwo W yb) _ (h.keep hB) (hK.keep hB) (fun W nk hW hnk hc => by
    have hWW := hB.trans (hW.mono hB.size)
    refine (commit1_two w.heap.size (w.heap.size + 1) nk xb gn bn bi bn' bi' W (stay hW n1) (stay hW n2) ⟨g, c, hc, stay hWW hc0, ?_⟩ (hX.keep hWW) (block_keep hR hWW) (stay hWW hn1) (hI1.keep hWW) (stay hWW hn2) (hI2.keep hWW)).mono (fun e W' hh => ?_)
    · have := hB.size
      have l2 : g < w.heap.size := lg
      omega
    · obtain ⟨yb, h1, h2, h3, h4⟩ := hh
      refine ⟨h1, h2, ?_, yb, h3, h4⟩
      obtain ⟨g, c, g1, -⟩ := h3
      exact g1.at 0) (fun W W' nk hq hW => by
    obtain ⟨yb, h1, h2⟩ := hq
    exact ⟨yb, h1.keep hW, h2.keep hW⟩))
  replace hB := hid_of hB
  clear h hK hc0 hgk hX hR hn1 hI1 hn2 hI2 n1 n2
  go_enter Tryz.func16, Tryz.ntmps16
  go_wp2_with fail
  refine he.out.mono ?_
  rintro e X1 ⟨nb, nk, rfl, h1, ⟨yb, h2, h3⟩, h4⟩
  replace h1 := hid_of h1
  replace h2 := hid_of h2
  replace h3 := hid_of h3
  replace h4 := hid_of (hB.out.trans (h4.mono hB.out.size))
  clear he hB
  go_wp2_with fail
  go_ret2
  exact ⟨nb, nk, yb, rfl, h1.out, h2.out, h3.out, h4.out⟩
set_option maxHeartbeats 4000000 in
set_option maxRecDepth 100000 in
theorem commit_no (cb kb xb gn bn bi : Nat) (w : World) (h : Cat1 w cb kb) (hk : Coll1 w kb 2 xb) (hR : w.heap[gn]? = some (oneC bn bi)) :
    Calls Tryz.prog 16 #[.pointer (some ⟨cb, 0, none⟩), .string nameC, .slice none 0 0, .slice (some ⟨gn, 0, none⟩) 1 1] w fun e w' => e = .returned (.tuple #[.pointer none, .int .i64 5]) ∧ Below w.heap.size w w' := by
  obtain ⟨g, c, hK, hc0, hgk⟩ := hk
  have hB := ((Below.refl _ w).alloc (Nat.le_refl _) (.cells #[.slice none 0 0] 28)).alloc (by simp) (.cells #[.slice (some ⟨gn, 0, none⟩) 1 1] 28)
  have n1 := cell_of_one (new1 w (.cells #[.slice none 0 0] 28) (.cells #[.slice (some ⟨gn, 0, none⟩) 1 1] 28))
  have n2 := cell_of_one (new2 w (.cells #[.slice none 0 0] 28) (.cells #[.slice (some ⟨gn, 0, none⟩) 1 1] 28))
  have he := hid_of (edited_full cb kb w.heap.size (w.heap.size + 1) 2 (some ⟨g, 0, none⟩) 1 c _ (h.keep hB) (hK.keep hB) (fun W nk hW hnk hc => commit1_one w.heap.size (w.heap.size + 1) nk gn bn bi _ W (stay hW n1) (stay hW n2) hc (block_keep hR (hB.trans (hW.mono hB.size)))))
  replace hB := hid_of hB
  clear h hK hc0 hgk hR n1 n2
  go_enter Tryz.func16, Tryz.ntmps16
  go_wp2_with fail
  refine he.out.mono ?_
  rintro e X1 ⟨rfl, h4⟩
  replace h4 := hid_of (hB.out.trans (h4.mono hB.out.size))
  clear he hB
  go_wp2_with fail
  go_ret2
  exact ⟨rfl, h4.out⟩
end Go.Proofs.YtdghkmgkmfnjjaaGreatDoor
