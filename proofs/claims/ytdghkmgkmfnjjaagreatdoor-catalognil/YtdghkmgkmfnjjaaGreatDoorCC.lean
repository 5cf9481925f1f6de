import Derived.Test.YtdghkmgkmfnjjaaGreatDoorCB
/-! Create. -/
namespace Go.Proofs.YtdghkmgkmfnjjaaGreatDoor
open Go Go.RowKit Go.Maps

abbrev zeroV : Value := .agg #[.int .i64 0, .int .i64 0, .string ⟨#[]⟩, .slice none 0 0, .slice none 0 0]
set_option maxHeartbeats 2000000 in
set_option maxRecDepth 100000 in
theorem created_c (w : World) : Calls Tryz.prog 28 #[.string nameC, .int .i64 2, zeroV] w fun e w' => ∃ kb, e = .returned (.tuple #[.pointer (some ⟨kb, 0, none⟩), .int .i64 0]) ∧ CollAt w' kb 0 (.slice none 0 0) ∧ Below w.heap.size w w' := by
  go_enter Tryz.func28, Tryz.ntmps28
  go_wp2_with fail
  go_ret2
  exact ⟨_, rfl, heap_new' (by simp), ((Below.refl _ w).alloc (Nat.le_refl _) _).alloc (by simp) _⟩
theorem name_c : nameOk nameC = true := by decide +kernel
set_option maxHeartbeats 2000000 in
set_option maxRecDepth 100000 in
theorem create_c (cb : Nat) (w : World) (h : Cat0 w cb) : Calls Tryz.prog 12 #[.pointer (some ⟨cb, 0, none⟩), .string nameC, .int .i64 2, zeroV] w fun e w' => ∃ nb kb, e = .returned (.tuple #[.pointer (some ⟨nb, 0, none⟩), .int .i64 0]) ∧ Cat1 w' nb kb ∧ CollAt w' kb 0 (.slice none 0 0) ∧ Below w.heap.size w w' := by
  have hnm := fun W => hid_of (name_any nameC (by decide) W)
  rw [name_c] at hnm
  have hcr := fun W => hid_of (created_c W)
  replace h := hid_of h
  go_enter Tryz.func12, Tryz.ntmps12
  go_wp2_with fail
  refine (hnm _).out.mono ?_
  rintro e X1 ⟨rfl, hX1⟩
  have hB1 : Below w.heap.size w X1 := by
    rw [hX1]
    exact (Below.refl _ w).alloc (Nat.le_refl _) _
  have v0 : X1.cell? ⟨w.heap.size, 0, none⟩ = some (.int .i64 0) ∧ X1.cell? ⟨w.heap.size, 1, none⟩ = some (.int .i64 0) ∧ X1.cell? ⟨w.heap.size, 2, none⟩ = some (.string ⟨#[]⟩) ∧ X1.cell? ⟨w.heap.size, 3, none⟩ = some (.slice none 0 0) ∧ X1.cell? ⟨w.heap.size, 4, none⟩ = some (.slice none 0 0) := by
    rw [hX1]
    exact five_at (heap_alloc_new w _)
  obtain ⟨v0, v1, v2, v3, v4⟩ := v0
  have hC1 : Cat0 X1 cb := block_keep h.out hB1
  have hf := hid_of (find_none cb X1 hC1)
  clear hX1 hnm h
  replace hB1 := hid_of hB1
  go_wp2_with fail
  refine hf.out.mono ?_
  rintro e Z ⟨rfl, hZ⟩
  obtain rfl : X1 = Z := hZ.symm
  clear hZ hf
  go_wp2_with fail
  refine (hcr _).out.mono ?_
  rintro e X2 ⟨kb, rfl, hK, hB2⟩
  have hC2 : Cat0 X2 cb := block_keep hC1 hB2
  have c2 := cell_of_one hC2
  have hw := hid_of (with_none cb kb X2 hC2 (hK.at 0))
  replace hB2 := hid_of (hB1.out.trans (hB2.mono hB1.out.size))
  replace hK := hid_of hK
  clear hcr hC1 hC2 v0 v1 v2 v3 v4 hB1
  go_wp2_with fail
  refine hw.out.mono ?_
  rintro e X3 ⟨nb, rfl, hT, hB3⟩
  replace hK := hid_of (hK.out.keep hB3)
  replace hB3 := hid_of (hB2.out.trans (hB3.mono hB2.out.size))
  replace hT := hid_of hT
  clear hw c2
  go_wp2_with fail
  go_ret2
  exact ⟨nb, kb, rfl, hT.out, hK.out, hB3.out⟩
end Go.Proofs.YtdghkmgkmfnjjaaGreatDoor
