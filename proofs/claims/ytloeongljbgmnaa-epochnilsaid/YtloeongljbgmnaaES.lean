import Derived.Test.YtloeongljbgmnaaER
/-! epoch: the law's own Split. -/
namespace Go.Proofs.Ytloeongljbgmnaa
open Go Go.RowKit
theorem mk_b0 (w : World) : (Instr.makeSlice 171 (.int .i64 0) (.int .i64 0)).run Try.prog w = .ok (.slice (some ⟨w.heap.size, 0, none⟩) 0 0) (w.alloc (.cells #[] 4)) := by kernel_rfl
theorem mk_b1 (w : World) : (Instr.makeSlice 171 (.int .i64 1) (.int .i64 1)).run Try.prog w = .ok (.slice (some ⟨w.heap.size, 0, none⟩) 1 1) (w.alloc (.cells #[.bool false] 4)) := by kernel_rfl
set_option maxRecDepth 100000 in
set_option maxHeartbeats 2000000 in
theorem dropped_a (w : World) : Calls Try.prog 73 #[.agg #[.int .i64 1, .int .i64 1, .int .i64 7, .slice none 0 0, .int .i64 1, .int .i64 0, .int .i64 0], .int .i64 0] w fun e w' => Below w.heap.size w w' ∧ ∃ g, e = .returned (.slice (some ⟨g, 0, none⟩) 0 0) := by
  have hm := mk_b0
  have hB : Hid (Below w.heap.size w ((w.alloc (.cells #[.int .i64 1, .int .i64 1, .int .i64 7, .slice none 0 0, .int .i64 1, .int .i64 0, .int .i64 0] 78)).alloc (.cells #[] 4))) := ((Below.refl _ w).alloc (Nat.le_refl _) _).alloc (by simp) _
  go_enter Try.func73, Try.ntmps73
  go_wp2_with fail
  refine wp_loop_rounds 1 ?_
  rw [rounds_succ]
  go_wp2_with fail
  go_ret
  exact ⟨hB.out, _, rfl⟩
set_option maxRecDepth 100000 in
set_option maxHeartbeats 2000000 in
theorem split_a (w : World) : Calls Try.prog 53 #[.agg #[.int .i64 0, .slice none 0 0, .int .i64 0], .agg #[.int .i64 1, .int .i64 1, .int .i64 7, .slice none 0 0, .int .i64 1, .int .i64 0, .int .i64 0]] w fun e w' => e = .returned (.tuple #[.slice none 0 0, .slice none 0 0]) ∧ Below w.heap.size w w' := by
  obtain ⟨W2, hW2⟩ : ∃ W2, Hid ((w.alloc (.cells #[.int .i64 0, .slice none 0 0, .int .i64 0] 28)).alloc (.cells #[.int .i64 1, .int .i64 1, .int .i64 7, .slice none 0 0, .int .i64 1, .int .i64 0, .int .i64 0] 78) = W2) := ⟨_, rfl⟩
  have z0 := heap_alloc2_old w (.cells #[.int .i64 0, .slice none 0 0, .int .i64 0] 28) (.cells #[.int .i64 1, .int .i64 1, .int .i64 7, .slice none 0 0, .int .i64 1, .int .i64 0, .int .i64 0] 78)
  have z1 := heap_alloc2_new w (.cells #[.int .i64 0, .slice none 0 0, .int .i64 0] 28) (.cells #[.int .i64 1, .int .i64 1, .int .i64 7, .slice none 0 0, .int .i64 1, .int .i64 0, .int .i64 0] 78)
  have hB : Below w.heap.size w W2 := by rw [← hW2.out]; exact ((Below.refl _ w).alloc (Nat.le_refl _) _).alloc (by simp) _
  rw [hW2.out] at z0 z1
  obtain ⟨a0, a1, a2⟩ := cells3 z0
  have b0 : W2.cell? ⟨w.heap.size + 1, 0, none⟩ = some (.int .i64 1) := cell_of z1 rfl
  have b1 : W2.cell? ⟨w.heap.size + 1, 1, none⟩ = some (.int .i64 1) := cell_of z1 rfl
  have b2 : W2.cell? ⟨w.heap.size + 1, 2, none⟩ = some (.int .i64 7) := cell_of z1 rfl
  have b3 : W2.cell? ⟨w.heap.size + 1, 3, none⟩ = some (.slice none 0 0) := cell_of z1 rfl
  have b4 : W2.cell? ⟨w.heap.size + 1, 4, none⟩ = some (.int .i64 1) := cell_of z1 rfl
  have b5 : W2.cell? ⟨w.heap.size + 1, 5, none⟩ = some (.int .i64 0) := cell_of z1 rfl
  have b6 : W2.cell? ⟨w.heap.size + 1, 6, none⟩ = some (.int .i64 0) := cell_of z1 rfl
  have hd := hid_of (dropped_a W2)
  replace hB := hid_of hB
  clear z0 z1
  go_enter Try.func53, Try.ntmps53
  go_wp2_with (rw [hW2.out])
  refine hd.out.mono ?_
  rintro e W3 ⟨hB3, g, rfl⟩
  have hfin : Hid (Below w.heap.size w W3) := hB.out.trans (hB3.mono hB.out.size)
  clear hd hB3 hB
  go_wp2_with fail
  refine wp_loop_rounds 1 ?_
  rw [rounds_succ]
  go_wp2_with fail
  go_ret2
  exact ⟨rfl, hfin.out⟩
def opB (gd : Nat) : Array Value := #[.int .i64 1, .int .i64 0, .int .i64 0, .slice (some ⟨gd, 0, none⟩) 1 1, .int .i64 1, .int .i64 0, .int .i64 0]
set_option maxRecDepth 100000 in
set_option maxHeartbeats 2000000 in
theorem dropped_b (gd : Nat) (w : World) (hd : w.cell? ⟨gd, 0, none⟩ = some (.int .i64 0)) : Calls Try.prog 73 #[.agg (opB gd), .int .i64 1] w fun e w' => Below w.heap.size w w' ∧ ∃ g, e = .returned (.slice (some ⟨g, 0, none⟩) 1 1) ∧ w'.cell? ⟨g, 0, none⟩ = some (.bool true) := by
  have hm := mk_b1
  unfold opB
  obtain ⟨W2, hW2⟩ : ∃ W2, Hid ((w.alloc (.cells (opB gd) 78)).alloc (.cells #[.bool false] 4) = W2) := ⟨_, rfl⟩
  have z0 := heap_alloc2_old w (.cells (opB gd) 78) (.cells #[.bool false] 4)
  have z1 := heap_alloc2_new w (.cells (opB gd) 78) (.cells #[.bool false] 4)
  have hB : Below w.heap.size w W2 := by rw [← hW2.out]; exact ((Below.refl _ w).alloc (Nat.le_refl _) _).alloc (by simp) _
  rw [hW2.out] at z0 z1
  unfold opB at hW2
  have b3 : W2.cell? ⟨w.heap.size, 3, none⟩ = some (.slice (some ⟨gd, 0, none⟩) 1 1) := cell_of z0 rfl
  have c0 : W2.cell? ⟨w.heap.size + 1, 0, none⟩ = some (.bool false) := cell_of z1 rfl
  have cf : W2.frozen? ⟨w.heap.size + 1, 0, none⟩ = false := warm z1
  have hd2 := stay hB hd
  obtain ⟨X, hX⟩ : ∃ X, Hid (W2.setCell ⟨w.heap.size + 1, 0, none⟩ (.bool true) = X) := ⟨_, rfl⟩
  have zX := heap_setCell_same W2 (w.heap.size + 1) 0 _ _ (.bool true) z1
  have z0X := (Below.heap_setCell W2 ⟨w.heap.size + 1, 0, none⟩ (.bool true) w.heap.size (by show w.heap.size ≠ w.heap.size + 1; omega)).trans z0
  have hBX : Below w.heap.size w X := by rw [← hX.out]; exact ((Fr.of_below (S := fun _ => False) hB).set _ _ (.inr (by show w.heap.size ≤ w.heap.size + 1; omega))).below (Nat.le_refl _) (fun _ h => h.elim)
  rw [hX.out] at zX z0X
  have e3 : X.cell? ⟨w.heap.size, 3, none⟩ = some (.slice (some ⟨gd, 0, none⟩) 1 1) := cell_of z0X rfl
  have hfin : Hid (Below w.heap.size w X ∧ X.cell? ⟨w.heap.size + 1, 0, none⟩ = some (.bool true)) := ⟨hBX, cell_of zX rfl⟩
  clear z0 z1 hB hd zX z0X hBX
  go_enter Try.func73, Try.ntmps73
  go_wp2_with (rw [hW2.out])
  refine wp_loop_rounds 2 ?_
  rw [rounds_succ]
  go_wp2_with (rw [hX.out])
  rw [rounds_succ]
  go_wp2_with fail
  go_ret
  exact ⟨hfin.out.1, _, rfl, hfin.out.2⟩
end Go.Proofs.Ytloeongljbgmnaa
