import Derived.Test.YtloeongljbgmnaaEG
import Derived.Laws.CopyOwn
/-! epoch: lists of what is retired: behind, blockOf, with. -/
namespace Go.Proofs.Ytloeongljbgmnaa
open Go Go.RowKit
theorem mk_batches (w : World) : (Instr.makeSlice 108 (.int .i64 1) (.int .i64 1)).run Try.prog w = .ok (.slice (some ⟨w.heap.size, 0, none⟩) 1 1) (w.alloc (.cells #[.slice none 0 0, .int .i64 0] 61)) := by kernel_rfl
theorem mk_blocks (w : World) : (Instr.makeSlice 47 (.int .i64 1) (.int .i64 1)).run Try.prog w = .ok (.slice (some ⟨w.heap.size, 0, none⟩) 1 1) (w.alloc (.cells #[.slice none 0 0, .int .i64 0] 110)) := by kernel_rfl
theorem cp_batch (g : Addr) (w : World) : (Builtin.copy_ #[108, 108] 3 #[.slice (some g) 1 1, .slice none 0 0]).run Try.prog w = .ok (.int .i64 0) w := by kernel_rfl
theorem cp_block (g : Addr) (w : World) : (Builtin.copy_ #[47, 47] 3 #[.slice (some g) 1 1, .slice none 0 0]).run Try.prog w = .ok (.int .i64 0) w := by kernel_rfl
theorem batch_i : (Try.prog.info? 61).map (·.size) = some 2 := by kernel_rfl
theorem block_i : (Try.prog.info? 110).map (·.size) = some 2 := by kernel_rfl
theorem sl_one (a : Option Addr) (n c : Nat) (x : Int) : (#[.slice a n c, .int .i64 x] : Array Value).all (·.oneCell') = true := by simp [Value.oneCell']
set_option maxRecDepth 100000 in
set_option maxHeartbeats 1000000 in
theorem behindB_any (a : Option Addr) (n c : Nat) (t : Int) (w : World) : Calls Try.prog 44 #[.slice none 0 0, .agg #[.slice a n c, .int .i64 t]] w fun e w' => Below w.heap.size w w' ∧ ∃ g, e = .returned (.slice (some ⟨g, 0, none⟩) 1 1) ∧ w'.heap[g]? = some (.cells #[.slice a n c, .int .i64 t] 61 (0, 0)) := by
  have hm := mk_batches
  have hc := cp_batch
  obtain ⟨W1, hW1⟩ : ∃ W1, Hid ((w.alloc (.cells #[.slice a n c, .int .i64 t] 61)).alloc (.cells #[.slice none 0 0, .int .i64 0] 61) = W1) := ⟨_, rfl⟩
  have z0 := heap_alloc2_old w (.cells #[.slice a n c, .int .i64 t] 61) (.cells #[.slice none 0 0, .int .i64 0] 61)
  have z1 := heap_alloc2_new w (.cells #[.slice a n c, .int .i64 t] 61) (.cells #[.slice none 0 0, .int .i64 0] 61)
  have hB : Below w.heap.size w W1 := by rw [← hW1.out]; exact ((Below.refl _ w).alloc (Nat.le_refl _) _).alloc (by simp) _
  rw [hW1.out] at z0 z1
  obtain ⟨y0, y1⟩ := cells2 z0
  replace hB := hid_of hB
  clear z0
  go_enter Try.func44, Try.ntmps44
  go_upto_region 2 with (rw [hW1.out])
  go_wp2_with (first | rw [hW1.out] | (refine wpList_store_row rfl 61 _ _ rfl (w.heap.size + 1) _ rfl rfl _ _ z1 batch_i rfl (sl_one _ _ _ _) ?_))
  go_ret
  exact ⟨below_setRow' hB.out (by omega) _, w.heap.size + 1, rfl, setRow_heap W1 (w.heap.size + 1) _ _ _ _ z1⟩
set_option maxRecDepth 100000 in
set_option maxHeartbeats 1000000 in
theorem behindK_any (a : Option Addr) (n c : Nat) (t : Int) (w : World) : Calls Try.prog 42 #[.slice none 0 0, .agg #[.slice a n c, .int .i64 t]] w fun e w' => Below w.heap.size w w' ∧ ∃ g, e = .returned (.slice (some ⟨g, 0, none⟩) 1 1) ∧ w'.heap[g]? = some (.cells #[.slice a n c, .int .i64 t] 110 (0, 0)) := by
  have hm := mk_blocks
  have hc := cp_block
  obtain ⟨W1, hW1⟩ : ∃ W1, Hid ((w.alloc (.cells #[.slice a n c, .int .i64 t] 110)).alloc (.cells #[.slice none 0 0, .int .i64 0] 110) = W1) := ⟨_, rfl⟩
  have z0 := heap_alloc2_old w (.cells #[.slice a n c, .int .i64 t] 110) (.cells #[.slice none 0 0, .int .i64 0] 110)
  have z1 := heap_alloc2_new w (.cells #[.slice a n c, .int .i64 t] 110) (.cells #[.slice none 0 0, .int .i64 0] 110)
  have hB : Below w.heap.size w W1 := by rw [← hW1.out]; exact ((Below.refl _ w).alloc (Nat.le_refl _) _).alloc (by simp) _
  rw [hW1.out] at z0 z1
  obtain ⟨y0, y1⟩ := cells2 z0
  replace hB := hid_of hB
  clear z0
  go_enter Try.func42, Try.ntmps42
  go_upto_region 2 with (rw [hW1.out])
  go_wp2_with (first | rw [hW1.out] | (refine wpList_store_row rfl 110 _ _ rfl (w.heap.size + 1) _ rfl rfl _ _ z1 block_i rfl (sl_one _ _ _ _) ?_))
  go_ret
  exact ⟨below_setRow' hB.out (by omega) _, w.heap.size + 1, rfl, setRow_heap W1 (w.heap.size + 1) _ _ _ _ z1⟩
end Go.Proofs.Ytloeongljbgmnaa
