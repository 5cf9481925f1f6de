import Derived.Test.YtloeongljbgmnaaEV
/-! epoch: a nil keeper, no heap. -/
namespace Go.Proofs.Ytloeongljbgmnaa
open Go Go.RowKit
set_option maxRecDepth 100000 in
set_option maxHeartbeats 1000000 in
theorem new_none (wb : Nat) (s : Int) (w : World) : Calls Try.prog 4 #[.pointer (some ⟨wb, 0, none⟩), .int .i64 4, .pointer none, .int .i64 1, .agg #[.int .i64 s, .slice none 0 0, .int .i64 0]] w fun e w' => e = .returned (.tuple #[.pointer none, .int .i64 2]) ∧ Below w.heap.size w w' := by
  have hB : Hid (Below w.heap.size w (w.alloc (.cells #[.int .i64 s, .slice none 0 0, .int .i64 0] 28))) := (Below.refl _ w).alloc (Nat.le_refl _) _
  go_enter Try.func4, Try.ntmps4
  go_wp2_with fail
  go_ret2
  exact ⟨rfl, hB.out⟩
set_option maxRecDepth 100000 in
theorem has_none (w : World) : Calls Try.prog 18 #[.pointer none, .int .i64 0] w fun e w' => e = .returned (.bool false) ∧ w' = w := by
  go_enter Try.func18, Try.ntmps18
  go_wp2
  go_ret
  exact ⟨rfl, rfl⟩
set_option maxRecDepth 100000 in
theorem unpin_none (w : World) : Calls Try.prog 6 #[.pointer none, .pointer none, .int .i64 0] w fun e w' => e = .returned (.tuple #[]) ∧ w' = w := by
  have hh := hid_of (has_none w)
  go_enter Try.func6, Try.ntmps6
  go_wp2_with fail
  refine hh.out.mono ?_
  rintro e W2 ⟨rfl, hz⟩
  obtain rfl : w = W2 := hz.symm
  clear hh hz
  go_wp2_with fail
  exact bodyPost_end (results_none rfl _ _ _) rfl ⟨rfl, rfl⟩
set_option maxRecDepth 100000 in
set_option maxHeartbeats 1000000 in
theorem root_none (w : World) : Calls Try.prog 7 #[.pointer none, .pointer none] w fun e w' => e = .returned (.agg #[.int .i64 0, .slice none 0 0, .int .i64 0]) ∧ Below w.heap.size w w' := by
  obtain ⟨W2, hW2⟩ : ∃ W2, Hid ((w.alloc (.cells #[.int .i64 0, .slice none 0 0, .int .i64 0] 28)).alloc (.cells #[.int .i64 0, .slice none 0 0, .int .i64 0] 28) = W2) := ⟨_, rfl⟩
  have z0 := heap_alloc2_old w (.cells #[.int .i64 0, .slice none 0 0, .int .i64 0] 28) (.cells #[.int .i64 0, .slice none 0 0, .int .i64 0] 28)
  have z1 := heap_alloc2_new w (.cells #[.int .i64 0, .slice none 0 0, .int .i64 0] 28) (.cells #[.int .i64 0, .slice none 0 0, .int .i64 0] 28)
  have hB : Below w.heap.size w W2 := by rw [← hW2.out]; exact ((Below.refl _ w).alloc (Nat.le_refl _) _).alloc (by simp) _
  rw [hW2.out] at z0 z1
  obtain ⟨y0, y1, y2⟩ := cells3 z1
  have kk := setRow_heap W2 w.heap.size _ #[.int .i64 0, .slice none 0 0, .int .i64 0] _ _ z0
  obtain ⟨t0, t1, t2⟩ := cells3 kk
  replace hB := hid_of hB
  clear kk
  go_enter Try.func7, Try.ntmps7
  go_upto_region 3 with fail
  rw [hW2.out]
  go_wp2_with (refine wpList_store_row rfl 28 _ _ rfl w.heap.size _ rfl rfl _ _ z0 r_i rfl (row3_one _ _ _ _ _) ?_)
  go_wp2_with fail
  exact bodyPost_ret (v := .agg #[.int .i64 0, .slice none 0 0, .int .i64 0]) (by simp [results, Try.results7, go_sem, t0, t1, t2]) rfl ⟨rfl, below_setRow' hB.out (Nat.le_refl _) _⟩
set_option maxRecDepth 100000 in
set_option maxHeartbeats 1000000 in
theorem pin_none (w : World) : Calls Try.prog 8 #[.pointer none, .pointer none, .int .i64 0] w fun e w' => e = .returned (.agg #[.int .i64 0, .slice none 0 0, .int .i64 0]) ∧ Below w.heap.size w w' := by
  obtain ⟨W1, hW1⟩ : ∃ W1, Hid (w.alloc (.cells #[.int .i64 0, .slice none 0 0, .int .i64 0] 28) = W1) := ⟨_, rfl⟩
  have z1 := heap_alloc_new w (.cells #[.int .i64 0, .slice none 0 0, .int .i64 0] 28)
  have hB1 : Below w.heap.size w W1 := by rw [← hW1.out]; exact (Below.refl _ w).alloc (Nat.le_refl _) _
  rw [hW1.out] at z1
  have hh := hid_of (has_none W1)
  have hr := hid_of (root_none W1)
  replace z1 := hid_of z1
  replace hB1 := hid_of hB1
  go_enter Try.func8, Try.ntmps8
  go_wp2_with (rw [hW1.out])
  refine hh.out.mono ?_
  rintro e W2 ⟨rfl, hz⟩
  obtain rfl : W1 = W2 := hz.symm
  clear hh hz
  go_wp2_with fail
  refine hr.out.mono ?_
  rintro e X ⟨rfl, hX⟩
  have zx := up_below hX z1.out
  have kk := setRow_heap X w.heap.size _ #[.int .i64 0, .slice none 0 0, .int .i64 0] _ _ zx
  obtain ⟨t0, t1, t2⟩ := cells3 kk
  have hfin : Hid (Below w.heap.size w (X.setRow w.heap.size #[.int .i64 0, .slice none 0 0, .int .i64 0])) := below_setRow' (hB1.out.trans (hX.mono hB1.out.size)) (Nat.le_refl _) _
  clear hr hX kk hB1 hW1
  go_wp2_with (refine wpList_store_row rfl 28 _ _ rfl w.heap.size _ rfl rfl _ _ zx r_i rfl (row3_one _ _ _ _ _) ?_)
  go_wp2_with fail
  exact bodyPost_ret (v := .agg #[.int .i64 0, .slice none 0 0, .int .i64 0]) (by simp [results, Try.results8, go_sem, t0, t1, t2]) rfl ⟨rfl, hfin.out⟩
set_option maxRecDepth 100000 in
theorem publish_none (s : Int) (w : World) : Calls Try.prog 9 #[.pointer none, .pointer none, .agg #[.int .i64 s, .slice none 0 0, .int .i64 0], .slice none 0 0] w fun e w' => e = .returned (.int .i64 0) ∧ Below w.heap.size w w' := by
  have hB : Hid (Below w.heap.size w (w.alloc (.cells #[.int .i64 s, .slice none 0 0, .int .i64 0] 28))) := (Below.refl _ w).alloc (Nat.le_refl _) _
  go_enter Try.func9, Try.ntmps9
  go_wp2_with fail
  go_ret
  exact ⟨rfl, hB.out⟩
set_option maxRecDepth 100000 in
theorem pass_none (w : World) : Calls Try.prog 10 #[.pointer none, .pointer none] w fun e w' => e = .returned (.int .i64 0) ∧ w' = w := by
  go_enter Try.func10, Try.ntmps10
  go_wp2_with fail
  go_ret
  exact ⟨rfl, rfl⟩
set_option maxRecDepth 100000 in
theorem pins_none (w : World) : Calls Try.prog 11 #[.pointer none] w fun e w' => e = .returned (.slice none 0 0) ∧ w' = w := by
  go_enter Try.func11, Try.ntmps11
  go_wp2_with fail
  go_ret
  exact ⟨rfl, rfl⟩
set_option maxRecDepth 100000 in
theorem retired_none (w : World) : Calls Try.prog 12 #[.pointer none] w fun e w' => e = .returned (.int .i64 0) ∧ w' = w := by
  go_enter Try.func12, Try.ntmps12
  go_wp2_with fail
  go_ret
  exact ⟨rfl, rfl⟩
theorem s_of (s : Int) (na : Option Addr) (nn nc : Nat) (tg : Int) (w : World) : (Instr.field 28 (.agg #[.int .i64 s, .slice na nn nc, .int .i64 tg]) 0).run Try.prog w = .ok (.int .i64 s) w := by kernel_rfl
end Go.Proofs.Ytloeongljbgmnaa
