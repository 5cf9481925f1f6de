import Derived.Test.YtdghkmgkmfnjjaaGreatDoorJU
import Derived.Test.YtdghkmgkmfnjjaaGreatDoorJS
import Derived.BigQuiet
import Derived.Deep.QuietTactic
/-! Serves and Choose, of one index and one need. -/
namespace Go.Proofs.YtdghkmgkmfnjjaaGreatDoor
open Go Go.RowKit

theorem need7 {w : World} {b : Nat} {x0 x1 x2 x3 x4 x5 x6 : Value} {t : TypeId} (h : w.heap[b]? = some (.cells #[x0, x1, x2, x3, x4, x5, x6] t (0, 0))) : w.cell? ⟨b, 0, none⟩ = some x0 ∧ w.cell? ⟨b, 1, none⟩ = some x1 ∧ w.cell? ⟨b, 2, none⟩ = some x2 ∧ w.cell? ⟨b, 3, none⟩ = some x3 ∧ w.cell? ⟨b, 4, none⟩ = some x4 ∧ w.cell? ⟨b, 5, none⟩ = some x5 ∧ w.cell? ⟨b, 6, none⟩ = some x6 := by
  refine ⟨?_, ?_, ?_, ?_, ?_, ?_, ?_⟩
  all_goals simp [World.cell?, h]
set_option maxHeartbeats 1000000 in
theorem isnull_no (w : World) : Calls Tryz.prog 60 #[.agg #[.int .i64 3, .int .i64 7, .string ⟨#[]⟩, .slice none 0 0, .slice none 0 0]] w fun e w' => e = .returned (.bool false) ∧ Below w.heap.size w w' := by
  go_enter Tryz.func60, Tryz.ntmps60
  go_wp2_with fail
  go_ret
  exact ⟨rfl, (Below.refl _ w).alloc (Nat.le_refl _) _⟩
set_option maxHeartbeats 4000000 in
set_option maxRecDepth 100000 in
theorem serves_t (xb : Nat) (nm : ByteArray) (un : Bool) (pv ev kv : Value) (w : World) (hX : IxAt w xb nm nameA un pv ev kv) :
    Calls Tryz.prog 42 #[.pointer (some ⟨xb, 0, none⟩), .agg #[.string nameA, .int .i64 1, .int .i64 3, .int .i64 7, .string ⟨#[]⟩, .slice none 0 0, .slice none 0 0]] w fun e w' => e = .returned (.bool true) ∧ Below w.heap.size w w' := by
  have hB0 := (Below.refl _ w).alloc (Nat.le_refl _) (.cells #[.string nameA, .int .i64 1, .int .i64 3, .int .i64 7, .string ⟨#[]⟩, .slice none 0 0, .slice none 0 0] 70)
  have hnew := heap_alloc_new w (.cells #[.string nameA, .int .i64 1, .int .i64 3, .int .i64 7, .string ⟨#[]⟩, .slice none 0 0, .slice none 0 0] 70)
  obtain ⟨W1, hW1⟩ : ∃ W1, Hid (w.alloc (.cells #[.string nameA, .int .i64 1, .int .i64 3, .int .i64 7, .string ⟨#[]⟩, .slice none 0 0, .slice none 0 0] 70) = W1) := ⟨_, rfl⟩
  rw [hW1.out] at hB0 hnew
  obtain ⟨nb, hnb⟩ : ∃ n, Hid (w.heap.size = n) := ⟨_, rfl⟩
  rw [hnb.out] at hnew
  obtain ⟨n0, n1, n2, n3, n4, n5, n6⟩ := need7 hnew
  obtain ⟨i0, i1, i2, i3, i4, i5⟩ := (hX.keep hB0).cells
  have hck := fun W (hW : Below W1.heap.size W1 W) => hid_of (check1 7 (.inl rfl) W)
  have hpp : (nameA.toList == nameA.toList) = true := by simp
  replace hB0 := hid_of hB0
  clear hX
  go_enter Tryz.func42, Tryz.ntmps42
  go_wp2_with (rw [hW1.out])
  rw [hnb.out]
  refine wp_region_quiet (C := fun w' => Below W1.heap.size W1 w') (by kernel_rfl) (by kernel_rfl) (below_drewN (Below.refl _ _) 1) ?_
  with_reducible refine wpQuiet_step (fun K hK => ?_)
  refine ⟨.pointer (some ⟨xb, 0, none⟩), fun w' hw' => ?_, ?_⟩
  · first | (go_simp; done) | (go_simp; decide) | (go_simp; omega)
  with_reducible refine hK _ ?_
  clear hK K
  simp only [Act.put, List.setIfInBounds_toArray, List.set_cons_zero, List.set_cons_succ]
  with_reducible refine wpQuiet_step (fun K hK => ?_)
  refine ⟨.bool false, fun w' hw' => ?_, ?_⟩
  · first | (go_simp; done) | (go_simp; decide) | (go_simp; omega)
  with_reducible refine hK _ ?_
  clear hK K
  simp only [Act.put, List.setIfInBounds_toArray, List.set_cons_zero, List.set_cons_succ]
  with_reducible refine wpQuiet_step (fun K hK => ?_)
  refine ⟨.bool false, fun w' hw' => ?_, ?_⟩
  · first | (go_simp; done) | (go_simp; decide) | (go_simp; omega)
  with_reducible refine hK _ ?_
  clear hK K
  simp only [Act.put, List.setIfInBounds_toArray, List.set_cons_zero, List.set_cons_succ]
  with_reducible refine wpQuiet_step (fun K hK => ?_)
  refine k_quiet_if (by kernel_rfl) ?_
  refine ⟨.pointer (some ⟨nb, 0, none⟩), fun w' hw' => ?_, ?_⟩
  · first | (go_simp; done) | (go_simp; decide) | (go_simp; omega)
  with_reducible refine hK _ ?_
  clear hK K
  simp only [Act.put, List.setIfInBounds_toArray, List.set_cons_zero, List.set_cons_succ]
  with_reducible refine wpQuiet_step (fun K hK => ?_)
  refine k_quiet_if (by kernel_rfl) ?_
  refine ⟨.string nameA, fun w' hw' => ?_, ?_⟩
  · have t0 := stay hw' n0; go_simp
  with_reducible refine hK _ ?_
  clear hK K
  simp only [Act.put, List.setIfInBounds_toArray, List.set_cons_zero, List.set_cons_succ]
  with_reducible refine wpQuiet_step (fun K hK => ?_)
  refine k_quiet_if (by kernel_rfl) ?_
  refine ⟨.pointer (some ⟨xb, 0, none⟩), fun w' hw' => ?_, ?_⟩
  · first | (go_simp; done) | (go_simp; decide) | (go_simp; omega)
  with_reducible refine hK _ ?_
  clear hK K
  simp only [Act.put, List.setIfInBounds_toArray, List.set_cons_zero, List.set_cons_succ]
  with_reducible refine wpQuiet_step (fun K hK => ?_)
  refine k_quiet_if (by kernel_rfl) ?_
  refine ⟨.pointer (some ⟨xb, 0, none⟩), fun w' hw' => ?_, ?_⟩
  · first | (go_simp; done) | (go_simp; decide) | (go_simp; omega)
  with_reducible refine hK _ ?_
  clear hK K
  simp only [Act.put, List.setIfInBounds_toArray, List.set_cons_zero, List.set_cons_succ]
  with_reducible refine wpQuiet_step (fun K hK => ?_)
  refine k_quiet_if (by kernel_rfl) ?_
  refine ⟨.pointer (some ⟨xb, 0, none⟩), fun w' hw' => ?_, ?_⟩
  · first | (go_simp; done) | (go_simp; decide) | (go_simp; omega)
  with_reducible refine hK _ ?_
  clear hK K
  simp only [Act.put, List.setIfInBounds_toArray, List.set_cons_zero, List.set_cons_succ]
  with_reducible refine wpQuiet_step (fun K hK => ?_)
  refine k_quiet_if (by kernel_rfl) ?_
  refine ⟨.pointer (some ⟨xb, 1, none⟩), fun w' hw' => ?_, ?_⟩
  · first | (go_simp; done) | (go_simp; decide) | (go_simp; omega)
  with_reducible refine hK _ ?_
  clear hK K
  simp only [Act.put, List.setIfInBounds_toArray, List.set_cons_zero, List.set_cons_succ]
  with_reducible refine wpQuiet_step (fun K hK => ?_)
  refine k_quiet_if (by kernel_rfl) ?_
  refine ⟨.string nameA, fun w' hw' => ?_, ?_⟩
  · have t0 := stay hw' i1; go_simp
  with_reducible refine hK _ ?_
  clear hK K
  simp only [Act.put, List.setIfInBounds_toArray, List.set_cons_zero, List.set_cons_succ]
  with_reducible refine wpQuiet_step (fun K hK => ?_)
  refine k_quiet_if (by kernel_rfl) ?_
  refine ⟨.bool false, fun w' hw' => ?_, ?_⟩
  · first | (go_simp; done) | (go_simp; decide) | (go_simp; omega)
  with_reducible refine hK _ ?_
  clear hK K
  simp only [Act.put, List.setIfInBounds_toArray, List.set_cons_zero, List.set_cons_succ]
  with_reducible refine wpQuiet_step (fun K hK => ?_)
  refine ⟨.bool false, fun w' hw' => ?_, ?_⟩
  · first | (go_simp; done) | (go_simp; decide) | (go_simp; omega)
  with_reducible refine hK _ ?_
  clear hK K
  simp only [Act.put, List.setIfInBounds_toArray, List.set_cons_zero, List.set_cons_succ]
  with_reducible refine wpQuiet_step (fun K hK => ?_)
  refine ⟨.bool false, fun w' hw' => ?_, ?_⟩
  · first | (go_simp; done) | (go_simp; decide) | (go_simp; omega)
  with_reducible refine hK _ ?_
  clear hK K
  simp only [Act.put, List.setIfInBounds_toArray, List.set_cons_zero, List.set_cons_succ]
  with_reducible refine wpQuiet_step (fun K hK => ?_)
  refine k_quiet_if (by kernel_rfl) ?_
  refine ⟨.pointer (some ⟨nb, 2, none⟩), fun w' hw' => ?_, ?_⟩
  · first | (go_simp; done) | (go_simp; decide) | (go_simp; omega)
  with_reducible refine hK _ ?_
  clear hK K
  simp only [Act.put, List.setIfInBounds_toArray, List.set_cons_zero, List.set_cons_succ]
  with_reducible refine wpQuiet_step (fun K hK => ?_)
  refine k_quiet_if (by kernel_rfl) ?_
  refine ⟨.agg #[.int .i64 3, .int .i64 7, .string ⟨#[]⟩, .slice none 0 0, .slice none 0 0], fun w' hw' => ?_, ?_⟩
  · have t0 := stay hw' n2; have t1 := stay hw' n3; have t2 := stay hw' n4; have t3 := stay hw' n5; have t4 := stay hw' n6; go_simp
  with_reducible refine hK _ ?_
  clear hK K
  simp only [Act.put, List.setIfInBounds_toArray, List.set_cons_zero, List.set_cons_succ]
  with_reducible refine wpQuiet_step (fun K hK => ?_)
  refine k_quiet_if (by kernel_rfl) ?_
  refine ⟨.int .i64 0, fun w' hw' => ?_, ?_⟩
  · go_simp
    refine ((hck w' hw').out).mono ?_
    rintro e w'' ⟨rfl, hb'⟩
    exact ⟨rfl, hw'.trans (hb'.mono hw'.size)⟩
  with_reducible refine hK _ ?_
  clear hK K
  simp only [Act.put, List.setIfInBounds_toArray, List.set_cons_zero, List.set_cons_succ]
  with_reducible refine wpQuiet_step (fun K hK => ?_)
  refine k_quiet_if (by kernel_rfl) ?_
  refine ⟨.bool false, fun w' hw' => ?_, ?_⟩
  · first | (go_simp; done) | (go_simp; decide) | (go_simp; omega)
  with_reducible refine hK _ ?_
  clear hK K
  simp only [Act.put, List.setIfInBounds_toArray, List.set_cons_zero, List.set_cons_succ]
  with_reducible refine wpQuiet_step (fun K hK => ?_)
  refine ⟨.bool false, fun w' hw' => ?_, ?_⟩
  · first | (go_simp; done) | (go_simp; decide) | (go_simp; omega)
  with_reducible refine hK _ ?_
  clear hK K
  simp only [Act.put, List.setIfInBounds_toArray, List.set_cons_zero, List.set_cons_succ]
  refine wpQuiet_nil ?_
  intro X1 hX1
  have hB1 := hid_of (hB0.out.trans (hX1.mono hB0.out.size))
  replace n1 := stay hX1 n1
  replace n2 := stay hX1 n2
  replace n3 := stay hX1 n3
  replace n4 := stay hX1 n4
  replace n5 := stay hX1 n5
  replace n6 := stay hX1 n6
  clear hX1 hB0 n0 i0 i1 i2 i3 i4 i5 hck hW1
  go_wp2_with fail
  refine (isnull_no _).mono ?_
  rintro e X2 ⟨rfl, hX2⟩
  replace hB1 := hid_of (hB1.out.trans (hX2.mono hB1.out.size))
  clear hX2
  go_wp2_with fail
  go_ret
  exact ⟨rfl, hB1.out⟩
set_option maxHeartbeats 1000000 in
set_option maxRecDepth 100000 in
theorem choose1_t (xb nb : Nat) (nm : ByteArray) (un : Bool) (pv ev kv : Value) (w : World) (hX : IxAt w xb nm nameA un pv ev kv) (hn : w.heap[nb]? = some (.cells #[.string nameA, .int .i64 1, .int .i64 3, .int .i64 7, .string ⟨#[]⟩, .slice none 0 0, .slice none 0 0] 70 (0, 0))) :
    Calls Tryz.prog 41 #[.pointer (some ⟨xb, 0, none⟩), .pointer (some ⟨nb, 0, none⟩)] w fun e w' => e = .returned (.bool true) ∧ Below w.heap.size w w' := by
  obtain ⟨n0, n1, n2, n3, n4, n5, n6⟩ := need7 hn
  have hs := hid_of (serves_t xb nm un pv ev kv w hX)
  clear hX hn
  go_enter Tryz.func41, Tryz.ntmps41
  go_wp2_with fail
  refine hs.out.mono ?_
  rintro e X1 ⟨rfl, hX1⟩
  replace hX1 := hid_of hX1
  clear hs n0 n1 n2 n3 n4 n5 n6
  go_wp2_with fail
  go_ret
  exact ⟨rfl, hX1.out⟩
set_option maxHeartbeats 2000000 in
set_option maxRecDepth 100000 in
theorem ixfunc_t (g c xb nb : Nat) (nm : ByteArray) (un : Bool) (pv ev kv : Value) (w : World) (hc : w.cell? ⟨g, 0, none⟩ = some (.pointer (some ⟨xb, 0, none⟩))) (hX : IxAt w xb nm nameA un pv ev kv) (hn : w.heap[nb]? = some (.cells #[.string nameA, .int .i64 1, .int .i64 3, .int .i64 7, .string ⟨#[]⟩, .slice none 0 0, .slice none 0 0] 70 (0, 0))) :
    Calls Tryz.prog 40 #[.slice (some ⟨g, 0, none⟩) 1 c, .func (.func 41) #[] #[.pointer (some ⟨nb, 0, none⟩)]] w fun e w' => e = .returned (.int .i64 0) ∧ Below w.heap.size w w' := by
  have hs := hid_of (choose1_t xb nb nm un pv ev kv w hX hn)
  clear hX hn
  go_enter Tryz.func40, Tryz.ntmps40
  go_wp2_with fail
  refine wp_loop_rounds 1 ?_
  rw [rounds_succ]
  go_wp2_with fail
  refine hs.out.mono ?_
  rintro e X1 ⟨rfl, hX1⟩
  replace hX1 := hid_of hX1
  clear hs hc
  go_wp2_with fail
  go_ret
  exact ⟨rfl, hX1.out⟩
set_option maxHeartbeats 1000000 in
theorem rank_1 (w : World) : Calls Tryz.prog 39 #[.int .i64 1] w fun e w' => e = .returned (.int .i64 0) ∧ w' = w := by
  go_enter Tryz.func39, Tryz.ntmps39
  go_wp2_with fail
  go_ret
  exact ⟨rfl, rfl⟩
set_option maxHeartbeats 2000000 in
set_option maxRecDepth 100000 in
theorem choose_t (g c xb nb0 c0 : Nat) (nm : ByteArray) (un : Bool) (pv ev kv : Value) (w : World) (hc : w.cell? ⟨g, 0, none⟩ = some (.pointer (some ⟨xb, 0, none⟩))) (hX : IxAt w xb nm nameA un pv ev kv) (hn : w.heap[nb0]? = some (.cells #[.string nameA, .int .i64 1, .int .i64 3, .int .i64 7, .string ⟨#[]⟩, .slice none 0 0, .slice none 0 0] 70 (0, 0))) :
    Calls Tryz.prog 20 #[.slice (some ⟨g, 0, none⟩) 1 c, .slice (some ⟨nb0, 0, none⟩) 1 c0] w fun e w' => e = .returned (.tuple #[.int .i64 0, .int .i64 0, .bool true]) ∧ Below w.heap.size w w' := by
  obtain ⟨n0, n1, n2, n3, n4, n5, n6⟩ := need7 hn
  have hB := (Below.refl _ w).alloc (Nat.le_refl _) (.cells #[.string nameA, .int .i64 1, .int .i64 3, .int .i64 7, .string ⟨#[]⟩, .slice none 0 0, .slice none 0 0] 70)
  have m1 := (need7 (heap_alloc_new w (.cells #[.string nameA, .int .i64 1, .int .i64 3, .int .i64 7, .string ⟨#[]⟩, .slice none 0 0, .slice none 0 0] 70))).2.1
  have hi := hid_of (ixfunc_t g c xb w.heap.size nm un pv ev kv _ (stay hB hc) (hX.keep hB) (heap_alloc_new w _))
  replace hB := hid_of hB
  clear hc hX hn
  go_enter Tryz.func20, Tryz.ntmps20
  go_wp2_with fail
  refine wp_loop_rounds 1 ?_
  rw [rounds_succ]
  go_wp2_with fail
  refine wp_loop_rounds 1 ?_
  rw [rounds_succ]
  go_wp2_with fail
  refine (rank_1 _).mono ?_
  rintro e Z ⟨rfl, hZ⟩
  have hZ := hZ.symm
  subst hZ
  go_wp2_with fail
  refine hi.out.mono ?_
  rintro e X1 ⟨rfl, hX1⟩
  replace hB := hid_of (hB.out.trans (hX1.mono hB.out.size))
  clear hi hX1 n0 n1 n2 n3 n4 n5 n6 m1
  go_wp2_with fail
  refine bodyPost_ret (results_tmp3 rfl _ _ _) rfl ?_
  exact ⟨rfl, hB.out⟩
end Go.Proofs.YtdghkmgkmfnjjaaGreatDoor
