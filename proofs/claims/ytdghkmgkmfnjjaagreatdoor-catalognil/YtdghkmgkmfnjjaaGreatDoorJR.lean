import Derived.Test.YtdghkmgkmfnjjaaGreatDoorJP
import Derived.BigRegion
/-! Texts in order. -/
namespace Go.Proofs.YtdghkmgkmfnjjaaGreatDoor
open Go Go.RowKit

set_option maxHeartbeats 1000000 in
theorem nanS (x : ByteArray) (w : World) : Calls Tryz.prog 108 #[.string x] w fun e w' => e = .returned (.bool false) ∧ w' = w := by
  go_enter Tryz.func108, Tryz.ntmps108
  go_wp2_with fail
  go_ret
  exact ⟨by simp, rfl⟩
set_option maxHeartbeats 1000000 in
theorem less_ab (w : World) : Calls Tryz.prog 78 #[.string ⟨#[97]⟩, .string ⟨#[98]⟩] w fun e w' => e = .returned (.bool true) ∧ w' = w := by
  go_enter Tryz.func78, Tryz.ntmps78
  go_wp2_with (go_at_call 108; refine (nanS _ _).mono ?_; rintro e w' ⟨rfl, rfl⟩)
  go_ret
  exact ⟨rfl, rfl⟩
/-- Two texts in a row, that may be written. -/
structure Txt2 (w : World) (g : Nat) (x y : ByteArray) : Prop where
  c0 : w.cell? ⟨g, 0, none⟩ = some (.string x)
  c1 : w.cell? ⟨g, 1, none⟩ = some (.string y)
  f0 : w.frozen? ⟨g, 0, none⟩ = false
  f1 : w.frozen? ⟨g, 1, none⟩ = false
theorem set2_cells {W : World} {g : Nat} {c1 : Value} (h1 : W.cell? ⟨g, 1, none⟩ = some c1) (a0 a1 : Value) : ((W.setCell ⟨g, 1, none⟩ a1).setCell ⟨g, 0, none⟩ a0).cell? ⟨g, 0, none⟩ = some a0 ∧ ((W.setCell ⟨g, 1, none⟩ a1).setCell ⟨g, 0, none⟩ a0).cell? ⟨g, 1, none⟩ = some a1 ∧ W.grownBy ((W.setCell ⟨g, 1, none⟩ a1).setCell ⟨g, 0, none⟩ a0) (some g) := by
  cases hh : W.heap[g]? with
  | none => simp [World.cell?, hh] at h1
  | some o =>
    cases o with
    | cells cur t fz =>
      have hp : ((W.setCell ⟨g, 1, none⟩ a1).setCell ⟨g, 0, none⟩ a0).heap[g]? = some (.cells ((cur.setIfInBounds 1 a1).setIfInBounds 0 a0) t fz) := by
        simp [World.setCell, Array.getElem?_modify, hh]
      have h5 : 1 < cur.size := by
        simp [World.cell?, hh] at h1
        exact (Array.getElem?_eq_some_iff.1 h1).1
      have l0 : 0 < cur.size := by omega
      refine ⟨?_, ?_, ⟨by simp [World.setCell], by simp [World.setCell], by simp [World.setCell], by simp [World.setCell], fun k _ hk => ?_⟩⟩
      · simp [World.cell?, hp, l0]
      · simp [World.cell?, hp, h5]
      · have hk' : k ≠ g := fun e => hk (by rw [e])
        repeat rw [Below.heap_setCell _ _ _ _ hk']
    | _ => simp [World.cell?, hh] at h1
set_option maxHeartbeats 8000000 in
set_option maxRecDepth 100000 in
theorem insertT2 (g c : Nat) (w : World) (h : Txt2 w g ⟨#[98]⟩ ⟨#[97]⟩) : Calls Tryz.prog 72 #[.slice (some ⟨g, 0, none⟩) 2 c, .int .i64 0, .int .i64 2] w fun e w' => e = .returned (.tuple #[]) ∧ w.grownBy w' (some g) ∧ w'.cell? ⟨g, 0, none⟩ = some (.string ⟨#[97]⟩) ∧ w'.cell? ⟨g, 1, none⟩ = some (.string ⟨#[98]⟩) := by
  have hls := fun (W : World) => hid_of ((less_ab W).mono (fun e w' (h : e = .returned (.bool true) ∧ w' = W) => (⟨h.1, by rw [h.2]; exact Below.refl _ _⟩ : e = .returned (.bool true) ∧ Below W.heap.size W w')))
  go_enter Tryz.func72, Tryz.ntmps72
  go_wp2_with fail
  refine wp_loop_rounds 2 ?_
  rw [rounds_succ]
  go_wp2_with fail
  refine wp_loop_rounds 2 ?_
  rw [rounds_succ]
  go_wp2_with fail
  refine wp_region_quiet (C := fun w' => Below w.heap.size w w') (by kernel_rfl) (by kernel_rfl) (below_drewN (Below.refl _ _) 1) ?_
  with_reducible refine wpQuiet_step (fun K hK => ?_)
  refine ⟨.int .i64 1, fun w' hw' => ?_, ?_⟩
  · first | (go_simp; done) | (go_simp; decide) | (go_simp; omega)
  with_reducible refine hK _ ?_
  clear hK K
  simp only [Act.put, List.setIfInBounds_toArray, List.set_cons_zero, List.set_cons_succ]
  with_reducible refine wpQuiet_step (fun K hK => ?_)
  refine ⟨.int .i64 0, fun w' hw' => ?_, ?_⟩
  · first | (go_simp; done) | (go_simp; decide) | (go_simp; omega)
  with_reducible refine hK _ ?_
  clear hK K
  simp only [Act.put, List.setIfInBounds_toArray, List.set_cons_zero, List.set_cons_succ]
  with_reducible refine wpQuiet_step (fun K hK => ?_)
  refine ⟨.bool true, fun w' hw' => ?_, ?_⟩
  · first | (go_simp; done) | (go_simp; decide) | (go_simp; omega)
  with_reducible refine hK _ ?_
  clear hK K
  simp only [Act.put, List.setIfInBounds_toArray, List.set_cons_zero, List.set_cons_succ]
  with_reducible refine wpQuiet_step (fun K hK => ?_)
  refine ⟨.bool true, fun w' hw' => ?_, ?_⟩
  · first | (go_simp; done) | (go_simp; decide) | (go_simp; omega)
  with_reducible refine hK _ ?_
  clear hK K
  simp only [Act.put, List.setIfInBounds_toArray, List.set_cons_zero, List.set_cons_succ]
  with_reducible refine wpQuiet_step (fun K hK => ?_)
  refine k_quiet_if (by kernel_rfl) ?_
  refine ⟨.slice (some ⟨g, 0, none⟩) 2 c, fun w' hw' => ?_, ?_⟩
  · first | (go_simp; done) | (go_simp; decide) | (go_simp; omega)
  with_reducible refine hK _ ?_
  clear hK K
  simp only [Act.put, List.setIfInBounds_toArray, List.set_cons_zero, List.set_cons_succ]
  with_reducible refine wpQuiet_step (fun K hK => ?_)
  refine k_quiet_if (by kernel_rfl) ?_
  refine ⟨.int .i64 1, fun w' hw' => ?_, ?_⟩
  · first | (go_simp; done) | (go_simp; decide) | (go_simp; omega)
  with_reducible refine hK _ ?_
  clear hK K
  simp only [Act.put, List.setIfInBounds_toArray, List.set_cons_zero, List.set_cons_succ]
  with_reducible refine wpQuiet_step (fun K hK => ?_)
  refine k_quiet_if (by kernel_rfl) ?_
  refine ⟨.pointer (some ⟨g, 1, none⟩), fun w' hw' => ?_, ?_⟩
  · first | (go_simp; done) | (go_simp; decide) | (go_simp; omega)
  with_reducible refine hK _ ?_
  clear hK K
  simp only [Act.put, List.setIfInBounds_toArray, List.set_cons_zero, List.set_cons_succ]
  with_reducible refine wpQuiet_step (fun K hK => ?_)
  refine k_quiet_if (by kernel_rfl) ?_
  refine ⟨.string ⟨#[97]⟩, fun w' hw' => ?_, ?_⟩
  · have t0 := stay hw' h.c1; go_simp
  with_reducible refine hK _ ?_
  clear hK K
  simp only [Act.put, List.setIfInBounds_toArray, List.set_cons_zero, List.set_cons_succ]
  with_reducible refine wpQuiet_step (fun K hK => ?_)
  refine k_quiet_if (by kernel_rfl) ?_
  refine ⟨.slice (some ⟨g, 0, none⟩) 2 c, fun w' hw' => ?_, ?_⟩
  · first | (go_simp; done) | (go_simp; decide) | (go_simp; omega)
  with_reducible refine hK _ ?_
  clear hK K
  simp only [Act.put, List.setIfInBounds_toArray, List.set_cons_zero, List.set_cons_succ]
  with_reducible refine wpQuiet_step (fun K hK => ?_)
  refine k_quiet_if (by kernel_rfl) ?_
  refine ⟨.int .i64 1, fun w' hw' => ?_, ?_⟩
  · first | (go_simp; done) | (go_simp; decide) | (go_simp; omega)
  with_reducible refine hK _ ?_
  clear hK K
  simp only [Act.put, List.setIfInBounds_toArray, List.set_cons_zero, List.set_cons_succ]
  with_reducible refine wpQuiet_step (fun K hK => ?_)
  refine k_quiet_if (by kernel_rfl) ?_
  refine ⟨.int .i64 0, fun w' hw' => ?_, ?_⟩
  · first | (go_simp; done) | (go_simp; decide) | (go_simp; omega)
  with_reducible refine hK _ ?_
  clear hK K
  simp only [Act.put, List.setIfInBounds_toArray, List.set_cons_zero, List.set_cons_succ]
  with_reducible refine wpQuiet_step (fun K hK => ?_)
  refine k_quiet_if (by kernel_rfl) ?_
  refine ⟨.pointer (some ⟨g, 0, none⟩), fun w' hw' => ?_, ?_⟩
  · first | (go_simp; done) | (go_simp; decide) | (go_simp; omega)
  with_reducible refine hK _ ?_
  clear hK K
  simp only [Act.put, List.setIfInBounds_toArray, List.set_cons_zero, List.set_cons_succ]
  with_reducible refine wpQuiet_step (fun K hK => ?_)
  refine k_quiet_if (by kernel_rfl) ?_
  refine ⟨.string ⟨#[98]⟩, fun w' hw' => ?_, ?_⟩
  · have t0 := stay hw' h.c0; go_simp
  with_reducible refine hK _ ?_
  clear hK K
  simp only [Act.put, List.setIfInBounds_toArray, List.set_cons_zero, List.set_cons_succ]
  with_reducible refine wpQuiet_step (fun K hK => ?_)
  refine k_quiet_if (by kernel_rfl) ?_
  refine ⟨.bool true, fun w' hw' => ?_, ?_⟩
  · go_simp
    refine ((hls w').out).mono ?_
    rintro e w'' ⟨rfl, hb'⟩
    exact ⟨rfl, hw'.trans (hb'.mono hw'.size)⟩
  with_reducible refine hK _ ?_
  clear hK K
  simp only [Act.put, List.setIfInBounds_toArray, List.set_cons_zero, List.set_cons_succ]
  with_reducible refine wpQuiet_step (fun K hK => ?_)
  refine ⟨.bool true, fun w' hw' => ?_, ?_⟩
  · first | (go_simp; done) | (go_simp; decide) | (go_simp; omega)
  with_reducible refine hK _ ?_
  clear hK K
  simp only [Act.put, List.setIfInBounds_toArray, List.set_cons_zero, List.set_cons_succ]
  refine wpQuiet_nil ?_
  intro X1 hX1
  have hgl := lt_of_cell h.c0
  have hfz : ∀ j, X1.frozen? ⟨g, j, none⟩ = w.frozen? ⟨g, j, none⟩ := fun j => by
    unfold World.frozen?
    rw [hX1.block _ hgl]
  have r0 := stay hX1 h.c0
  have r1 := stay hX1 h.c1
  have g0 := (hfz 0).trans h.f0
  have g1 := (hfz 1).trans h.f1
  clear h hfz hgl hls
  go_wp2_with fail
  go_region
  obtain ⟨q0, q1, hgr⟩ := set2_cells r1 (.string ⟨#[97]⟩) (.string ⟨#[98]⟩)
  replace hgr := hid_of (grown_trans (grown_of_below hX1) (drew_grown hgr))
  generalize (X1.setCell ⟨g, 1, none⟩ (.string ⟨#[98]⟩)).setCell ⟨g, 0, none⟩ (.string ⟨#[97]⟩) = X2 at q0 q1 hgr ⊢
  clear g0 g1 r0 r1 hX1
  go_wp2_with fail
  rw [rounds_succ]
  go_wp2_with fail
  refine wp_region_quiet (C := fun w' => Below X2.drew.heap.size X2.drew w') (by kernel_rfl) (by kernel_rfl) (below_drewN (Below.refl _ _) 1) ?_
  with_reducible refine wpQuiet_step (fun K hK => ?_)
  refine ⟨.int .i64 0, fun w' hw' => ?_, ?_⟩
  · first | (go_simp; done) | (go_simp; decide) | (go_simp; omega)
  with_reducible refine hK _ ?_
  clear hK K
  simp only [Act.put, List.setIfInBounds_toArray, List.set_cons_zero, List.set_cons_succ]
  with_reducible refine wpQuiet_step (fun K hK => ?_)
  refine ⟨.int .i64 0, fun w' hw' => ?_, ?_⟩
  · first | (go_simp; done) | (go_simp; decide) | (go_simp; omega)
  with_reducible refine hK _ ?_
  clear hK K
  simp only [Act.put, List.setIfInBounds_toArray, List.set_cons_zero, List.set_cons_succ]
  with_reducible refine wpQuiet_step (fun K hK => ?_)
  refine ⟨.bool false, fun w' hw' => ?_, ?_⟩
  · first | (go_simp; done) | (go_simp; decide) | (go_simp; omega)
  with_reducible refine hK _ ?_
  clear hK K
  simp only [Act.put, List.setIfInBounds_toArray, List.set_cons_zero, List.set_cons_succ]
  with_reducible refine wpQuiet_step (fun K hK => ?_)
  refine ⟨.bool false, fun w' hw' => ?_, ?_⟩
  · first | (go_simp; done) | (go_simp; decide) | (go_simp; omega)
  with_reducible refine hK _ ?_
  clear hK K
  simp only [Act.put, List.setIfInBounds_toArray, List.set_cons_zero, List.set_cons_succ]
  with_reducible refine wpQuiet_step (fun K hK => ?_)
  refine k_quiet_else (by kernel_rfl) ?_
  with_reducible refine hK _ ?_
  clear hK K
  simp only [Act.put, List.setIfInBounds_toArray, List.set_cons_zero, List.set_cons_succ]
  with_reducible refine wpQuiet_step (fun K hK => ?_)
  refine k_quiet_else (by kernel_rfl) ?_
  with_reducible refine hK _ ?_
  clear hK K
  simp only [Act.put, List.setIfInBounds_toArray, List.set_cons_zero, List.set_cons_succ]
  with_reducible refine wpQuiet_step (fun K hK => ?_)
  refine k_quiet_else (by kernel_rfl) ?_
  with_reducible refine hK _ ?_
  clear hK K
  simp only [Act.put, List.setIfInBounds_toArray, List.set_cons_zero, List.set_cons_succ]
  with_reducible refine wpQuiet_step (fun K hK => ?_)
  refine k_quiet_else (by kernel_rfl) ?_
  with_reducible refine hK _ ?_
  clear hK K
  simp only [Act.put, List.setIfInBounds_toArray, List.set_cons_zero, List.set_cons_succ]
  with_reducible refine wpQuiet_step (fun K hK => ?_)
  refine k_quiet_else (by kernel_rfl) ?_
  with_reducible refine hK _ ?_
  clear hK K
  simp only [Act.put, List.setIfInBounds_toArray, List.set_cons_zero, List.set_cons_succ]
  with_reducible refine wpQuiet_step (fun K hK => ?_)
  refine k_quiet_else (by kernel_rfl) ?_
  with_reducible refine hK _ ?_
  clear hK K
  simp only [Act.put, List.setIfInBounds_toArray, List.set_cons_zero, List.set_cons_succ]
  with_reducible refine wpQuiet_step (fun K hK => ?_)
  refine k_quiet_else (by kernel_rfl) ?_
  with_reducible refine hK _ ?_
  clear hK K
  simp only [Act.put, List.setIfInBounds_toArray, List.set_cons_zero, List.set_cons_succ]
  with_reducible refine wpQuiet_step (fun K hK => ?_)
  refine k_quiet_else (by kernel_rfl) ?_
  with_reducible refine hK _ ?_
  clear hK K
  simp only [Act.put, List.setIfInBounds_toArray, List.set_cons_zero, List.set_cons_succ]
  with_reducible refine wpQuiet_step (fun K hK => ?_)
  refine k_quiet_else (by kernel_rfl) ?_
  with_reducible refine hK _ ?_
  clear hK K
  simp only [Act.put, List.setIfInBounds_toArray, List.set_cons_zero, List.set_cons_succ]
  with_reducible refine wpQuiet_step (fun K hK => ?_)
  refine k_quiet_else (by kernel_rfl) ?_
  with_reducible refine hK _ ?_
  clear hK K
  simp only [Act.put, List.setIfInBounds_toArray, List.set_cons_zero, List.set_cons_succ]
  with_reducible refine wpQuiet_step (fun K hK => ?_)
  refine ⟨.bool false, fun w' hw' => ?_, ?_⟩
  · first | (go_simp; done) | (go_simp; decide) | (go_simp; omega)
  with_reducible refine hK _ ?_
  clear hK K
  simp only [Act.put, List.setIfInBounds_toArray, List.set_cons_zero, List.set_cons_succ]
  refine wpQuiet_nil ?_
  intro X3 hX3
  go_wp2_with fail
  rw [rounds_succ]
  go_wp2_with fail
  go_end0
  exact ⟨rfl, grown_trans hgr.out (grown_of_below hX3), stay hX3 q0, stay hX3 q1⟩
set_option maxHeartbeats 1000000 in
set_option maxRecDepth 100000 in
theorem insertT1 (g c : Nat) (w : World) : Calls Tryz.prog 72 #[.slice (some ⟨g, 0, none⟩) 1 c, .int .i64 0, .int .i64 1] w fun e w' => e = .returned (.tuple #[]) ∧ w' = w := by
  go_enter Tryz.func72, Tryz.ntmps72
  go_wp2_with fail
  refine wp_loop_rounds 1 ?_
  rw [rounds_succ]
  go_wp2_with fail
  go_end0
  exact ⟨rfl, rfl⟩
set_option maxHeartbeats 1000000 in
set_option maxRecDepth 100000 in
theorem pdqT1 (g c : Nat) (w : World)  (z : Int) : Calls Tryz.prog 47 #[.slice (some ⟨g, 0, none⟩) 1 c, .int .i64 0, .int .i64 1, .int .i64 z] w fun e w' => e = .returned (.tuple #[]) ∧ w' = w := by
  have hi := hid_of (insertT1 g c w)
  go_enter Tryz.func47, Tryz.ntmps47
  go_wp2_with fail
  refine wp_loop_rounds 1 ?_
  rw [rounds_succ]
  go_wp2_with fail
  refine hi.out.mono ?_
  rintro e X1 ⟨rfl, hq⟩
  replace hq := hid_of hq
  clear hi
  go_wp2_with fail
  ((try simp only [Exit.inBlock, Exit.then]); refine bodyPost_ret (results_none rfl _ _ _) rfl ?_)
  exact ⟨rfl, hq.out⟩
set_option maxHeartbeats 1000000 in
set_option maxRecDepth 100000 in
theorem sortT1 (g c : Nat) (w : World)  : Calls Tryz.prog 23 #[.slice (some ⟨g, 0, none⟩) 1 c] w fun e w' => e = .returned (.tuple #[]) ∧ w' = w := by
  have hi := fun z => hid_of (pdqT1 g c w  z)
  go_enter Tryz.func23, Tryz.ntmps23
  go_wp2_with fail
  refine (blen 1 (by omega) w).mono ?_
  rintro e X1 ⟨z, rfl, hX⟩
  have hX := hX.symm; subst hX
  go_wp2_with fail
  refine (hi z).out.mono ?_
  rintro e X1 ⟨rfl, hq⟩
  replace hq := hid_of hq
  clear hi
  go_wp2_with fail
  go_end0
  exact ⟨rfl, hq.out⟩
set_option maxHeartbeats 1000000 in
set_option maxRecDepth 100000 in
theorem pdqT2 (g c : Nat) (w : World) (h : Txt2 w g ⟨#[98]⟩ ⟨#[97]⟩) (z : Int) : Calls Tryz.prog 47 #[.slice (some ⟨g, 0, none⟩) 2 c, .int .i64 0, .int .i64 2, .int .i64 z] w fun e w' => e = .returned (.tuple #[]) ∧ w.grownBy w' (some g) ∧ w'.cell? ⟨g, 0, none⟩ = some (.string ⟨#[97]⟩) ∧ w'.cell? ⟨g, 1, none⟩ = some (.string ⟨#[98]⟩) := by
  have hi := hid_of (insertT2 g c w h)
  go_enter Tryz.func47, Tryz.ntmps47
  go_wp2_with fail
  refine wp_loop_rounds 1 ?_
  rw [rounds_succ]
  go_wp2_with fail
  refine hi.out.mono ?_
  rintro e X1 ⟨rfl, hq⟩
  replace hq := hid_of hq
  clear hi
  go_wp2_with fail
  ((try simp only [Exit.inBlock, Exit.then]); refine bodyPost_ret (results_none rfl _ _ _) rfl ?_)
  exact ⟨rfl, hq.out⟩
set_option maxHeartbeats 1000000 in
set_option maxRecDepth 100000 in
theorem sortT2 (g c : Nat) (w : World) (h : Txt2 w g ⟨#[98]⟩ ⟨#[97]⟩) : Calls Tryz.prog 23 #[.slice (some ⟨g, 0, none⟩) 2 c] w fun e w' => e = .returned (.tuple #[]) ∧ w.grownBy w' (some g) ∧ w'.cell? ⟨g, 0, none⟩ = some (.string ⟨#[97]⟩) ∧ w'.cell? ⟨g, 1, none⟩ = some (.string ⟨#[98]⟩) := by
  have hi := fun z => hid_of (pdqT2 g c w h z)
  go_enter Tryz.func23, Tryz.ntmps23
  go_wp2_with fail
  refine (blen 2 (by omega) w).mono ?_
  rintro e X1 ⟨z, rfl, hX⟩
  have hX := hX.symm; subst hX
  go_wp2_with fail
  refine (hi z).out.mono ?_
  rintro e X1 ⟨rfl, hq⟩
  replace hq := hid_of hq
  clear hi
  go_wp2_with fail
  go_end0
  exact ⟨rfl, hq.out⟩
set_option maxHeartbeats 1000000 in
theorem compactT1 (g c : Nat) (w : World) : Calls Tryz.prog 46 #[.slice (some ⟨g, 0, none⟩) 1 c] w fun e w' => e = .returned (.slice (some ⟨g, 0, none⟩) 1 c) ∧ Below w.heap.size w w' := by
  go_enter Tryz.func46, Tryz.ntmps46
  go_wp2_with fail
  go_ret
  exact ⟨rfl, Below.refl _ _⟩
set_option maxHeartbeats 2000000 in
set_option maxRecDepth 100000 in
theorem compactT2 (g c : Nat) (w : World) (c0 : w.cell? ⟨g, 0, none⟩ = some (.string ⟨#[97]⟩)) (c1 : w.cell? ⟨g, 1, none⟩ = some (.string ⟨#[98]⟩)) : Calls Tryz.prog 46 #[.slice (some ⟨g, 0, none⟩) 2 c] w fun e w' => e = .returned (.slice (some ⟨g, 0, none⟩) 2 c) ∧ Below w.heap.size w w' := by
  have HB := hid_of (below_drew (Below.refl w.heap.size w))
  go_enter Tryz.func46, Tryz.ntmps46
  go_wp2_with fail
  refine wp_loop_rounds 2 ?_
  rw [rounds_succ]
  go_wp2_with fail
  go_region
  go_wp2_with fail
  rw [rounds_succ]
  go_wp2_with fail
  go_ret
  exact ⟨rfl, HB.out⟩
set_option maxHeartbeats 2000000 in
set_option maxRecDepth 100000 in
theorem texts1 (g c h d : Nat) (x : ByteArray) (w : World) (c0 : w.cell? ⟨g, 0, none⟩ = some (.string x)) (d0 : w.cell? ⟨h, 0, none⟩ = some (.string x)) : Calls Tryz.prog 26 #[.slice (some ⟨g, 0, none⟩) 1 c, .slice (some ⟨h, 0, none⟩) 1 d] w fun e w' => e = .returned (.bool true) ∧ Below w.heap.size w w' := by
  have HB := hid_of (below_drew (Below.refl w.heap.size w))
  go_enter Tryz.func26, Tryz.ntmps26
  go_wp2_with fail
  refine wp_loop_rounds 2 ?_
  rw [rounds_succ]
  go_wp2_with fail
  go_region
  go_wp2_with fail
  rw [rounds_succ]
  go_wp2_with fail
  go_ret
  exact ⟨rfl, HB.out⟩
set_option maxHeartbeats 2000000 in
set_option maxRecDepth 100000 in
theorem texts2 (g c h d : Nat) (x y : ByteArray) (w : World) (c0 : w.cell? ⟨g, 0, none⟩ = some (.string x)) (c1 : w.cell? ⟨g, 1, none⟩ = some (.string y)) (d0 : w.cell? ⟨h, 0, none⟩ = some (.string x)) (d1 : w.cell? ⟨h, 1, none⟩ = some (.string y)) : Calls Tryz.prog 26 #[.slice (some ⟨g, 0, none⟩) 2 c, .slice (some ⟨h, 0, none⟩) 2 d] w fun e w' => e = .returned (.bool true) ∧ Below w.heap.size w w' := by
  have HB := hid_of (below_drew (below_drew (Below.refl w.heap.size w)))
  go_enter Tryz.func26, Tryz.ntmps26
  go_wp2_with fail
  refine wp_loop_rounds 3 ?_
  rw [rounds_succ]
  go_wp2_with fail
  go_region
  go_wp2_with fail
  rw [rounds_succ]
  go_wp2_with fail
  go_region
  go_wp2_with fail
  rw [rounds_succ]
  go_wp2_with fail
  go_ret
  exact ⟨rfl, HB.out⟩
end Go.Proofs.YtdghkmgkmfnjjaaGreatDoor
