import Derived.Test.YteojoaceecncnaaCC
import Derived.Deep.RegionHeld3
import Derived.BigRegion
/-! cursor: three numbers that a sort turns round. -/
namespace Go.Proofs.Yteojoaceecncnaa
open Go Go.RowKit

/-- Three numbers in a block of their own. -/
def Row3 (w : World) (b : Nat) (x0 x1 x2 : Int) : Prop := w.heap[b]? = some (.cells #[.int .i64 x0, .int .i64 x1, .int .i64 x2] 3 (0, 0))
theorem Row3.cells {w : World} {b : Nat} {x0 x1 x2 : Int} (h : Row3 w b x0 x1 x2) : w.cell? ⟨b, 0, none⟩ = some (.int .i64 x0) ∧ w.cell? ⟨b, 1, none⟩ = some (.int .i64 x1) ∧ w.cell? ⟨b, 2, none⟩ = some (.int .i64 x2) ∧ w.frozen? ⟨b, 0, none⟩ = false ∧ w.frozen? ⟨b, 1, none⟩ = false ∧ w.frozen? ⟨b, 2, none⟩ = false := by
  unfold Row3 at h
  simp [World.cell?, World.frozen?, h]
theorem Row3.keep {w w' : World} {b : Nat} {x0 x1 x2 : Int} (h : Row3 w b x0 x1 x2) (hb : Below w.heap.size w w') : Row3 w' b x0 x1 x2 := (hb.block _ (Array.getElem?_eq_some_iff.1 h).1).trans h
theorem Row3.set21 {w : World} {b : Nat} {x0 x1 x2 : Int} (h : Row3 w b x0 x1 x2) (y z : Int) : Row3 ((w.setCell ⟨b, 2, none⟩ (.int .i64 y)).setCell ⟨b, 1, none⟩ (.int .i64 z)).drew b x0 z y := by
  unfold Row3 at *
  simp [World.setCell, World.drew, Array.getElem?_modify, h]
theorem Row3.set10 {w : World} {b : Nat} {x0 x1 x2 : Int} (h : Row3 w b x0 x1 x2) (y z : Int) : Row3 ((w.setCell ⟨b, 1, none⟩ (.int .i64 y)).setCell ⟨b, 0, none⟩ (.int .i64 z)).drew b z y x2 := by
  unfold Row3 at *
  simp [World.setCell, World.drew, Array.getElem?_modify, h]
/-- All is as it was but for the block b. -/
def Oth (b : Nat) (w w' : World) : Prop := w.grownBy w' (some b)
theorem Oth.refl (b : Nat) (w : World) : Oth b w w := ⟨rfl, rfl, rfl, Nat.le_refl _, fun _ _ _ => rfl⟩
theorem Oth.trans {b : Nat} {x y z : World} (h : Oth b x y) (k : Oth b y z) : Oth b x z := ⟨k.os.trans h.os, k.tape.trans h.tape, k.output.trans h.output, Nat.le_trans h.size k.size, fun j hj hne => (k.block j (Nat.lt_of_lt_of_le hj h.size) hne).trans (h.block j hj hne)⟩
theorem Oth.of_below {b : Nat} {x y : World} (h : Below x.heap.size x y) : Oth b x y := ⟨h.os, h.tape, h.output, h.size, fun k hk _ => h.block k hk⟩
theorem Oth.set {b : Nat} {x y : World} (h : Oth b x y) (i : Nat) (v : Value) : Oth b x (y.setCell ⟨b, i, none⟩ v) := h.trans ⟨rfl, rfl, rfl, by simp, fun k _ hk => Below.heap_setCell _ _ _ _ (fun e => hk (by rw [e]))⟩
theorem Oth.drew {b : Nat} {x y : World} (h : Oth b x y) : Oth b x y.drew := ⟨h.os, h.tape, h.output, h.size, h.block⟩
theorem Oth.cell {b : Nat} {x y : World} (h : Oth b x y) {p : Addr} {v : Value} (hc : x.cell? p = some v) (hp : p.block ≠ b) : y.cell? p = some v := (World.cell?_of_block (h.block _ (lt_of_cell hc) (fun e => hp (by cases e; rfl)))).trans hc
/-- What the comparison answers of three numbers. -/
def Cmp3 (pb : Nat) (zba zca zcb : Int) (W : World) : Prop :=
  (Calls Try.prog 29 #[.slice (some ⟨pb, 0, none⟩) 3 3, .int .i64 1, .int .i64 0] W fun e w' => e = .returned (.int .i64 zba) ∧ Below W.heap.size W w') ∧
  (Calls Try.prog 29 #[.slice (some ⟨pb, 0, none⟩) 3 3, .int .i64 2, .int .i64 0] W fun e w' => e = .returned (.int .i64 zca) ∧ Below W.heap.size W w') ∧
  (Calls Try.prog 29 #[.slice (some ⟨pb, 0, none⟩) 3 3, .int .i64 2, .int .i64 1] W fun e w' => e = .returned (.int .i64 zcb) ∧ Below W.heap.size W w')
set_option maxHeartbeats 8000000 in
set_option maxRecDepth 100000 in
theorem insert3 (rb pb : Nat) (zba zca zcb : Int) (w : World) (hzba : decide (zba < 0) = true) (hzca : decide (zca < 0) = true) (hzcb : decide (zcb < 0) = true) (hR : Row3 w rb 0 1 2)
    (hc : ∀ W, Oth rb w W → Cmp3 pb zba zca zcb W) :
    Calls Try.prog 51 #[.slice (some ⟨rb, 0, none⟩) 3 3, .int .i64 0, .int .i64 3, .func (.func 29) #[.slice (some ⟨pb, 0, none⟩) 3 3] #[]] w fun e w' => e = .returned (.tuple #[]) ∧ Oth rb w w' ∧ Row3 w' rb 2 1 0 := by
  have hO := hid_of (Oth.refl rb w)
  replace hR := hid_of hR
  replace hc := hid_of hc
  go_enter Try.func51, Try.ntmps51
  go_wp2_with fail
  refine wp_loop_rounds 3 ?_
  rw [rounds_succ]
  go_wp2_with fail
  refine wp_loop_rounds 2 ?_
  rw [rounds_succ]
  go_wp2_with fail
  obtain ⟨r0, r1, r2, g0, g1, g2⟩ := hR.out.cells
  refine wp_region_quiet (C := fun w' => Below w.heap.size w w') (by kernel_rfl) (by kernel_rfl) (below_drewN (Below.refl _ _) 1) ?_
  with_reducible refine wpQuiet_step (fun K hK => ?_)
  refine ⟨.int .i64 1, fun w' hw' => ?_, ?_⟩
  · first | (go_simp; done) | (go_simp; decide) | (go_simp; omega)
  with_reducible refine hK _ ?_
  clear hK K
  simp only [Act.put, List.setIfInBounds_toArray, List.set_cons_zero, List.set_cons_succ]
  with_reducible refine wpQuiet_step (fun K hK => ?_)
  refine ⟨.int .i64 0, fun w' hw' => ?_, ?_⟩
  · first | (go_simp; done) | (go_simp; decide) | (go_simp; omega)
  with_reducible refine hK _ ?_
  clear hK K
  simp only [Act.put, List.setIfInBounds_toArray, List.set_cons_zero, List.set_cons_succ]
  with_reducible refine wpQuiet_step (fun K hK => ?_)
  refine ⟨.bool true, fun w' hw' => ?_, ?_⟩
  · first | (go_simp; done) | (go_simp; decide) | (go_simp; omega)
  with_reducible refine hK _ ?_
  clear hK K
  simp only [Act.put, List.setIfInBounds_toArray, List.set_cons_zero, List.set_cons_succ]
  with_reducible refine wpQuiet_step (fun K hK => ?_)
  refine ⟨.bool true, fun w' hw' => ?_, ?_⟩
  · first | (go_simp; done) | (go_simp; decide) | (go_simp; omega)
  with_reducible refine hK _ ?_
  clear hK K
  simp only [Act.put, List.setIfInBounds_toArray, List.set_cons_zero, List.set_cons_succ]
  with_reducible refine wpQuiet_step (fun K hK => ?_)
  refine k_quiet_if (by kernel_rfl) ?_
  refine ⟨.func (.func 29) #[.slice (some ⟨pb, 0, none⟩) 3 3] #[], fun w' hw' => ?_, ?_⟩
  · first | (go_simp; done) | (go_simp; decide) | (go_simp; omega)
  with_reducible refine hK _ ?_
  clear hK K
  simp only [Act.put, List.setIfInBounds_toArray, List.set_cons_zero, List.set_cons_succ]
  with_reducible refine wpQuiet_step (fun K hK => ?_)
  refine k_quiet_if (by kernel_rfl) ?_
  refine ⟨.slice (some ⟨rb, 0, none⟩) 3 3, fun w' hw' => ?_, ?_⟩
  · first | (go_simp; done) | (go_simp; decide) | (go_simp; omega)
  with_reducible refine hK _ ?_
  clear hK K
  simp only [Act.put, List.setIfInBounds_toArray, List.set_cons_zero, List.set_cons_succ]
  with_reducible refine wpQuiet_step (fun K hK => ?_)
  refine k_quiet_if (by kernel_rfl) ?_
  refine ⟨.int .i64 1, fun w' hw' => ?_, ?_⟩
  · first | (go_simp; done) | (go_simp; decide) | (go_simp; omega)
  with_reducible refine hK _ ?_
  clear hK K
  simp only [Act.put, List.setIfInBounds_toArray, List.set_cons_zero, List.set_cons_succ]
  with_reducible refine wpQuiet_step (fun K hK => ?_)
  refine k_quiet_if (by kernel_rfl) ?_
  refine ⟨.pointer (some ⟨rb, 1, none⟩), fun w' hw' => ?_, ?_⟩
  · first | (go_simp; done) | (go_simp; decide) | (go_simp; omega)
  with_reducible refine hK _ ?_
  clear hK K
  simp only [Act.put, List.setIfInBounds_toArray, List.set_cons_zero, List.set_cons_succ]
  with_reducible refine wpQuiet_step (fun K hK => ?_)
  refine k_quiet_if (by kernel_rfl) ?_
  refine ⟨.int .i64 1, fun w' hw' => ?_, ?_⟩
  · have t0 := stay hw' r1; go_simp
  with_reducible refine hK _ ?_
  clear hK K
  simp only [Act.put, List.setIfInBounds_toArray, List.set_cons_zero, List.set_cons_succ]
  with_reducible refine wpQuiet_step (fun K hK => ?_)
  refine k_quiet_if (by kernel_rfl) ?_
  refine ⟨.slice (some ⟨rb, 0, none⟩) 3 3, fun w' hw' => ?_, ?_⟩
  · first | (go_simp; done) | (go_simp; decide) | (go_simp; omega)
  with_reducible refine hK _ ?_
  clear hK K
  simp only [Act.put, List.setIfInBounds_toArray, List.set_cons_zero, List.set_cons_succ]
  with_reducible refine wpQuiet_step (fun K hK => ?_)
  refine k_quiet_if (by kernel_rfl) ?_
  refine ⟨.int .i64 1, fun w' hw' => ?_, ?_⟩
  · first | (go_simp; done) | (go_simp; decide) | (go_simp; omega)
  with_reducible refine hK _ ?_
  clear hK K
  simp only [Act.put, List.setIfInBounds_toArray, List.set_cons_zero, List.set_cons_succ]
  with_reducible refine wpQuiet_step (fun K hK => ?_)
  refine k_quiet_if (by kernel_rfl) ?_
  refine ⟨.int .i64 0, fun w' hw' => ?_, ?_⟩
  · first | (go_simp; done) | (go_simp; decide) | (go_simp; omega)
  with_reducible refine hK _ ?_
  clear hK K
  simp only [Act.put, List.setIfInBounds_toArray, List.set_cons_zero, List.set_cons_succ]
  with_reducible refine wpQuiet_step (fun K hK => ?_)
  refine k_quiet_if (by kernel_rfl) ?_
  refine ⟨.pointer (some ⟨rb, 0, none⟩), fun w' hw' => ?_, ?_⟩
  · first | (go_simp; done) | (go_simp; decide) | (go_simp; omega)
  with_reducible refine hK _ ?_
  clear hK K
  simp only [Act.put, List.setIfInBounds_toArray, List.set_cons_zero, List.set_cons_succ]
  with_reducible refine wpQuiet_step (fun K hK => ?_)
  refine k_quiet_if (by kernel_rfl) ?_
  refine ⟨.int .i64 0, fun w' hw' => ?_, ?_⟩
  · have t0 := stay hw' r0; go_simp
  with_reducible refine hK _ ?_
  clear hK K
  simp only [Act.put, List.setIfInBounds_toArray, List.set_cons_zero, List.set_cons_succ]
  with_reducible refine wpQuiet_step (fun K hK => ?_)
  refine k_quiet_if (by kernel_rfl) ?_
  refine ⟨.int .i64 zba, fun w' hw' => ?_, ?_⟩
  · go_simp
    refine ((hc.out w' (hO.out.trans (.of_below hw'))).1).mono ?_
    rintro e w'' ⟨rfl, hb'⟩
    exact ⟨rfl, hw'.trans (hb'.mono hw'.size)⟩
  with_reducible refine hK _ ?_
  clear hK K
  simp only [Act.put, List.setIfInBounds_toArray, List.set_cons_zero, List.set_cons_succ]
  with_reducible refine wpQuiet_step (fun K hK => ?_)
  refine k_quiet_if (by kernel_rfl) ?_
  refine ⟨.bool true, fun w' hw' => ?_, ?_⟩
  · first | (go_simp; done) | (go_simp; decide) | (go_simp; omega)
  with_reducible refine hK _ ?_
  clear hK K
  simp only [Act.put, List.setIfInBounds_toArray, List.set_cons_zero, List.set_cons_succ]
  with_reducible refine wpQuiet_step (fun K hK => ?_)
  refine ⟨.bool true, fun w' hw' => ?_, ?_⟩
  · first | (go_simp; done) | (go_simp; decide) | (go_simp; omega)
  with_reducible refine hK _ ?_
  clear hK K
  simp only [Act.put, List.setIfInBounds_toArray, List.set_cons_zero, List.set_cons_succ]
  refine wpQuiet_nil ?_
  intro X1 hX1
  clear r0 r1 r2 g0 g1 g2
  obtain ⟨r0, r1, r2, g0, g1, g2⟩ := (hR.out.keep hX1).cells
  replace hO := hid_of (hO.out.trans (.of_below hX1))
  have hR2 := hid_of ((hR.out.keep hX1).set10 0 1)
  clear hR hX1
  go_wp2_with fail
  go_region
  replace hO := hid_of ((hO.out.set 1 (.int .i64 0)).set 0 (.int .i64 1)).drew
  clear r0 r1 r2 g0 g1 g2
  generalize ((X1.setCell ⟨rb, 1, none⟩ (.int .i64 0)).setCell ⟨rb, 0, none⟩ (.int .i64 1)).drew = X2 at hO hR2 ⊢
  have hR := hR2
  clear hR2
  go_wp2_with fail
  rw [rounds_succ]
  go_wp2_with fail
  refine wp_region_quiet (C := fun w' => Below X2.heap.size X2 w') (by kernel_rfl) (by kernel_rfl) (below_drewN (Below.refl _ _) 1) ?_
  with_reducible refine wpQuiet_step (fun K hK => ?_)
  refine ⟨.int .i64 0, fun w' hw' => ?_, ?_⟩
  · first | (go_simp; done) | (go_simp; decide) | (go_simp; omega)
  with_reducible refine hK _ ?_
  clear hK K
  simp only [Act.put, List.setIfInBounds_toArray, List.set_cons_zero, List.set_cons_succ]
  with_reducible refine wpQuiet_step (fun K hK => ?_)
  refine ⟨.int .i64 0, fun w' hw' => ?_, ?_⟩
  · first | (go_simp; done) | (go_simp; decide) | (go_simp; omega)
  with_reducible refine hK _ ?_
  clear hK K
  simp only [Act.put, List.setIfInBounds_toArray, List.set_cons_zero, List.set_cons_succ]
  with_reducible refine wpQuiet_step (fun K hK => ?_)
  refine ⟨.bool false, fun w' hw' => ?_, ?_⟩
  · first | (go_simp; done) | (go_simp; decide) | (go_simp; omega)
  with_reducible refine hK _ ?_
  clear hK K
  simp only [Act.put, List.setIfInBounds_toArray, List.set_cons_zero, List.set_cons_succ]
  with_reducible refine wpQuiet_step (fun K hK => ?_)
  refine ⟨.bool false, fun w' hw' => ?_, ?_⟩
  · first | (go_simp; done) | (go_simp; decide) | (go_simp; omega)
  with_reducible refine hK _ ?_
  clear hK K
  simp only [Act.put, List.setIfInBounds_toArray, List.set_cons_zero, List.set_cons_succ]
  with_reducible refine wpQuiet_step (fun K hK => ?_)
  refine k_quiet_else (by kernel_rfl) ?_
  with_reducible refine hK _ ?_
  clear hK K
  simp only [Act.put, List.setIfInBounds_toArray, List.set_cons_zero, List.set_cons_succ]
  with_reducible refine wpQuiet_step (fun K hK => ?_)
  refine k_quiet_else (by kernel_rfl) ?_
  with_reducible refine hK _ ?_
  clear hK K
  simp only [Act.put, List.setIfInBounds_toArray, List.set_cons_zero, List.set_cons_succ]
  with_reducible refine wpQuiet_step (fun K hK => ?_)
  refine k_quiet_else (by kernel_rfl) ?_
  with_reducible refine hK _ ?_
  clear hK K
  simp only [Act.put, List.setIfInBounds_toArray, List.set_cons_zero, List.set_cons_succ]
  with_reducible refine wpQuiet_step (fun K hK => ?_)
  refine k_quiet_else (by kernel_rfl) ?_
  with_reducible refine hK _ ?_
  clear hK K
  simp only [Act.put, List.setIfInBounds_toArray, List.set_cons_zero, List.set_cons_succ]
  with_reducible refine wpQuiet_step (fun K hK => ?_)
  refine k_quiet_else (by kernel_rfl) ?_
  with_reducible refine hK _ ?_
  clear hK K
  simp only [Act.put, List.setIfInBounds_toArray, List.set_cons_zero, List.set_cons_succ]
  with_reducible refine wpQuiet_step (fun K hK => ?_)
  refine k_quiet_else (by kernel_rfl) ?_
  with_reducible refine hK _ ?_
  clear hK K
  simp only [Act.put, List.setIfInBounds_toArray, List.set_cons_zero, List.set_cons_succ]
  with_reducible refine wpQuiet_step (fun K hK => ?_)
  refine k_quiet_else (by kernel_rfl) ?_
  with_reducible refine hK _ ?_
  clear hK K
  simp only [Act.put, List.setIfInBounds_toArray, List.set_cons_zero, List.set_cons_succ]
  with_reducible refine wpQuiet_step (fun K hK => ?_)
  refine k_quiet_else (by kernel_rfl) ?_
  with_reducible refine hK _ ?_
  clear hK K
  simp only [Act.put, List.setIfInBounds_toArray, List.set_cons_zero, List.set_cons_succ]
  with_reducible refine wpQuiet_step (fun K hK => ?_)
  refine k_quiet_else (by kernel_rfl) ?_
  with_reducible refine hK _ ?_
  clear hK K
  simp only [Act.put, List.setIfInBounds_toArray, List.set_cons_zero, List.set_cons_succ]
  with_reducible refine wpQuiet_step (fun K hK => ?_)
  refine k_quiet_else (by kernel_rfl) ?_
  with_reducible refine hK _ ?_
  clear hK K
  simp only [Act.put, List.setIfInBounds_toArray, List.set_cons_zero, List.set_cons_succ]
  with_reducible refine wpQuiet_step (fun K hK => ?_)
  refine k_quiet_else (by kernel_rfl) ?_
  with_reducible refine hK _ ?_
  clear hK K
  simp only [Act.put, List.setIfInBounds_toArray, List.set_cons_zero, List.set_cons_succ]
  with_reducible refine wpQuiet_step (fun K hK => ?_)
  refine k_quiet_else (by kernel_rfl) ?_
  with_reducible refine hK _ ?_
  clear hK K
  simp only [Act.put, List.setIfInBounds_toArray, List.set_cons_zero, List.set_cons_succ]
  with_reducible refine wpQuiet_step (fun K hK => ?_)
  refine ⟨.bool false, fun w' hw' => ?_, ?_⟩
  · first | (go_simp; done) | (go_simp; decide) | (go_simp; omega)
  with_reducible refine hK _ ?_
  clear hK K
  simp only [Act.put, List.setIfInBounds_toArray, List.set_cons_zero, List.set_cons_succ]
  refine wpQuiet_nil ?_
  intro X3 hX3
  replace hO := hid_of (hO.out.trans (.of_below hX3))
  replace hR := hid_of (hR.out.keep hX3)
  clear hX3
  go_wp2_with fail
  rw [rounds_succ]
  go_wp2_with fail
  refine wp_loop_rounds 3 ?_
  rw [rounds_succ]
  go_wp2_with fail
  obtain ⟨r0, r1, r2, g0, g1, g2⟩ := hR.out.cells
  refine wp_region_quiet (C := fun w' => Below X3.heap.size X3 w') (by kernel_rfl) (by kernel_rfl) (below_drewN (Below.refl _ _) 1) ?_
  with_reducible refine wpQuiet_step (fun K hK => ?_)
  refine ⟨.int .i64 2, fun w' hw' => ?_, ?_⟩
  · first | (go_simp; done) | (go_simp; decide) | (go_simp; omega)
  with_reducible refine hK _ ?_
  clear hK K
  simp only [Act.put, List.setIfInBounds_toArray, List.set_cons_zero, List.set_cons_succ]
  with_reducible refine wpQuiet_step (fun K hK => ?_)
  refine ⟨.int .i64 0, fun w' hw' => ?_, ?_⟩
  · first | (go_simp; done) | (go_simp; decide) | (go_simp; omega)
  with_reducible refine hK _ ?_
  clear hK K
  simp only [Act.put, List.setIfInBounds_toArray, List.set_cons_zero, List.set_cons_succ]
  with_reducible refine wpQuiet_step (fun K hK => ?_)
  refine ⟨.bool true, fun w' hw' => ?_, ?_⟩
  · first | (go_simp; done) | (go_simp; decide) | (go_simp; omega)
  with_reducible refine hK _ ?_
  clear hK K
  simp only [Act.put, List.setIfInBounds_toArray, List.set_cons_zero, List.set_cons_succ]
  with_reducible refine wpQuiet_step (fun K hK => ?_)
  refine ⟨.bool true, fun w' hw' => ?_, ?_⟩
  · first | (go_simp; done) | (go_simp; decide) | (go_simp; omega)
  with_reducible refine hK _ ?_
  clear hK K
  simp only [Act.put, List.setIfInBounds_toArray, List.set_cons_zero, List.set_cons_succ]
  with_reducible refine wpQuiet_step (fun K hK => ?_)
  refine k_quiet_if (by kernel_rfl) ?_
  refine ⟨.func (.func 29) #[.slice (some ⟨pb, 0, none⟩) 3 3] #[], fun w' hw' => ?_, ?_⟩
  · first | (go_simp; done) | (go_simp; decide) | (go_simp; omega)
  with_reducible refine hK _ ?_
  clear hK K
  simp only [Act.put, List.setIfInBounds_toArray, List.set_cons_zero, List.set_cons_succ]
  with_reducible refine wpQuiet_step (fun K hK => ?_)
  refine k_quiet_if (by kernel_rfl) ?_
  refine ⟨.slice (some ⟨rb, 0, none⟩) 3 3, fun w' hw' => ?_, ?_⟩
  · first | (go_simp; done) | (go_simp; decide) | (go_simp; omega)
  with_reducible refine hK _ ?_
  clear hK K
  simp only [Act.put, List.setIfInBounds_toArray, List.set_cons_zero, List.set_cons_succ]
  with_reducible refine wpQuiet_step (fun K hK => ?_)
  refine k_quiet_if (by kernel_rfl) ?_
  refine ⟨.int .i64 2, fun w' hw' => ?_, ?_⟩
  · first | (go_simp; done) | (go_simp; decide) | (go_simp; omega)
  with_reducible refine hK _ ?_
  clear hK K
  simp only [Act.put, List.setIfInBounds_toArray, List.set_cons_zero, List.set_cons_succ]
  with_reducible refine wpQuiet_step (fun K hK => ?_)
  refine k_quiet_if (by kernel_rfl) ?_
  refine ⟨.pointer (some ⟨rb, 2, none⟩), fun w' hw' => ?_, ?_⟩
  · first | (go_simp; done) | (go_simp; decide) | (go_simp; omega)
  with_reducible refine hK _ ?_
  clear hK K
  simp only [Act.put, List.setIfInBounds_toArray, List.set_cons_zero, List.set_cons_succ]
  with_reducible refine wpQuiet_step (fun K hK => ?_)
  refine k_quiet_if (by kernel_rfl) ?_
  refine ⟨.int .i64 2, fun w' hw' => ?_, ?_⟩
  · have t0 := stay hw' r2; go_simp
  with_reducible refine hK _ ?_
  clear hK K
  simp only [Act.put, List.setIfInBounds_toArray, List.set_cons_zero, List.set_cons_succ]
  with_reducible refine wpQuiet_step (fun K hK => ?_)
  refine k_quiet_if (by kernel_rfl) ?_
  refine ⟨.slice (some ⟨rb, 0, none⟩) 3 3, fun w' hw' => ?_, ?_⟩
  · first | (go_simp; done) | (go_simp; decide) | (go_simp; omega)
  with_reducible refine hK _ ?_
  clear hK K
  simp only [Act.put, List.setIfInBounds_toArray, List.set_cons_zero, List.set_cons_succ]
  with_reducible refine wpQuiet_step (fun K hK => ?_)
  refine k_quiet_if (by kernel_rfl) ?_
  refine ⟨.int .i64 2, fun w' hw' => ?_, ?_⟩
  · first | (go_simp; done) | (go_simp; decide) | (go_simp; omega)
  with_reducible refine hK _ ?_
  clear hK K
  simp only [Act.put, List.setIfInBounds_toArray, List.set_cons_zero, List.set_cons_succ]
  with_reducible refine wpQuiet_step (fun K hK => ?_)
  refine k_quiet_if (by kernel_rfl) ?_
  refine ⟨.int .i64 1, fun w' hw' => ?_, ?_⟩
  · first | (go_simp; done) | (go_simp; decide) | (go_simp; omega)
  with_reducible refine hK _ ?_
  clear hK K
  simp only [Act.put, List.setIfInBounds_toArray, List.set_cons_zero, List.set_cons_succ]
  with_reducible refine wpQuiet_step (fun K hK => ?_)
  refine k_quiet_if (by kernel_rfl) ?_
  refine ⟨.pointer (some ⟨rb, 1, none⟩), fun w' hw' => ?_, ?_⟩
  · first | (go_simp; done) | (go_simp; decide) | (go_simp; omega)
  with_reducible refine hK _ ?_
  clear hK K
  simp only [Act.put, List.setIfInBounds_toArray, List.set_cons_zero, List.set_cons_succ]
  with_reducible refine wpQuiet_step (fun K hK => ?_)
  refine k_quiet_if (by kernel_rfl) ?_
  refine ⟨.int .i64 0, fun w' hw' => ?_, ?_⟩
  · have t0 := stay hw' r1; go_simp
  with_reducible refine hK _ ?_
  clear hK K
  simp only [Act.put, List.setIfInBounds_toArray, List.set_cons_zero, List.set_cons_succ]
  with_reducible refine wpQuiet_step (fun K hK => ?_)
  refine k_quiet_if (by kernel_rfl) ?_
  refine ⟨.int .i64 zca, fun w' hw' => ?_, ?_⟩
  · go_simp
    refine ((hc.out w' (hO.out.trans (.of_below hw'))).2.1).mono ?_
    rintro e w'' ⟨rfl, hb'⟩
    exact ⟨rfl, hw'.trans (hb'.mono hw'.size)⟩
  with_reducible refine hK _ ?_
  clear hK K
  simp only [Act.put, List.setIfInBounds_toArray, List.set_cons_zero, List.set_cons_succ]
  with_reducible refine wpQuiet_step (fun K hK => ?_)
  refine k_quiet_if (by kernel_rfl) ?_
  refine ⟨.bool true, fun w' hw' => ?_, ?_⟩
  · first | (go_simp; done) | (go_simp; decide) | (go_simp; omega)
  with_reducible refine hK _ ?_
  clear hK K
  simp only [Act.put, List.setIfInBounds_toArray, List.set_cons_zero, List.set_cons_succ]
  with_reducible refine wpQuiet_step (fun K hK => ?_)
  refine ⟨.bool true, fun w' hw' => ?_, ?_⟩
  · first | (go_simp; done) | (go_simp; decide) | (go_simp; omega)
  with_reducible refine hK _ ?_
  clear hK K
  simp only [Act.put, List.setIfInBounds_toArray, List.set_cons_zero, List.set_cons_succ]
  refine wpQuiet_nil ?_
  intro X4 hX4
  clear r0 r1 r2 g0 g1 g2
  obtain ⟨r0, r1, r2, g0, g1, g2⟩ := (hR.out.keep hX4).cells
  replace hO := hid_of (hO.out.trans (.of_below hX4))
  have hR2 := hid_of ((hR.out.keep hX4).set21 0 2)
  clear hR hX4
  go_wp2_with fail
  go_region
  replace hO := hid_of ((hO.out.set 2 (.int .i64 0)).set 1 (.int .i64 2)).drew
  clear r0 r1 r2 g0 g1 g2
  generalize ((X4.setCell ⟨rb, 2, none⟩ (.int .i64 0)).setCell ⟨rb, 1, none⟩ (.int .i64 2)).drew = X5 at hO hR2 ⊢
  have hR := hR2
  clear hR2
  go_wp2_with fail
  rw [rounds_succ]
  go_wp2_with fail
  obtain ⟨r0, r1, r2, g0, g1, g2⟩ := hR.out.cells
  refine wp_region_quiet (C := fun w' => Below X5.heap.size X5 w') (by kernel_rfl) (by kernel_rfl) (below_drewN (Below.refl _ _) 1) ?_
  with_reducible refine wpQuiet_step (fun K hK => ?_)
  refine ⟨.int .i64 1, fun w' hw' => ?_, ?_⟩
  · first | (go_simp; done) | (go_simp; decide) | (go_simp; omega)
  with_reducible refine hK _ ?_
  clear hK K
  simp only [Act.put, List.setIfInBounds_toArray, List.set_cons_zero, List.set_cons_succ]
  with_reducible refine wpQuiet_step (fun K hK => ?_)
  refine ⟨.int .i64 0, fun w' hw' => ?_, ?_⟩
  · first | (go_simp; done) | (go_simp; decide) | (go_simp; omega)
  with_reducible refine hK _ ?_
  clear hK K
  simp only [Act.put, List.setIfInBounds_toArray, List.set_cons_zero, List.set_cons_succ]
  with_reducible refine wpQuiet_step (fun K hK => ?_)
  refine ⟨.bool true, fun w' hw' => ?_, ?_⟩
  · first | (go_simp; done) | (go_simp; decide) | (go_simp; omega)
  with_reducible refine hK _ ?_
  clear hK K
  simp only [Act.put, List.setIfInBounds_toArray, List.set_cons_zero, List.set_cons_succ]
  with_reducible refine wpQuiet_step (fun K hK => ?_)
  refine ⟨.bool true, fun w' hw' => ?_, ?_⟩
  · first | (go_simp; done) | (go_simp; decide) | (go_simp; omega)
  with_reducible refine hK _ ?_
  clear hK K
  simp only [Act.put, List.setIfInBounds_toArray, List.set_cons_zero, List.set_cons_succ]
  with_reducible refine wpQuiet_step (fun K hK => ?_)
  refine k_quiet_if (by kernel_rfl) ?_
  refine ⟨.func (.func 29) #[.slice (some ⟨pb, 0, none⟩) 3 3] #[], fun w' hw' => ?_, ?_⟩
  · first | (go_simp; done) | (go_simp; decide) | (go_simp; omega)
  with_reducible refine hK _ ?_
  clear hK K
  simp only [Act.put, List.setIfInBounds_toArray, List.set_cons_zero, List.set_cons_succ]
  with_reducible refine wpQuiet_step (fun K hK => ?_)
  refine k_quiet_if (by kernel_rfl) ?_
  refine ⟨.slice (some ⟨rb, 0, none⟩) 3 3, fun w' hw' => ?_, ?_⟩
  · first | (go_simp; done) | (go_simp; decide) | (go_simp; omega)
  with_reducible refine hK _ ?_
  clear hK K
  simp only [Act.put, List.setIfInBounds_toArray, List.set_cons_zero, List.set_cons_succ]
  with_reducible refine wpQuiet_step (fun K hK => ?_)
  refine k_quiet_if (by kernel_rfl) ?_
  refine ⟨.int .i64 1, fun w' hw' => ?_, ?_⟩
  · first | (go_simp; done) | (go_simp; decide) | (go_simp; omega)
  with_reducible refine hK _ ?_
  clear hK K
  simp only [Act.put, List.setIfInBounds_toArray, List.set_cons_zero, List.set_cons_succ]
  with_reducible refine wpQuiet_step (fun K hK => ?_)
  refine k_quiet_if (by kernel_rfl) ?_
  refine ⟨.pointer (some ⟨rb, 1, none⟩), fun w' hw' => ?_, ?_⟩
  · first | (go_simp; done) | (go_simp; decide) | (go_simp; omega)
  with_reducible refine hK _ ?_
  clear hK K
  simp only [Act.put, List.setIfInBounds_toArray, List.set_cons_zero, List.set_cons_succ]
  with_reducible refine wpQuiet_step (fun K hK => ?_)
  refine k_quiet_if (by kernel_rfl) ?_
  refine ⟨.int .i64 2, fun w' hw' => ?_, ?_⟩
  · have t0 := stay hw' r1; go_simp
  with_reducible refine hK _ ?_
  clear hK K
  simp only [Act.put, List.setIfInBounds_toArray, List.set_cons_zero, List.set_cons_succ]
  with_reducible refine wpQuiet_step (fun K hK => ?_)
  refine k_quiet_if (by kernel_rfl) ?_
  refine ⟨.slice (some ⟨rb, 0, none⟩) 3 3, fun w' hw' => ?_, ?_⟩
  · first | (go_simp; done) | (go_simp; decide) | (go_simp; omega)
  with_reducible refine hK _ ?_
  clear hK K
  simp only [Act.put, List.setIfInBounds_toArray, List.set_cons_zero, List.set_cons_succ]
  with_reducible refine wpQuiet_step (fun K hK => ?_)
  refine k_quiet_if (by kernel_rfl) ?_
  refine ⟨.int .i64 1, fun w' hw' => ?_, ?_⟩
  · first | (go_simp; done) | (go_simp; decide) | (go_simp; omega)
  with_reducible refine hK _ ?_
  clear hK K
  simp only [Act.put, List.setIfInBounds_toArray, List.set_cons_zero, List.set_cons_succ]
  with_reducible refine wpQuiet_step (fun K hK => ?_)
  refine k_quiet_if (by kernel_rfl) ?_
  refine ⟨.int .i64 0, fun w' hw' => ?_, ?_⟩
  · first | (go_simp; done) | (go_simp; decide) | (go_simp; omega)
  with_reducible refine hK _ ?_
  clear hK K
  simp only [Act.put, List.setIfInBounds_toArray, List.set_cons_zero, List.set_cons_succ]
  with_reducible refine wpQuiet_step (fun K hK => ?_)
  refine k_quiet_if (by kernel_rfl) ?_
  refine ⟨.pointer (some ⟨rb, 0, none⟩), fun w' hw' => ?_, ?_⟩
  · first | (go_simp; done) | (go_simp; decide) | (go_simp; omega)
  with_reducible refine hK _ ?_
  clear hK K
  simp only [Act.put, List.setIfInBounds_toArray, List.set_cons_zero, List.set_cons_succ]
  with_reducible refine wpQuiet_step (fun K hK => ?_)
  refine k_quiet_if (by kernel_rfl) ?_
  refine ⟨.int .i64 1, fun w' hw' => ?_, ?_⟩
  · have t0 := stay hw' r0; go_simp
  with_reducible refine hK _ ?_
  clear hK K
  simp only [Act.put, List.setIfInBounds_toArray, List.set_cons_zero, List.set_cons_succ]
  with_reducible refine wpQuiet_step (fun K hK => ?_)
  refine k_quiet_if (by kernel_rfl) ?_
  refine ⟨.int .i64 zcb, fun w' hw' => ?_, ?_⟩
  · go_simp
    refine ((hc.out w' (hO.out.trans (.of_below hw'))).2.2).mono ?_
    rintro e w'' ⟨rfl, hb'⟩
    exact ⟨rfl, hw'.trans (hb'.mono hw'.size)⟩
  with_reducible refine hK _ ?_
  clear hK K
  simp only [Act.put, List.setIfInBounds_toArray, List.set_cons_zero, List.set_cons_succ]
  with_reducible refine wpQuiet_step (fun K hK => ?_)
  refine k_quiet_if (by kernel_rfl) ?_
  refine ⟨.bool true, fun w' hw' => ?_, ?_⟩
  · first | (go_simp; done) | (go_simp; decide) | (go_simp; omega)
  with_reducible refine hK _ ?_
  clear hK K
  simp only [Act.put, List.setIfInBounds_toArray, List.set_cons_zero, List.set_cons_succ]
  with_reducible refine wpQuiet_step (fun K hK => ?_)
  refine ⟨.bool true, fun w' hw' => ?_, ?_⟩
  · first | (go_simp; done) | (go_simp; decide) | (go_simp; omega)
  with_reducible refine hK _ ?_
  clear hK K
  simp only [Act.put, List.setIfInBounds_toArray, List.set_cons_zero, List.set_cons_succ]
  refine wpQuiet_nil ?_
  intro X6 hX6
  clear r0 r1 r2 g0 g1 g2
  obtain ⟨r0, r1, r2, g0, g1, g2⟩ := (hR.out.keep hX6).cells
  replace hO := hid_of (hO.out.trans (.of_below hX6))
  have hR2 := hid_of ((hR.out.keep hX6).set10 1 2)
  clear hR hX6
  go_wp2_with fail
  go_region
  replace hO := hid_of ((hO.out.set 1 (.int .i64 1)).set 0 (.int .i64 2)).drew
  clear r0 r1 r2 g0 g1 g2
  generalize ((X6.setCell ⟨rb, 1, none⟩ (.int .i64 1)).setCell ⟨rb, 0, none⟩ (.int .i64 2)).drew = X7 at hO hR2 ⊢
  have hR := hR2
  clear hR2
  go_wp2_with fail
  rw [rounds_succ]
  go_wp2_with fail
  refine wp_region_quiet (C := fun w' => Below X7.heap.size X7 w') (by kernel_rfl) (by kernel_rfl) (below_drewN (Below.refl _ _) 1) ?_
  with_reducible refine wpQuiet_step (fun K hK => ?_)
  refine ⟨.int .i64 0, fun w' hw' => ?_, ?_⟩
  · first | (go_simp; done) | (go_simp; decide) | (go_simp; omega)
  with_reducible refine hK _ ?_
  clear hK K
  simp only [Act.put, List.setIfInBounds_toArray, List.set_cons_zero, List.set_cons_succ]
  with_reducible refine wpQuiet_step (fun K hK => ?_)
  refine ⟨.int .i64 0, fun w' hw' => ?_, ?_⟩
  · first | (go_simp; done) | (go_simp; decide) | (go_simp; omega)
  with_reducible refine hK _ ?_
  clear hK K
  simp only [Act.put, List.setIfInBounds_toArray, List.set_cons_zero, List.set_cons_succ]
  with_reducible refine wpQuiet_step (fun K hK => ?_)
  refine ⟨.bool false, fun w' hw' => ?_, ?_⟩
  · first | (go_simp; done) | (go_simp; decide) | (go_simp; omega)
  with_reducible refine hK _ ?_
  clear hK K
  simp only [Act.put, List.setIfInBounds_toArray, List.set_cons_zero, List.set_cons_succ]
  with_reducible refine wpQuiet_step (fun K hK => ?_)
  refine ⟨.bool false, fun w' hw' => ?_, ?_⟩
  · first | (go_simp; done) | (go_simp; decide) | (go_simp; omega)
  with_reducible refine hK _ ?_
  clear hK K
  simp only [Act.put, List.setIfInBounds_toArray, List.set_cons_zero, List.set_cons_succ]
  with_reducible refine wpQuiet_step (fun K hK => ?_)
  refine k_quiet_else (by kernel_rfl) ?_
  with_reducible refine hK _ ?_
  clear hK K
  simp only [Act.put, List.setIfInBounds_toArray, List.set_cons_zero, List.set_cons_succ]
  with_reducible refine wpQuiet_step (fun K hK => ?_)
  refine k_quiet_else (by kernel_rfl) ?_
  with_reducible refine hK _ ?_
  clear hK K
  simp only [Act.put, List.setIfInBounds_toArray, List.set_cons_zero, List.set_cons_succ]
  with_reducible refine wpQuiet_step (fun K hK => ?_)
  refine k_quiet_else (by kernel_rfl) ?_
  with_reducible refine hK _ ?_
  clear hK K
  simp only [Act.put, List.setIfInBounds_toArray, List.set_cons_zero, List.set_cons_succ]
  with_reducible refine wpQuiet_step (fun K hK => ?_)
  refine k_quiet_else (by kernel_rfl) ?_
  with_reducible refine hK _ ?_
  clear hK K
  simp only [Act.put, List.setIfInBounds_toArray, List.set_cons_zero, List.set_cons_succ]
  with_reducible refine wpQuiet_step (fun K hK => ?_)
  refine k_quiet_else (by kernel_rfl) ?_
  with_reducible refine hK _ ?_
  clear hK K
  simp only [Act.put, List.setIfInBounds_toArray, List.set_cons_zero, List.set_cons_succ]
  with_reducible refine wpQuiet_step (fun K hK => ?_)
  refine k_quiet_else (by kernel_rfl) ?_
  with_reducible refine hK _ ?_
  clear hK K
  simp only [Act.put, List.setIfInBounds_toArray, List.set_cons_zero, List.set_cons_succ]
  with_reducible refine wpQuiet_step (fun K hK => ?_)
  refine k_quiet_else (by kernel_rfl) ?_
  with_reducible refine hK _ ?_
  clear hK K
  simp only [Act.put, List.setIfInBounds_toArray, List.set_cons_zero, List.set_cons_succ]
  with_reducible refine wpQuiet_step (fun K hK => ?_)
  refine k_quiet_else (by kernel_rfl) ?_
  with_reducible refine hK _ ?_
  clear hK K
  simp only [Act.put, List.setIfInBounds_toArray, List.set_cons_zero, List.set_cons_succ]
  with_reducible refine wpQuiet_step (fun K hK => ?_)
  refine k_quiet_else (by kernel_rfl) ?_
  with_reducible refine hK _ ?_
  clear hK K
  simp only [Act.put, List.setIfInBounds_toArray, List.set_cons_zero, List.set_cons_succ]
  with_reducible refine wpQuiet_step (fun K hK => ?_)
  refine k_quiet_else (by kernel_rfl) ?_
  with_reducible refine hK _ ?_
  clear hK K
  simp only [Act.put, List.setIfInBounds_toArray, List.set_cons_zero, List.set_cons_succ]
  with_reducible refine wpQuiet_step (fun K hK => ?_)
  refine k_quiet_else (by kernel_rfl) ?_
  with_reducible refine hK _ ?_
  clear hK K
  simp only [Act.put, List.setIfInBounds_toArray, List.set_cons_zero, List.set_cons_succ]
  with_reducible refine wpQuiet_step (fun K hK => ?_)
  refine k_quiet_else (by kernel_rfl) ?_
  with_reducible refine hK _ ?_
  clear hK K
  simp only [Act.put, List.setIfInBounds_toArray, List.set_cons_zero, List.set_cons_succ]
  with_reducible refine wpQuiet_step (fun K hK => ?_)
  refine ⟨.bool false, fun w' hw' => ?_, ?_⟩
  · first | (go_simp; done) | (go_simp; decide) | (go_simp; omega)
  with_reducible refine hK _ ?_
  clear hK K
  simp only [Act.put, List.setIfInBounds_toArray, List.set_cons_zero, List.set_cons_succ]
  refine wpQuiet_nil ?_
  intro X8 hX8
  replace hO := hid_of (hO.out.trans (.of_below hX8))
  replace hR := hid_of (hR.out.keep hX8)
  clear hX8
  go_wp2_with fail
  rw [rounds_succ]
  go_wp2_with fail
  go_end0
  exact ⟨rfl, hO.out, hR.out⟩
set_option maxHeartbeats 1000000 in
set_option maxRecDepth 100000 in
theorem len64 (w : World) : Calls Try.prog 60 #[.int .u64 3] w fun e w' => ∃ z : Int, e = .returned (.int .i64 z) ∧ w' = w := by
  go_enter Try.func60, Try.ntmps60
  go_wp2
  go_ret
  exact ⟨_, rfl, rfl⟩
set_option maxHeartbeats 1000000 in
theorem blen (w : World) : Calls Try.prog 37 #[.int .u64 3] w fun e w' => ∃ z : Int, e = .returned (.int .i64 z) ∧ w' = w := by
  have h := hid_of (len64 w)
  go_enter Try.func37, Try.ntmps37
  go_wp2_with fail
  refine h.out.mono ?_
  rintro e X1 ⟨z, rfl, hX⟩
  have hX := hX.symm; subst hX
  go_wp2_with fail
  go_ret
  exact ⟨z, rfl, rfl⟩
set_option maxHeartbeats 1000000 in
set_option maxRecDepth 100000 in
theorem pdq3 (rb pb : Nat) (zba zca zcb : Int) (w : World) (hzba : decide (zba < 0) = true) (hzca : decide (zca < 0) = true) (hzcb : decide (zcb < 0) = true) (hR : Row3 w rb 0 1 2)
    (hc : ∀ W, Oth rb w W → Cmp3 pb zba zca zcb W) (z : Int) :
    Calls Try.prog 36 #[.slice (some ⟨rb, 0, none⟩) 3 3, .int .i64 0, .int .i64 3, .int .i64 z, .func (.func 29) #[.slice (some ⟨pb, 0, none⟩) 3 3] #[]] w fun e w' => e = .returned (.tuple #[]) ∧ Oth rb w w' ∧ Row3 w' rb 2 1 0 := by
  have hi := hid_of (insert3 rb pb zba zca zcb w hzba hzca hzcb hR hc)
  clear hzba hzca hzcb hR hc
  go_enter Try.func36, Try.ntmps36
  go_wp2_with fail
  refine wp_loop_rounds 1 ?_
  rw [rounds_succ]
  go_wp2_with fail
  refine hi.out.mono ?_
  rintro e X1 ⟨rfl, hq⟩
  replace hq := hid_of hq
  clear hi
  go_wp2_with fail
  ((try simp only [Exit.inBlock, Exit.then]); refine bodyPost_ret (results_none rfl _ _ _) rfl ?_)
  exact ⟨rfl, hq.out⟩
set_option maxHeartbeats 1000000 in
set_option maxRecDepth 100000 in
theorem sort3 (rb pb : Nat) (zba zca zcb : Int) (w : World) (hzba : decide (zba < 0) = true) (hzca : decide (zca < 0) = true) (hzcb : decide (zcb < 0) = true) (hR : Row3 w rb 0 1 2)
    (hc : ∀ W, Oth rb w W → Cmp3 pb zba zca zcb W) :
    Calls Try.prog 28 #[.slice (some ⟨rb, 0, none⟩) 3 3, .func (.func 29) #[.slice (some ⟨pb, 0, none⟩) 3 3] #[]] w fun e w' => e = .returned (.tuple #[]) ∧ Oth rb w w' ∧ Row3 w' rb 2 1 0 := by
  have hi := fun z => hid_of (pdq3 rb pb zba zca zcb w hzba hzca hzcb hR hc z)
  clear hzba hzca hzcb hR hc
  go_enter Try.func28, Try.ntmps28
  go_wp2_with fail
  refine (blen w).mono ?_
  rintro e X1 ⟨z, rfl, hX⟩
  have hX := hX.symm; subst hX
  go_wp2_with fail
  refine (hi z).out.mono ?_
  rintro e X1 ⟨rfl, hq⟩
  replace hq := hid_of hq
  clear hi
  go_wp2_with fail
  go_end0
  exact ⟨rfl, hq.out⟩
end Go.Proofs.Yteojoaceecncnaa
