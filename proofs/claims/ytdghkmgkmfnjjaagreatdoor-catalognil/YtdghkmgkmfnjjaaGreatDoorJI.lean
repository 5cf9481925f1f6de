import Derived.Test.YtdghkmgkmfnjjaaGreatDoorJH
import Derived.Deep.RegionHeld3
/-! Two edits in their order. -/
namespace Go.Proofs.YtdghkmgkmfnjjaaGreatDoor
open Go Go.RowKit

theorem k_quiet_else {c : Bool} {p q : Prop} (h : c = false) (hq : q) : if c = true then p else q := by rw [if_neg (by rw [h]; decide)]; exact hq
/-- Four cells stored into block g, the second half first. -/
def put4 (w : World) (g : Nat) (a0 a1 a2 a3 : Value) : World := (((w.setCell ⟨g, 2, none⟩ a2).setCell ⟨g, 3, none⟩ a3).setCell ⟨g, 0, none⟩ a0).setCell ⟨g, 1, none⟩ a1
theorem put4_cells {W : World} {g : Nat} {c3 : Value} (h3 : W.cell? ⟨g, 3, none⟩ = some c3) (a0 a1 a2 a3 : Value) : (put4 W g a0 a1 a2 a3).cell? ⟨g, 0, none⟩ = some a0 ∧ (put4 W g a0 a1 a2 a3).cell? ⟨g, 1, none⟩ = some a1 ∧ (put4 W g a0 a1 a2 a3).cell? ⟨g, 2, none⟩ = some a2 ∧ (put4 W g a0 a1 a2 a3).cell? ⟨g, 3, none⟩ = some a3 ∧ W.grownBy (put4 W g a0 a1 a2 a3) (some g) := by
  cases hh : W.heap[g]? with
  | none => simp [World.cell?, hh] at h3
  | some o =>
    cases o with
    | cells cur t fz =>
      have hp : (put4 W g a0 a1 a2 a3).heap[g]? = some (.cells ((((cur.setIfInBounds 2 a2).setIfInBounds 3 a3).setIfInBounds 0 a0).setIfInBounds 1 a1) t fz) := by
        simp [put4, World.setCell, Array.getElem?_modify, hh]
      have h5 : 3 < cur.size := by
        simp [World.cell?, hh] at h3
        exact (Array.getElem?_eq_some_iff.1 h3).1
      have l0 : 0 < cur.size := by omega
      have l1 : 1 < cur.size := by omega
      have l2 : 2 < cur.size := by omega
      refine ⟨?_, ?_, ?_, ?_, ⟨by simp [put4, World.setCell], by simp [put4, World.setCell], by simp [put4, World.setCell], by simp [put4, World.setCell], fun k _ hk => ?_⟩⟩
      · simp [World.cell?, hp, l0]
      · simp [World.cell?, hp, l1]
      · simp [World.cell?, hp, l2]
      · simp [World.cell?, hp, h5]
      · unfold put4
        have hk' : k ≠ g := fun e => hk (by rw [e])
        repeat rw [Below.heap_setCell _ _ _ _ hk']
    | _ => simp [World.cell?, hh] at h3
theorem drew_grown {w w' : World} {r : Option Nat} (h : w.grownBy w' r) : w.grownBy w'.drew r := ⟨h.os, h.tape, h.output, h.size, h.block⟩
theorem grown_of_below {w w' : World} {r : Option Nat} (h : Below w.heap.size w w') : w.grownBy w' r := ⟨h.os, h.tape, h.output, h.size, fun k hk _ => h.block k hk⟩
theorem grown_trans {w w' w'' : World} {r : Option Nat} (h : w.grownBy w' r) (k : w'.grownBy w'' r) : w.grownBy w'' r := ⟨k.os.trans h.os, k.tape.trans h.tape, k.output.trans h.output, Nat.le_trans h.size k.size, fun j hj hne => (k.block j (Nat.lt_of_lt_of_le hj h.size) hne).trans (h.block j hj hne)⟩
set_option maxHeartbeats 8000000 in
set_option maxRecDepth 100000 in
theorem insertV (rb cp bx e1 e2 : Nat) (x1 x2 : Int) (k1 k2 : ByteArray) (w : World) (hx : w.cell? ⟨bx, 0, none⟩ = some (.func (.func 133) #[] #[])) (h1 : EntAt w e1 x1 k1) (h2 : EntAt w e2 x2 k2) (r0 : w.cell? ⟨rb, 0, none⟩ = some (.pointer (some ⟨e1, 0, none⟩))) (r1 : w.cell? ⟨rb, 1, none⟩ = some (.bool true)) (r2 : w.cell? ⟨rb, 2, none⟩ = some (.pointer (some ⟨e2, 0, none⟩))) (r3 : w.cell? ⟨rb, 3, none⟩ = some (.bool true)) (hlt : decide (cmpI x2 x1 < 0) = false) (hne : (cmpI x2 x1 != 0) = true) :
    Calls Tryz.prog 198 #[.slice (some ⟨rb, 0, none⟩) 2 cp, .int .i64 0, .int .i64 2, .func (.func 181) #[] #[.pointer (some ⟨bx, 0, none⟩)]] w fun e w' => e = .returned (.tuple #[]) ∧ Below w.heap.size w w' := by
  have hcmp := hid_of (fun W (hW : Below w.heap.size w W) => edits1V bx e2 e1 x2 x1 k2 k1 W (stay hW hx) (h2.keep hW) (h1.keep hW) hne)
  clear hx h1 h2
  go_enter Tryz.func198, Tryz.ntmps198
  go_wp2_with fail
  refine wp_loop_rounds 2 ?_
  rw [rounds_succ]
  go_wp2_with fail
  refine wp_loop_rounds 2 ?_
  rw [rounds_succ]
  go_wp2_with fail
  refine wp_region_quiet (C := fun w' => Below w.heap.size w w') (by kernel_rfl) (by kernel_rfl) (below_drewN (Below.refl _ _) 1) ?_
  with_reducible refine wpQuiet_step (fun K hK => ?_)
  refine ⟨.int .i64 1, fun w' hw' => ?_, ?_⟩
  · first | (go_simp; done) | (go_simp; decide) | (go_simp; omega)
  with_reducible refine hK _ ?_
  clear hK K
  simp only [Act.put, List.setIfInBounds_toArray, List.set_cons_zero, List.set_cons_succ]
  with_reducible refine wpQuiet_step (fun K hK => ?_)
  refine ⟨.int .i64 0, fun w' hw' => ?_, ?_⟩
  · first | (go_simp; done) | (go_simp; decide) | (go_simp; omega)
  with_reducible refine hK _ ?_
  clear hK K
  simp only [Act.put, List.setIfInBounds_toArray, List.set_cons_zero, List.set_cons_succ]
  with_reducible refine wpQuiet_step (fun K hK => ?_)
  refine ⟨.bool true, fun w' hw' => ?_, ?_⟩
  · first | (go_simp; done) | (go_simp; decide) | (go_simp; omega)
  with_reducible refine hK _ ?_
  clear hK K
  simp only [Act.put, List.setIfInBounds_toArray, List.set_cons_zero, List.set_cons_succ]
  with_reducible refine wpQuiet_step (fun K hK => ?_)
  refine ⟨.bool true, fun w' hw' => ?_, ?_⟩
  · first | (go_simp; done) | (go_simp; decide) | (go_simp; omega)
  with_reducible refine hK _ ?_
  clear hK K
  simp only [Act.put, List.setIfInBounds_toArray, List.set_cons_zero, List.set_cons_succ]
  with_reducible refine wpQuiet_step (fun K hK => ?_)
  refine k_quiet_if (by kernel_rfl) ?_
  refine ⟨.func (.func 181) #[] #[.pointer (some ⟨bx, 0, none⟩)], fun w' hw' => ?_, ?_⟩
  · first | (go_simp; done) | (go_simp; decide) | (go_simp; omega)
  with_reducible refine hK _ ?_
  clear hK K
  simp only [Act.put, List.setIfInBounds_toArray, List.set_cons_zero, List.set_cons_succ]
  with_reducible refine wpQuiet_step (fun K hK => ?_)
  refine k_quiet_if (by kernel_rfl) ?_
  refine ⟨.slice (some ⟨rb, 0, none⟩) 2 cp, fun w' hw' => ?_, ?_⟩
  · first | (go_simp; done) | (go_simp; decide) | (go_simp; omega)
  with_reducible refine hK _ ?_
  clear hK K
  simp only [Act.put, List.setIfInBounds_toArray, List.set_cons_zero, List.set_cons_succ]
  with_reducible refine wpQuiet_step (fun K hK => ?_)
  refine k_quiet_if (by kernel_rfl) ?_
  refine ⟨.int .i64 1, fun w' hw' => ?_, ?_⟩
  · first | (go_simp; done) | (go_simp; decide) | (go_simp; omega)
  with_reducible refine hK _ ?_
  clear hK K
  simp only [Act.put, List.setIfInBounds_toArray, List.set_cons_zero, List.set_cons_succ]
  with_reducible refine wpQuiet_step (fun K hK => ?_)
  refine k_quiet_if (by kernel_rfl) ?_
  refine ⟨.pointer (some ⟨rb, 2, none⟩), fun w' hw' => ?_, ?_⟩
  · first | (go_simp; done) | (go_simp; decide) | (go_simp; omega)
  with_reducible refine hK _ ?_
  clear hK K
  simp only [Act.put, List.setIfInBounds_toArray, List.set_cons_zero, List.set_cons_succ]
  with_reducible refine wpQuiet_step (fun K hK => ?_)
  refine k_quiet_if (by kernel_rfl) ?_
  refine ⟨.agg #[.pointer (some ⟨e2, 0, none⟩), .bool true], fun w' hw' => ?_, ?_⟩
  · have t0 := stay hw' r2; have t1 := stay hw' r3; go_simp
  with_reducible refine hK _ ?_
  clear hK K
  simp only [Act.put, List.setIfInBounds_toArray, List.set_cons_zero, List.set_cons_succ]
  with_reducible refine wpQuiet_step (fun K hK => ?_)
  refine k_quiet_if (by kernel_rfl) ?_
  refine ⟨.slice (some ⟨rb, 0, none⟩) 2 cp, fun w' hw' => ?_, ?_⟩
  · first | (go_simp; done) | (go_simp; decide) | (go_simp; omega)
  with_reducible refine hK _ ?_
  clear hK K
  simp only [Act.put, List.setIfInBounds_toArray, List.set_cons_zero, List.set_cons_succ]
  with_reducible refine wpQuiet_step (fun K hK => ?_)
  refine k_quiet_if (by kernel_rfl) ?_
  refine ⟨.int .i64 1, fun w' hw' => ?_, ?_⟩
  · first | (go_simp; done) | (go_simp; decide) | (go_simp; omega)
  with_reducible refine hK _ ?_
  clear hK K
  simp only [Act.put, List.setIfInBounds_toArray, List.set_cons_zero, List.set_cons_succ]
  with_reducible refine wpQuiet_step (fun K hK => ?_)
  refine k_quiet_if (by kernel_rfl) ?_
  refine ⟨.int .i64 0, fun w' hw' => ?_, ?_⟩
  · first | (go_simp; done) | (go_simp; decide) | (go_simp; omega)
  with_reducible refine hK _ ?_
  clear hK K
  simp only [Act.put, List.setIfInBounds_toArray, List.set_cons_zero, List.set_cons_succ]
  with_reducible refine wpQuiet_step (fun K hK => ?_)
  refine k_quiet_if (by kernel_rfl) ?_
  refine ⟨.pointer (some ⟨rb, 0, none⟩), fun w' hw' => ?_, ?_⟩
  · first | (go_simp; done) | (go_simp; decide) | (go_simp; omega)
  with_reducible refine hK _ ?_
  clear hK K
  simp only [Act.put, List.setIfInBounds_toArray, List.set_cons_zero, List.set_cons_succ]
  with_reducible refine wpQuiet_step (fun K hK => ?_)
  refine k_quiet_if (by kernel_rfl) ?_
  refine ⟨.agg #[.pointer (some ⟨e1, 0, none⟩), .bool true], fun w' hw' => ?_, ?_⟩
  · have t0 := stay hw' r0; have t1 := stay hw' r1; go_simp
  with_reducible refine hK _ ?_
  clear hK K
  simp only [Act.put, List.setIfInBounds_toArray, List.set_cons_zero, List.set_cons_succ]
  with_reducible refine wpQuiet_step (fun K hK => ?_)
  refine k_quiet_if (by kernel_rfl) ?_
  refine ⟨.int .i64 (cmpI x2 x1), fun w' hw' => ?_, ?_⟩
  · go_simp
    refine (hcmp.out w' hw').mono ?_
    rintro e w'' ⟨rfl, hb'⟩
    exact ⟨rfl, hw'.trans (hb'.mono hw'.size)⟩
  with_reducible refine hK _ ?_
  clear hK K
  simp only [Act.put, List.setIfInBounds_toArray, List.set_cons_zero, List.set_cons_succ]
  with_reducible refine wpQuiet_step (fun K hK => ?_)
  refine k_quiet_if (by kernel_rfl) ?_
  refine ⟨.bool false, fun w' hw' => ?_, ?_⟩
  · first | (go_simp; done) | (go_simp; decide) | (go_simp; omega)
  with_reducible refine hK _ ?_
  clear hK K
  simp only [Act.put, List.setIfInBounds_toArray, List.set_cons_zero, List.set_cons_succ]
  with_reducible refine wpQuiet_step (fun K hK => ?_)
  refine ⟨.bool false, fun w' hw' => ?_, ?_⟩
  · first | (go_simp; done) | (go_simp; decide) | (go_simp; omega)
  with_reducible refine hK _ ?_
  clear hK K
  simp only [Act.put, List.setIfInBounds_toArray, List.set_cons_zero, List.set_cons_succ]
  refine wpQuiet_nil ?_
  intro X1 hX1
  go_wp2_with fail
  rw [rounds_succ]
  go_wp2_with fail
  go_end0
  exact ⟨rfl, hX1⟩
set_option maxHeartbeats 8000000 in
set_option maxRecDepth 100000 in
theorem insertK (rb cp bx e1 e2 : Nat) (x1 x2 : Int) (k1 k2 : ByteArray) (w : World) (hx : w.cell? ⟨bx, 0, none⟩ = some (.func (.func 134) #[] #[])) (h1 : EntAt w e1 x1 k1) (h2 : EntAt w e2 x2 k2) (r0 : w.cell? ⟨rb, 0, none⟩ = some (.pointer (some ⟨e1, 0, none⟩))) (r1 : w.cell? ⟨rb, 1, none⟩ = some (.bool true)) (r2 : w.cell? ⟨rb, 2, none⟩ = some (.pointer (some ⟨e2, 0, none⟩))) (r3 : w.cell? ⟨rb, 3, none⟩ = some (.bool true)) (f0 : ∀ j, w.frozen? ⟨rb, j, none⟩ = false) (hlt : decide (cmpS k2 k1 < 0) = true) :
    Calls Tryz.prog 198 #[.slice (some ⟨rb, 0, none⟩) 2 cp, .int .i64 0, .int .i64 2, .func (.func 181) #[] #[.pointer (some ⟨bx, 0, none⟩)]] w fun e w' => e = .returned (.tuple #[]) ∧ w.grownBy w' (some rb) ∧ w'.cell? ⟨rb, 0, none⟩ = some (.pointer (some ⟨e2, 0, none⟩)) ∧ w'.cell? ⟨rb, 1, none⟩ = some (.bool true) ∧ w'.cell? ⟨rb, 2, none⟩ = some (.pointer (some ⟨e1, 0, none⟩)) ∧ w'.cell? ⟨rb, 3, none⟩ = some (.bool true) := by
  have hcmp := hid_of (fun W (hW : Below w.heap.size w W) => edits1K bx e2 e1 x2 x1 k2 k1 W (stay hW hx) (h2.keep hW) (h1.keep hW))
  clear hx h1 h2
  go_enter Tryz.func198, Tryz.ntmps198
  go_wp2_with fail
  refine wp_loop_rounds 2 ?_
  rw [rounds_succ]
  go_wp2_with fail
  refine wp_loop_rounds 2 ?_
  rw [rounds_succ]
  go_wp2_with fail
  refine wp_region_quiet (C := fun w' => Below w.heap.size w w') (by kernel_rfl) (by kernel_rfl) (below_drewN (Below.refl _ _) 1) ?_
  with_reducible refine wpQuiet_step (fun K hK => ?_)
  refine ⟨.int .i64 1, fun w' hw' => ?_, ?_⟩
  · first | (go_simp; done) | (go_simp; decide) | (go_simp; omega)
  with_reducible refine hK _ ?_
  clear hK K
  simp only [Act.put, List.setIfInBounds_toArray, List.set_cons_zero, List.set_cons_succ]
  with_reducible refine wpQuiet_step (fun K hK => ?_)
  refine ⟨.int .i64 0, fun w' hw' => ?_, ?_⟩
  · first | (go_simp; done) | (go_simp; decide) | (go_simp; omega)
  with_reducible refine hK _ ?_
  clear hK K
  simp only [Act.put, List.setIfInBounds_toArray, List.set_cons_zero, List.set_cons_succ]
  with_reducible refine wpQuiet_step (fun K hK => ?_)
  refine ⟨.bool true, fun w' hw' => ?_, ?_⟩
  · first | (go_simp; done) | (go_simp; decide) | (go_simp; omega)
  with_reducible refine hK _ ?_
  clear hK K
  simp only [Act.put, List.setIfInBounds_toArray, List.set_cons_zero, List.set_cons_succ]
  with_reducible refine wpQuiet_step (fun K hK => ?_)
  refine ⟨.bool true, fun w' hw' => ?_, ?_⟩
  · first | (go_simp; done) | (go_simp; decide) | (go_simp; omega)
  with_reducible refine hK _ ?_
  clear hK K
  simp only [Act.put, List.setIfInBounds_toArray, List.set_cons_zero, List.set_cons_succ]
  with_reducible refine wpQuiet_step (fun K hK => ?_)
  refine k_quiet_if (by kernel_rfl) ?_
  refine ⟨.func (.func 181) #[] #[.pointer (some ⟨bx, 0, none⟩)], fun w' hw' => ?_, ?_⟩
  · first | (go_simp; done) | (go_simp; decide) | (go_simp; omega)
  with_reducible refine hK _ ?_
  clear hK K
  simp only [Act.put, List.setIfInBounds_toArray, List.set_cons_zero, List.set_cons_succ]
  with_reducible refine wpQuiet_step (fun K hK => ?_)
  refine k_quiet_if (by kernel_rfl) ?_
  refine ⟨.slice (some ⟨rb, 0, none⟩) 2 cp, fun w' hw' => ?_, ?_⟩
  · first | (go_simp; done) | (go_simp; decide) | (go_simp; omega)
  with_reducible refine hK _ ?_
  clear hK K
  simp only [Act.put, List.setIfInBounds_toArray, List.set_cons_zero, List.set_cons_succ]
  with_reducible refine wpQuiet_step (fun K hK => ?_)
  refine k_quiet_if (by kernel_rfl) ?_
  refine ⟨.int .i64 1, fun w' hw' => ?_, ?_⟩
  · first | (go_simp; done) | (go_simp; decide) | (go_simp; omega)
  with_reducible refine hK _ ?_
  clear hK K
  simp only [Act.put, List.setIfInBounds_toArray, List.set_cons_zero, List.set_cons_succ]
  with_reducible refine wpQuiet_step (fun K hK => ?_)
  refine k_quiet_if (by kernel_rfl) ?_
  refine ⟨.pointer (some ⟨rb, 2, none⟩), fun w' hw' => ?_, ?_⟩
  · first | (go_simp; done) | (go_simp; decide) | (go_simp; omega)
  with_reducible refine hK _ ?_
  clear hK K
  simp only [Act.put, List.setIfInBounds_toArray, List.set_cons_zero, List.set_cons_succ]
  with_reducible refine wpQuiet_step (fun K hK => ?_)
  refine k_quiet_if (by kernel_rfl) ?_
  refine ⟨.agg #[.pointer (some ⟨e2, 0, none⟩), .bool true], fun w' hw' => ?_, ?_⟩
  · have t0 := stay hw' r2; have t1 := stay hw' r3; go_simp
  with_reducible refine hK _ ?_
  clear hK K
  simp only [Act.put, List.setIfInBounds_toArray, List.set_cons_zero, List.set_cons_succ]
  with_reducible refine wpQuiet_step (fun K hK => ?_)
  refine k_quiet_if (by kernel_rfl) ?_
  refine ⟨.slice (some ⟨rb, 0, none⟩) 2 cp, fun w' hw' => ?_, ?_⟩
  · first | (go_simp; done) | (go_simp; decide) | (go_simp; omega)
  with_reducible refine hK _ ?_
  clear hK K
  simp only [Act.put, List.setIfInBounds_toArray, List.set_cons_zero, List.set_cons_succ]
  with_reducible refine wpQuiet_step (fun K hK => ?_)
  refine k_quiet_if (by kernel_rfl) ?_
  refine ⟨.int .i64 1, fun w' hw' => ?_, ?_⟩
  · first | (go_simp; done) | (go_simp; decide) | (go_simp; omega)
  with_reducible refine hK _ ?_
  clear hK K
  simp only [Act.put, List.setIfInBounds_toArray, List.set_cons_zero, List.set_cons_succ]
  with_reducible refine wpQuiet_step (fun K hK => ?_)
  refine k_quiet_if (by kernel_rfl) ?_
  refine ⟨.int .i64 0, fun w' hw' => ?_, ?_⟩
  · first | (go_simp; done) | (go_simp; decide) | (go_simp; omega)
  with_reducible refine hK _ ?_
  clear hK K
  simp only [Act.put, List.setIfInBounds_toArray, List.set_cons_zero, List.set_cons_succ]
  with_reducible refine wpQuiet_step (fun K hK => ?_)
  refine k_quiet_if (by kernel_rfl) ?_
  refine ⟨.pointer (some ⟨rb, 0, none⟩), fun w' hw' => ?_, ?_⟩
  · first | (go_simp; done) | (go_simp; decide) | (go_simp; omega)
  with_reducible refine hK _ ?_
  clear hK K
  simp only [Act.put, List.setIfInBounds_toArray, List.set_cons_zero, List.set_cons_succ]
  with_reducible refine wpQuiet_step (fun K hK => ?_)
  refine k_quiet_if (by kernel_rfl) ?_
  refine ⟨.agg #[.pointer (some ⟨e1, 0, none⟩), .bool true], fun w' hw' => ?_, ?_⟩
  · have t0 := stay hw' r0; have t1 := stay hw' r1; go_simp
  with_reducible refine hK _ ?_
  clear hK K
  simp only [Act.put, List.setIfInBounds_toArray, List.set_cons_zero, List.set_cons_succ]
  with_reducible refine wpQuiet_step (fun K hK => ?_)
  refine k_quiet_if (by kernel_rfl) ?_
  refine ⟨.int .i64 (cmpS k2 k1), fun w' hw' => ?_, ?_⟩
  · go_simp
    refine (hcmp.out w' hw').mono ?_
    rintro e w'' ⟨rfl, hb'⟩
    exact ⟨rfl, hw'.trans (hb'.mono hw'.size)⟩
  with_reducible refine hK _ ?_
  clear hK K
  simp only [Act.put, List.setIfInBounds_toArray, List.set_cons_zero, List.set_cons_succ]
  with_reducible refine wpQuiet_step (fun K hK => ?_)
  refine k_quiet_if (by kernel_rfl) ?_
  refine ⟨.bool true, fun w' hw' => ?_, ?_⟩
  · first | (go_simp; done) | (go_simp; decide) | (go_simp; omega)
  with_reducible refine hK _ ?_
  clear hK K
  simp only [Act.put, List.setIfInBounds_toArray, List.set_cons_zero, List.set_cons_succ]
  with_reducible refine wpQuiet_step (fun K hK => ?_)
  refine ⟨.bool true, fun w' hw' => ?_, ?_⟩
  · first | (go_simp; done) | (go_simp; decide) | (go_simp; omega)
  with_reducible refine hK _ ?_
  clear hK K
  simp only [Act.put, List.setIfInBounds_toArray, List.set_cons_zero, List.set_cons_succ]
  refine wpQuiet_nil ?_
  intro X1 hX1
  have hrb := lt_of_cell r0
  have f0' : ∀ j, X1.frozen? ⟨rb, j, none⟩ = false := fun j => by
    have := f0 j
    unfold World.frozen? at *
    rw [hX1.block _ hrb]; exact this
  replace r0 := stay hX1 r0
  replace r1 := stay hX1 r1
  replace r2 := stay hX1 r2
  replace r3 := stay hX1 r3
  have g0 := f0' 0
  have g1 := f0' 1
  have g2 := f0' 2
  have g3 := f0' 3
  clear f0 f0'
  clear hcmp hlt
  go_wp2_with fail
  go_region
  obtain ⟨q0, q1, q2, q3, hgr⟩ := put4_cells r3 (.pointer (some ⟨e2, 0, none⟩)) (.bool true) (.pointer (some ⟨e1, 0, none⟩)) (.bool true)
  unfold put4 at q0 q1 q2 q3 hgr
  replace hgr := hid_of (grown_trans (grown_of_below hX1) (drew_grown hgr))
  generalize (((X1.setCell ⟨rb, 2, none⟩ (.pointer (some ⟨e1, 0, none⟩))).setCell ⟨rb, 3, none⟩ (.bool true)).setCell ⟨rb, 0, none⟩ (.pointer (some ⟨e2, 0, none⟩))).setCell ⟨rb, 1, none⟩ (.bool true) = X2 at q0 q1 q2 q3 hgr
  clear g0 g1 g2 g3 r0 r1 r2 r3 hX1 hrb
  go_wp2_with fail
  rw [rounds_succ]
  go_wp2_with fail
  refine wp_region_quiet (C := fun w' => Below X2.drew.heap.size X2.drew w') (by kernel_rfl) (by kernel_rfl) (below_drewN (Below.refl _ _) 1) ?_
  with_reducible refine wpQuiet_step (fun K hK => ?_)
  refine ⟨.int .i64 0, fun w' hw' => ?_, ?_⟩
  · first | (go_simp; done) | (go_simp; decide) | (go_simp; omega)
  with_reducible refine hK _ ?_
  clear hK K
  simp only [Act.put, List.setIfInBounds_toArray, List.set_cons_zero, List.set_cons_succ]
  with_reducible refine wpQuiet_step (fun K hK => ?_)
  refine ⟨.int .i64 0, fun w' hw' => ?_, ?_⟩
  · first | (go_simp; done) | (go_simp; decide) | (go_simp; omega)
  with_reducible refine hK _ ?_
  clear hK K
  simp only [Act.put, List.setIfInBounds_toArray, List.set_cons_zero, List.set_cons_succ]
  with_reducible refine wpQuiet_step (fun K hK => ?_)
  refine ⟨.bool false, fun w' hw' => ?_, ?_⟩
  · first | (go_simp; done) | (go_simp; decide) | (go_simp; omega)
  with_reducible refine hK _ ?_
  clear hK K
  simp only [Act.put, List.setIfInBounds_toArray, List.set_cons_zero, List.set_cons_succ]
  with_reducible refine wpQuiet_step (fun K hK => ?_)
  refine ⟨.bool false, fun w' hw' => ?_, ?_⟩
  · first | (go_simp; done) | (go_simp; decide) | (go_simp; omega)
  with_reducible refine hK _ ?_
  clear hK K
  simp only [Act.put, List.setIfInBounds_toArray, List.set_cons_zero, List.set_cons_succ]
  with_reducible refine wpQuiet_step (fun K hK => ?_)
  refine k_quiet_else (by kernel_rfl) ?_
  with_reducible refine hK _ ?_
  clear hK K
  simp only [Act.put, List.setIfInBounds_toArray, List.set_cons_zero, List.set_cons_succ]
  with_reducible refine wpQuiet_step (fun K hK => ?_)
  refine k_quiet_else (by kernel_rfl) ?_
  with_reducible refine hK _ ?_
  clear hK K
  simp only [Act.put, List.setIfInBounds_toArray, List.set_cons_zero, List.set_cons_succ]
  with_reducible refine wpQuiet_step (fun K hK => ?_)
  refine k_quiet_else (by kernel_rfl) ?_
  with_reducible refine hK _ ?_
  clear hK K
  simp only [Act.put, List.setIfInBounds_toArray, List.set_cons_zero, List.set_cons_succ]
  with_reducible refine wpQuiet_step (fun K hK => ?_)
  refine k_quiet_else (by kernel_rfl) ?_
  with_reducible refine hK _ ?_
  clear hK K
  simp only [Act.put, List.setIfInBounds_toArray, List.set_cons_zero, List.set_cons_succ]
  with_reducible refine wpQuiet_step (fun K hK => ?_)
  refine k_quiet_else (by kernel_rfl) ?_
  with_reducible refine hK _ ?_
  clear hK K
  simp only [Act.put, List.setIfInBounds_toArray, List.set_cons_zero, List.set_cons_succ]
  with_reducible refine wpQuiet_step (fun K hK => ?_)
  refine k_quiet_else (by kernel_rfl) ?_
  with_reducible refine hK _ ?_
  clear hK K
  simp only [Act.put, List.setIfInBounds_toArray, List.set_cons_zero, List.set_cons_succ]
  with_reducible refine wpQuiet_step (fun K hK => ?_)
  refine k_quiet_else (by kernel_rfl) ?_
  with_reducible refine hK _ ?_
  clear hK K
  simp only [Act.put, List.setIfInBounds_toArray, List.set_cons_zero, List.set_cons_succ]
  with_reducible refine wpQuiet_step (fun K hK => ?_)
  refine k_quiet_else (by kernel_rfl) ?_
  with_reducible refine hK _ ?_
  clear hK K
  simp only [Act.put, List.setIfInBounds_toArray, List.set_cons_zero, List.set_cons_succ]
  with_reducible refine wpQuiet_step (fun K hK => ?_)
  refine k_quiet_else (by kernel_rfl) ?_
  with_reducible refine hK _ ?_
  clear hK K
  simp only [Act.put, List.setIfInBounds_toArray, List.set_cons_zero, List.set_cons_succ]
  with_reducible refine wpQuiet_step (fun K hK => ?_)
  refine k_quiet_else (by kernel_rfl) ?_
  with_reducible refine hK _ ?_
  clear hK K
  simp only [Act.put, List.setIfInBounds_toArray, List.set_cons_zero, List.set_cons_succ]
  with_reducible refine wpQuiet_step (fun K hK => ?_)
  refine k_quiet_else (by kernel_rfl) ?_
  with_reducible refine hK _ ?_
  clear hK K
  simp only [Act.put, List.setIfInBounds_toArray, List.set_cons_zero, List.set_cons_succ]
  with_reducible refine wpQuiet_step (fun K hK => ?_)
  refine k_quiet_else (by kernel_rfl) ?_
  with_reducible refine hK _ ?_
  clear hK K
  simp only [Act.put, List.setIfInBounds_toArray, List.set_cons_zero, List.set_cons_succ]
  with_reducible refine wpQuiet_step (fun K hK => ?_)
  refine ⟨.bool false, fun w' hw' => ?_, ?_⟩
  · first | (go_simp; done) | (go_simp; decide) | (go_simp; omega)
  with_reducible refine hK _ ?_
  clear hK K
  simp only [Act.put, List.setIfInBounds_toArray, List.set_cons_zero, List.set_cons_succ]
  refine wpQuiet_nil ?_
  intro X3 hX3
  go_wp2_with fail
  rw [rounds_succ]
  go_wp2_with fail
  go_end0
  exact ⟨rfl, grown_trans hgr.out (grown_of_below hX3), stay hX3 q0, stay hX3 q1, stay hX3 q2, stay hX3 q3⟩
end Go.Proofs.YtdghkmgkmfnjjaaGreatDoor
