import Derived.Test.YtgigikcopedoeaaGreatWC
/-! Two documents in their order. -/
namespace Go.Proofs.YtgigikcopedoeaaGreat
open Go Go.RowKit

/-- Two documents with their keys, one behind the other. -/
def rowsC (i1 : ByteArray) (bn1 cn1 bi1 ci1 k1 : Nat) (i2 : ByteArray) (bn2 cn2 bi2 ci2 k2 : Nat) : Obj := .cells #[.string i1, .int .i64 0, .int .i64 6, .int .i64 0, .string ⟨#[]⟩, .slice (some ⟨bn1, 0, none⟩) 1 cn1, .slice (some ⟨bi1, 0, none⟩) 1 ci1, .slice (some ⟨k1, 0, none⟩) 1 1, .string i2, .int .i64 0, .int .i64 6, .int .i64 0, .string ⟨#[]⟩, .slice (some ⟨bn2, 0, none⟩) 1 cn2, .slice (some ⟨bi2, 0, none⟩) 1 ci2, .slice (some ⟨k2, 0, none⟩) 1 1] 73
theorem row16_cells {w : World} {B : Nat} {cs : Array Value} {t : TypeId} (h : w.heap[B]? = some (.cells cs t (0, 0))) : (∀ j, w.cell? ⟨B, j, none⟩ = cs[j]?) ∧ ∀ j, w.frozen? ⟨B, j, none⟩ = false := by
  refine ⟨fun j => ?_, fun j => ?_⟩
  all_goals simp [World.cell?, World.frozen?, h]
/-- Sixteen cells stored into block g, the second half first. -/
def put16 (w : World) (g : Nat) (a0 a1 a2 a3 a4 a5 a6 a7 a8 a9 a10 a11 a12 a13 a14 a15 : Value) : World := (((((((((((((((w.setCell ⟨g, 8, none⟩ a8).setCell ⟨g, 9, none⟩ a9).setCell ⟨g, 10, none⟩ a10).setCell ⟨g, 11, none⟩ a11).setCell ⟨g, 12, none⟩ a12).setCell ⟨g, 13, none⟩ a13).setCell ⟨g, 14, none⟩ a14).setCell ⟨g, 15, none⟩ a15).setCell ⟨g, 0, none⟩ a0).setCell ⟨g, 1, none⟩ a1).setCell ⟨g, 2, none⟩ a2).setCell ⟨g, 3, none⟩ a3).setCell ⟨g, 4, none⟩ a4).setCell ⟨g, 5, none⟩ a5).setCell ⟨g, 6, none⟩ a6).setCell ⟨g, 7, none⟩ a7
theorem put16_at {w : World} {g : Nat} {c0 c1 c2 c3 c4 c5 c6 c7 c8 c9 c10 c11 c12 c13 c14 c15 : Value} {t : TypeId} (h : w.heap[g]? = some (.cells #[c0, c1, c2, c3, c4, c5, c6, c7, c8, c9, c10, c11, c12, c13, c14, c15] t (0, 0))) (a0 a1 a2 a3 a4 a5 a6 a7 a8 a9 a10 a11 a12 a13 a14 a15 : Value) : (put16 w g a0 a1 a2 a3 a4 a5 a6 a7 a8 a9 a10 a11 a12 a13 a14 a15).heap[g]? = some (.cells #[a0, a1, a2, a3, a4, a5, a6, a7, a8, a9, a10, a11, a12, a13, a14, a15] t (0, 0)) := by
  simp [put16, World.setCell, Array.getElem?_modify, h]
theorem put16_far {w : World} {g : Nat} (a0 a1 a2 a3 a4 a5 a6 a7 a8 a9 a10 a11 a12 a13 a14 a15 : Value) {k : Nat} (hk : k ≠ g) : (put16 w g a0 a1 a2 a3 a4 a5 a6 a7 a8 a9 a10 a11 a12 a13 a14 a15).heap[k]? = w.heap[k]? := by
  unfold put16
  repeat rw [Below.heap_setCell _ _ _ _ hk]
theorem put16_size (w : World) (g : Nat) (a0 a1 a2 a3 a4 a5 a6 a7 a8 a9 a10 a11 a12 a13 a14 a15 : Value) : (put16 w g a0 a1 a2 a3 a4 a5 a6 a7 a8 a9 a10 a11 a12 a13 a14 a15).heap.size = w.heap.size := by simp [put16, World.setCell]
theorem put16_grown (w : World) (g : Nat) (a0 a1 a2 a3 a4 a5 a6 a7 a8 a9 a10 a11 a12 a13 a14 a15 : Value) : w.grownBy (put16 w g a0 a1 a2 a3 a4 a5 a6 a7 a8 a9 a10 a11 a12 a13 a14 a15) (some g) :=
  ⟨by unfold put16; repeat rw [set_os], by unfold put16; repeat rw [set_tape], by unfold put16; repeat rw [set_out], by rw [put16_size]; exact Nat.le_refl _, fun k _ hk => put16_far _ _ _ _ _ _ _ _ _ _ _ _ _ _ _ _ (fun e => hk (by rw [e]))⟩
theorem k_quiet_if {c : Bool} {p q : Prop} (h : c = true) (hp : p) : if c = true then p else q := by rw [if_pos h]; exact hp
set_option maxHeartbeats 8000000 in
set_option maxRecDepth 100000 in
theorem insert_k (sb rb : Nat) (i2 : ByteArray) (bn2 cn2 bi2 ci2 k2 : Nat) (i1 : ByteArray) (bn1 cn1 bi1 ci1 k1 : Nat) (w : World) (hT : TurnsAt w sb) (h2 : NumAt w k2 0 2) (h1 : NumAt w k1 0 1) (hR : w.heap[rb]? = some (rowsC i1 bn1 cn1 bi1 ci1 k1 i2 bn2 cn2 bi2 ci2 k2)) :
    Calls Tryz.prog 92 #[.slice (some ⟨rb, 0, none⟩) 2 2, .int .i64 0, .int .i64 2, .func (.func 38) #[.pointer (some ⟨sb, 0, none⟩)] #[]] w fun e w' => e = .returned (.tuple #[]) ∧ w.grownBy w' (some rb) ∧ w'.heap[rb]? = some (rowsC i2 bn2 cn2 bi2 ci2 k2 i1 bn1 cn1 bi1 ci1 k1) := by
  have hcmp := hid_of (fun W (hW : Below w.heap.size w W) => compare_k sb i2 bn2 cn2 bi2 ci2 k2 i1 bn1 cn1 bi1 ci1 k1 W (hT.keep hW) (h2.keep hW) (h1.keep hW))
  have hrb := (Array.getElem?_eq_some_iff.1 hR).1
  unfold keyedV at hcmp
  obtain ⟨hc, -⟩ := row16_cells hR
  have c0 := hc 0; have c1 := hc 1; have c2 := hc 2; have c3 := hc 3; have c4 := hc 4; have c5 := hc 5; have c6 := hc 6; have c7 := hc 7
  have c8 := hc 8; have c9 := hc 9; have c10 := hc 10; have c11 := hc 11; have c12 := hc 12; have c13 := hc 13; have c14 := hc 14; have c15 := hc 15
  simp only [List.getElem?_toArray, List.getElem?_cons_zero, List.getElem?_cons_succ] at c0 c1 c2 c3 c4 c5 c6 c7 c8 c9 c10 c11 c12 c13 c14 c15
  clear hc hT h2 h1
  replace hR := hid_of hR
  go_enter Tryz.func92, Tryz.ntmps92
  go_wp2_with fail
  refine wp_loop_rounds 2 ?_
  rw [rounds_succ]
  go_wp2_with fail
  refine wp_loop_rounds 2 ?_
  rw [rounds_succ]
  go_wp2_with fail
  refine wp_region_quiet (C := fun w' => Below w.heap.size w w') (by kernel_rfl) (by kernel_rfl) (below_drewN (Below.refl _ _) 1) ?_
  with_reducible refine wpQuiet_step (fun K hK => ?_)
  refine ⟨.int .i64 1, fun w' _ => ?_, ?_⟩
  · first | (go_simp; done) | (go_simp; decide)
  with_reducible refine hK _ ?_
  clear hK K
  simp only [Act.put, List.setIfInBounds_toArray, List.set_cons_zero, List.set_cons_succ]
  with_reducible refine wpQuiet_step (fun K hK => ?_)
  refine ⟨.int .i64 0, fun w' _ => ?_, ?_⟩
  · first | (go_simp; done) | (go_simp; decide)
  with_reducible refine hK _ ?_
  clear hK K
  simp only [Act.put, List.setIfInBounds_toArray, List.set_cons_zero, List.set_cons_succ]
  with_reducible refine wpQuiet_step (fun K hK => ?_)
  refine ⟨.bool true, fun w' _ => ?_, ?_⟩
  · first | (go_simp; done) | (go_simp; decide)
  with_reducible refine hK _ ?_
  clear hK K
  simp only [Act.put, List.setIfInBounds_toArray, List.set_cons_zero, List.set_cons_succ]
  with_reducible refine wpQuiet_step (fun K hK => ?_)
  refine ⟨.bool true, fun w' _ => ?_, ?_⟩
  · first | (go_simp; done) | (go_simp; decide)
  with_reducible refine hK _ ?_
  clear hK K
  simp only [Act.put, List.setIfInBounds_toArray, List.set_cons_zero, List.set_cons_succ]
  with_reducible refine wpQuiet_step (fun K hK => ?_)
  refine k_quiet_if (by kernel_rfl) ?_
  refine ⟨.func (.func 38) #[.pointer (some ⟨sb, 0, none⟩)] #[], fun w' _ => ?_, ?_⟩
  · first | (go_simp; done) | (go_simp; decide)
  with_reducible refine hK _ ?_
  clear hK K
  simp only [Act.put, List.setIfInBounds_toArray, List.set_cons_zero, List.set_cons_succ]
  with_reducible refine wpQuiet_step (fun K hK => ?_)
  refine k_quiet_if (by kernel_rfl) ?_
  refine ⟨.slice (some ⟨rb, 0, none⟩) 2 2, fun w' _ => ?_, ?_⟩
  · first | (go_simp; done) | (go_simp; decide)
  with_reducible refine hK _ ?_
  clear hK K
  simp only [Act.put, List.setIfInBounds_toArray, List.set_cons_zero, List.set_cons_succ]
  with_reducible refine wpQuiet_step (fun K hK => ?_)
  refine k_quiet_if (by kernel_rfl) ?_
  refine ⟨.int .i64 1, fun w' _ => ?_, ?_⟩
  · first | (go_simp; done) | (go_simp; decide)
  with_reducible refine hK _ ?_
  clear hK K
  simp only [Act.put, List.setIfInBounds_toArray, List.set_cons_zero, List.set_cons_succ]
  with_reducible refine wpQuiet_step (fun K hK => ?_)
  refine k_quiet_if (by kernel_rfl) ?_
  refine ⟨.pointer (some ⟨rb, 8, none⟩), fun w' _ => ?_, ?_⟩
  · first | (go_simp; done) | (go_simp; decide)
  with_reducible refine hK _ ?_
  clear hK K
  simp only [Act.put, List.setIfInBounds_toArray, List.set_cons_zero, List.set_cons_succ]
  with_reducible refine wpQuiet_step (fun K hK => ?_)
  refine k_quiet_if (by kernel_rfl) ?_
  refine ⟨.agg #[.string i2, .int .i64 0, .int .i64 6, .int .i64 0, .string ⟨#[]⟩, .slice (some ⟨bn2, 0, none⟩) 1 cn2, .slice (some ⟨bi2, 0, none⟩) 1 ci2, .slice (some ⟨k2, 0, none⟩) 1 1], fun w' hw' => ?_, ?_⟩
  · have t0 := stay hw' c8
    have t1 := stay hw' c9
    have t2 := stay hw' c10
    have t3 := stay hw' c11
    have t4 := stay hw' c12
    have t5 := stay hw' c13
    have t6 := stay hw' c14
    have t7 := stay hw' c15
    go_simp
  with_reducible refine hK _ ?_
  clear hK K
  simp only [Act.put, List.setIfInBounds_toArray, List.set_cons_zero, List.set_cons_succ]
  with_reducible refine wpQuiet_step (fun K hK => ?_)
  refine k_quiet_if (by kernel_rfl) ?_
  refine ⟨.slice (some ⟨rb, 0, none⟩) 2 2, fun w' _ => ?_, ?_⟩
  · first | (go_simp; done) | (go_simp; decide)
  with_reducible refine hK _ ?_
  clear hK K
  simp only [Act.put, List.setIfInBounds_toArray, List.set_cons_zero, List.set_cons_succ]
  with_reducible refine wpQuiet_step (fun K hK => ?_)
  refine k_quiet_if (by kernel_rfl) ?_
  refine ⟨.int .i64 1, fun w' _ => ?_, ?_⟩
  · first | (go_simp; done) | (go_simp; decide)
  with_reducible refine hK _ ?_
  clear hK K
  simp only [Act.put, List.setIfInBounds_toArray, List.set_cons_zero, List.set_cons_succ]
  with_reducible refine wpQuiet_step (fun K hK => ?_)
  refine k_quiet_if (by kernel_rfl) ?_
  refine ⟨.int .i64 0, fun w' _ => ?_, ?_⟩
  · first | (go_simp; done) | (go_simp; decide)
  with_reducible refine hK _ ?_
  clear hK K
  simp only [Act.put, List.setIfInBounds_toArray, List.set_cons_zero, List.set_cons_succ]
  with_reducible refine wpQuiet_step (fun K hK => ?_)
  refine k_quiet_if (by kernel_rfl) ?_
  refine ⟨.pointer (some ⟨rb, 0, none⟩), fun w' _ => ?_, ?_⟩
  · first | (go_simp; done) | (go_simp; decide)
  with_reducible refine hK _ ?_
  clear hK K
  simp only [Act.put, List.setIfInBounds_toArray, List.set_cons_zero, List.set_cons_succ]
  with_reducible refine wpQuiet_step (fun K hK => ?_)
  refine k_quiet_if (by kernel_rfl) ?_
  refine ⟨.agg #[.string i1, .int .i64 0, .int .i64 6, .int .i64 0, .string ⟨#[]⟩, .slice (some ⟨bn1, 0, none⟩) 1 cn1, .slice (some ⟨bi1, 0, none⟩) 1 ci1, .slice (some ⟨k1, 0, none⟩) 1 1], fun w' hw' => ?_, ?_⟩
  · have t0 := stay hw' c0
    have t1 := stay hw' c1
    have t2 := stay hw' c2
    have t3 := stay hw' c3
    have t4 := stay hw' c4
    have t5 := stay hw' c5
    have t6 := stay hw' c6
    have t7 := stay hw' c7
    go_simp
  with_reducible refine hK _ ?_
  clear hK K
  simp only [Act.put, List.setIfInBounds_toArray, List.set_cons_zero, List.set_cons_succ]
  with_reducible refine wpQuiet_step (fun K hK => ?_)
  refine k_quiet_if (by kernel_rfl) ?_
  refine ⟨.int .i64 (-1), fun w' hw' => ?_, ?_⟩
  · go_simp
    refine (hcmp.out w' hw').mono ?_
    rintro e w'' ⟨rfl, hb⟩
    exact ⟨rfl, hw'.trans (hb.mono hw'.size)⟩
  with_reducible refine hK _ ?_
  clear hK K
  simp only [Act.put, List.setIfInBounds_toArray, List.set_cons_zero, List.set_cons_succ]
  with_reducible refine wpQuiet_step (fun K hK => ?_)
  refine k_quiet_if (by kernel_rfl) ?_
  refine ⟨.bool true, fun w' _ => ?_, ?_⟩
  · first | (go_simp; done) | (go_simp; decide)
  with_reducible refine hK _ ?_
  clear hK K
  simp only [Act.put, List.setIfInBounds_toArray, List.set_cons_zero, List.set_cons_succ]
  with_reducible refine wpQuiet_step (fun K hK => ?_)
  refine ⟨.bool true, fun w' _ => ?_, ?_⟩
  · first | (go_simp; done) | (go_simp; decide)
  with_reducible refine hK _ ?_
  clear hK K
  simp only [Act.put, List.setIfInBounds_toArray, List.set_cons_zero, List.set_cons_succ]
  refine wpQuiet_nil ?_
  intro X1 hX1
  have hR1 := block_keep hR.out hX1
  clear c0 c1 c2 c3 c4 c5 c6 c7 c8 c9 c10 c11 c12 c13 c14 c15 hcmp
  unfold rowsC at hR1
  obtain ⟨hc, hf⟩ := row16_cells hR1
  have c0 := hc 0; have c1 := hc 1; have c2 := hc 2; have c3 := hc 3; have c4 := hc 4; have c5 := hc 5; have c6 := hc 6; have c7 := hc 7
  have c8 := hc 8; have c9 := hc 9; have c10 := hc 10; have c11 := hc 11; have c12 := hc 12; have c13 := hc 13; have c14 := hc 14; have c15 := hc 15
  simp only [List.getElem?_toArray, List.getElem?_cons_zero, List.getElem?_cons_succ] at c0 c1 c2 c3 c4 c5 c6 c7 c8 c9 c10 c11 c12 c13 c14 c15
  have f0 := hf 0; have f1 := hf 1; have f2 := hf 2; have f3 := hf 3; have f4 := hf 4; have f5 := hf 5; have f6 := hf 6; have f7 := hf 7
  have f8 := hf 8; have f9 := hf 9; have f10 := hf 10; have f11 := hf 11; have f12 := hf 12; have f13 := hf 13; have f14 := hf 14; have f15 := hf 15
  clear hc hf
  go_wp2_with fail
  go_region
  have e1 := put16_at hR1 (.string i2) (.int .i64 0) (.int .i64 6) (.int .i64 0) (.string ⟨#[]⟩) (.slice (some ⟨bn2, 0, none⟩) 1 cn2) (.slice (some ⟨bi2, 0, none⟩) 1 ci2) (.slice (some ⟨k2, 0, none⟩) 1 1) (.string i1) (.int .i64 0) (.int .i64 6) (.int .i64 0) (.string ⟨#[]⟩) (.slice (some ⟨bn1, 0, none⟩) 1 cn1) (.slice (some ⟨bi1, 0, none⟩) 1 ci1) (.slice (some ⟨k1, 0, none⟩) 1 1)
  have e2 := put16_grown X1 rb (.string i2) (.int .i64 0) (.int .i64 6) (.int .i64 0) (.string ⟨#[]⟩) (.slice (some ⟨bn2, 0, none⟩) 1 cn2) (.slice (some ⟨bi2, 0, none⟩) 1 ci2) (.slice (some ⟨k2, 0, none⟩) 1 1) (.string i1) (.int .i64 0) (.int .i64 6) (.int .i64 0) (.string ⟨#[]⟩) (.slice (some ⟨bn1, 0, none⟩) 1 cn1) (.slice (some ⟨bi1, 0, none⟩) 1 ci1) (.slice (some ⟨k1, 0, none⟩) 1 1)
  unfold put16 at e1 e2
  generalize ((((((((((((((((X1.setCell ⟨rb, 8, none⟩ (.string i1)).setCell ⟨rb, 9, none⟩ (.int .i64 0)).setCell ⟨rb, 10, none⟩ (.int .i64 6)).setCell ⟨rb, 11, none⟩ (.int .i64 0)).setCell ⟨rb, 12, none⟩ (.string ⟨#[]⟩)).setCell ⟨rb, 13, none⟩ (.slice (some ⟨bn1, 0, none⟩) 1 cn1)).setCell ⟨rb, 14, none⟩ (.slice (some ⟨bi1, 0, none⟩) 1 ci1)).setCell ⟨rb, 15, none⟩ (.slice (some ⟨k1, 0, none⟩) 1 1)).setCell ⟨rb, 0, none⟩ (.string i2)).setCell ⟨rb, 1, none⟩ (.int .i64 0)).setCell ⟨rb, 2, none⟩ (.int .i64 6)).setCell ⟨rb, 3, none⟩ (.int .i64 0)).setCell ⟨rb, 4, none⟩ (.string ⟨#[]⟩)).setCell ⟨rb, 5, none⟩ (.slice (some ⟨bn2, 0, none⟩) 1 cn2)).setCell ⟨rb, 6, none⟩ (.slice (some ⟨bi2, 0, none⟩) 1 ci2)).setCell ⟨rb, 7, none⟩ (.slice (some ⟨k2, 0, none⟩) 1 1)) = X2 at e1 e2 ⊢
  have g1 : w.grownBy X2 (some rb) := ⟨e2.os.trans hX1.os, e2.tape.trans hX1.tape, e2.output.trans hX1.output, Nat.le_trans hX1.size e2.size, fun k hk hne => (e2.block k (by have := hX1.size; omega) hne).trans (hX1.block k hk)⟩
  have g2 : w.grownBy X2.drew (some rb) := ⟨g1.os, g1.tape, g1.output, g1.size, g1.block⟩
  have e3 : X2.drew.heap[rb]? = _ := e1
  replace g2 := hid_of g2
  replace e3 := hid_of e3
  clear c0 c1 c2 c3 c4 c5 c6 c7 c8 c9 c10 c11 c12 c13 c14 c15 f0 f1 f2 f3 f4 f5 f6 f7 f8 f9 f10 f11 f12 f13 f14 f15 e1 e2 g1 hR1
  generalize X2.drew = X3 at g2 e3 ⊢
  go_wp2_with fail
  rw [rounds_succ]
  go_wp2_with fail
  go_region
  all_goals
    go_wp2_with fail
    rw [rounds_succ]
    go_wp2_with fail
    go_end0
    exact ⟨rfl, ⟨g2.out.os, g2.out.tape, g2.out.output, g2.out.size, g2.out.block⟩, e3.out⟩
set_option maxHeartbeats 4000000 in
set_option maxRecDepth 100000 in
theorem stable_k (sb rb : Nat) (i2 : ByteArray) (bn2 cn2 bi2 ci2 k2 : Nat) (i1 : ByteArray) (bn1 cn1 bi1 ci1 k1 : Nat) (w : World) (hT : TurnsAt w sb) (h2 : NumAt w k2 0 2) (h1 : NumAt w k1 0 1) (hR : w.heap[rb]? = some (rowsC i1 bn1 cn1 bi1 ci1 k1 i2 bn2 cn2 bi2 ci2 k2)) :
    Calls Tryz.prog 58 #[.slice (some ⟨rb, 0, none⟩) 2 2, .int .i64 2, .func (.func 38) #[.pointer (some ⟨sb, 0, none⟩)] #[]] w fun e w' => e = .returned (.tuple #[]) ∧ w.grownBy w' (some rb) ∧ w'.heap[rb]? = some (rowsC i2 bn2 cn2 bi2 ci2 k2 i1 bn1 cn1 bi1 ci1 k1) := by
  have hi := hid_of (insert_k sb rb i2 bn2 cn2 bi2 ci2 k2 i1 bn1 cn1 bi1 ci1 k1 w hT h2 h1 hR)
  clear hT h2 h1 hR
  go_enter Tryz.func58, Tryz.ntmps58
  go_wp2_with fail
  refine wp_loop_rounds 1 ?_
  rw [rounds_succ]
  go_wp2_with fail
  refine hi.out.mono ?_
  rintro e X1 ⟨rfl, hg, hR⟩
  replace hg := hid_of hg
  replace hR := hid_of hR
  clear hi
  go_wp2_with fail
  refine wp_loop_rounds 1 ?_
  rw [rounds_succ]
  go_wp2_with fail
  go_end0
  exact ⟨rfl, hg.out, hR.out⟩
theorem sorted_k (sb rb : Nat) (i2 : ByteArray) (bn2 cn2 bi2 ci2 k2 : Nat) (i1 : ByteArray) (bn1 cn1 bi1 ci1 k1 : Nat) (w : World) (hT : TurnsAt w sb) (h2 : NumAt w k2 0 2) (h1 : NumAt w k1 0 1) (hR : w.heap[rb]? = some (rowsC i1 bn1 cn1 bi1 ci1 k1 i2 bn2 cn2 bi2 ci2 k2)) :
    Calls Tryz.prog 37 #[.slice (some ⟨rb, 0, none⟩) 2 2, .func (.func 38) #[.pointer (some ⟨sb, 0, none⟩)] #[]] w fun e w' => e = .returned (.tuple #[]) ∧ w.grownBy w' (some rb) ∧ w'.heap[rb]? = some (rowsC i2 bn2 cn2 bi2 ci2 k2 i1 bn1 cn1 bi1 ci1 k1) := by
  have hi := hid_of (stable_k sb rb i2 bn2 cn2 bi2 ci2 k2 i1 bn1 cn1 bi1 ci1 k1 w hT h2 h1 hR)
  clear hT h2 h1 hR
  go_enter Tryz.func37, Tryz.ntmps37
  go_wp2_with fail
  refine hi.out.mono ?_
  rintro e X1 ⟨rfl, hg, hR⟩
  replace hg := hid_of hg
  replace hR := hid_of hR
  clear hi
  go_wp2_with fail
  go_end0
  exact ⟨rfl, hg.out, hR.out⟩
end Go.Proofs.YtgigikcopedoeaaGreat
