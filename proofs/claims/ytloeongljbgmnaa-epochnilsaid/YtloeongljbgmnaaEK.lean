import Derived.Test.YtloeongljbgmnaaEJ
/-! epoch: batchOf, loadPins. -/
namespace Go.Proofs.Ytloeongljbgmnaa
open Go Go.RowKit
set_option maxRecDepth 100000 in
set_option maxHeartbeats 2000000 in
theorem batch_nil (s : Int) (na : Option Addr) (nn nc : Nat) (tg : Int) (a : Option Addr) (c : Nat) (w : World) : Calls Try.prog 22 #[.agg #[.int .i64 s, .slice na nn nc, .int .i64 tg], .slice a 0 c] w fun e w' => e = .returned (.agg #[.slice none 0 0, .int .i64 0]) ∧ Below w.heap.size w w' := by
  obtain ⟨W2, hW2⟩ : ∃ W2, Hid ((w.alloc (.cells #[.int .i64 s, .slice na nn nc, .int .i64 tg] 28)).alloc (.cells #[.slice none 0 0, .int .i64 0] 61) = W2) := ⟨_, rfl⟩
  have z1 := heap_alloc2_new w (.cells #[.int .i64 s, .slice na nn nc, .int .i64 tg] 28) (.cells #[.slice none 0 0, .int .i64 0] 61)
  have hB : Below w.heap.size w W2 := by rw [← hW2.out]; exact ((Below.refl _ w).alloc (Nat.le_refl _) _).alloc (by simp) _
  rw [hW2.out] at z1
  replace hB := hid_of hB
  have kk := setRow_heap W2 (w.heap.size + 1) _ #[.slice none 0 0, .int .i64 0] _ _ z1
  obtain ⟨r0, r1⟩ := cells2 kk
  clear kk
  go_enter Try.func22, Try.ntmps22
  go_wp2_with (first | rw [hW2.out] | (refine wpList_store_row rfl 61 _ _ rfl (w.heap.size + 1) _ rfl rfl _ _ z1 batch_i rfl (sl_one _ _ _ _) ?_))
  go_wp2_with fail
  exact bodyPost_ret (v := .agg #[.slice none 0 0, .int .i64 0]) (by simp [results, Try.results22, go_sem, r0, r1]) rfl ⟨rfl, below_setRow' hB.out (by omega) _⟩
set_option maxRecDepth 100000 in
set_option maxHeartbeats 2000000 in
theorem batch_one (s : Int) (na : Option Addr) (nn nc : Nat) (tg : Int) (b c : Nat) (num gen : Int) (w : World) (hs : 0 ≤ s ∧ s ≤ 4611686018427387904) (h0 : w.cell? ⟨b, 0, none⟩ = some (.int .i64 num)) (h1 : w.cell? ⟨b, 1, none⟩ = some (.int .i64 gen)) : Calls Try.prog 22 #[.agg #[.int .i64 s, .slice na nn nc, .int .i64 tg], .slice (some ⟨b, 0, none⟩) 1 c] w fun e w' => Below w.heap.size w w' ∧ ∃ gr, e = .returned (.agg #[.slice (some ⟨gr, 0, none⟩) 1 1, .int .i64 (s + 1)]) ∧ w.heap.size ≤ gr ∧ w'.heap[gr]? = some (.cells #[.int .i64 num, .int .i64 gen] 82 (0, 0)) := by
  obtain ⟨hs1, hs2⟩ := hs
  obtain ⟨W3, hW3⟩ : ∃ W3, Hid (((w.alloc (.cells #[.int .i64 s, .slice na nn nc, .int .i64 tg] 28)).alloc (.cells #[.slice none 0 0, .int .i64 0] 61)).alloc (.cells #[.int .i64 0, .int .i64 0] 82) = W3) := ⟨_, rfl⟩
  obtain ⟨z0, z1, z2⟩ := heap_alloc3 w (.cells #[.int .i64 s, .slice na nn nc, .int .i64 tg] 28) (.cells #[.slice none 0 0, .int .i64 0] 61) (.cells #[.int .i64 0, .int .i64 0] 82)
  have hB : Below w.heap.size w W3 := by rw [← hW3.out]; exact (((Below.refl _ w).alloc (Nat.le_refl _) _).alloc (by simp) _).alloc (by simp; omega) _
  rw [hW3.out] at z0 z1 z2
  have hm := mk_refs
  have hcp := cp_refs (w.heap.size + 2) b c num gen _ _ W3 z2 (stay hB h0) (stay hB h1)
  obtain ⟨W4, hW4⟩ : ∃ W4, W3.setRow (w.heap.size + 2) #[.int .i64 num, .int .i64 gen] = W4 := ⟨_, rfl⟩
  rw [hW4] at hcp
  have k2 := setRow_heap W3 (w.heap.size + 2) _ #[.int .i64 num, .int .i64 gen] _ _ z2
  have k1 := (setRow_other W3 (w.heap.size + 2) (w.heap.size + 1) #[.int .i64 num, .int .i64 gen] (by omega)).trans z1
  have k0 := (setRow_other W3 (w.heap.size + 2) w.heap.size #[.int .i64 num, .int .i64 gen] (by omega)).trans z0
  have hB4 := below_setRow' hB (g := w.heap.size + 2) (by omega) #[.int .i64 num, .int .i64 gen]
  rw [hW4] at k0 k1 k2 hB4
  obtain ⟨c0, c1, c2⟩ := cells3 k0
  have hst := hid_of (stamp_any s na nn nc tg W4)
  replace hB4 := hid_of hB4
  replace k1 := hid_of k1
  replace k2 := hid_of k2
  clear z0 z1 z2 k0 hB h0 h1 hW4
  go_enter Try.func22, Try.ntmps22
  go_wp2_with (rw [hW3.out])
  refine hst.out.mono ?_
  rintro e X ⟨rfl, hX⟩
  have x1 := (hX.block _ (Array.getElem?_eq_some_iff.1 k1.out).1).trans k1.out
  have x2 := (hX.block _ (Array.getElem?_eq_some_iff.1 k2.out).1).trans k2.out
  have kk := setRow_heap X (w.heap.size + 1) _ #[.slice (some ⟨w.heap.size + 2, 0, none⟩) 1 1, .int .i64 (s + 1)] _ _ x1
  obtain ⟨r0, r1⟩ := cells2 kk
  have hfin : Hid (Below w.heap.size w (X.setRow (w.heap.size + 1) #[.slice (some ⟨w.heap.size + 2, 0, none⟩) 1 1, .int .i64 (s + 1)]) ∧ (X.setRow (w.heap.size + 1) #[.slice (some ⟨w.heap.size + 2, 0, none⟩) 1 1, .int .i64 (s + 1)]).heap[w.heap.size + 2]? = some (.cells #[.int .i64 num, .int .i64 gen] 82 (0, 0))) := ⟨below_setRow' (hB4.out.trans (hX.mono hB4.out.size)) (by omega) _, (setRow_other _ _ _ _ (by omega)).trans x2⟩
  clear hst hX k1 k2 kk hcp hm c0 c1 c2 hW3 hB4 x2
  go_wp2_with (refine wpList_store_row rfl 61 _ _ rfl (w.heap.size + 1) _ rfl rfl _ _ x1 batch_i rfl (sl_one _ _ _ _) ?_)
  go_wp2_with fail
  exact bodyPost_ret (v := .agg #[.slice (some ⟨w.heap.size + 2, 0, none⟩) 1 1, .int .i64 (s + 1)]) (by simp [results, Try.results22, go_sem, r0, r1]) rfl ⟨hfin.out.1, _, rfl, by omega, hfin.out.2⟩
theorem mk_pins (w : World) : (Instr.makeSlice 36 (.int .i64 2) (.int .i64 2)).run Try.prog w = .ok (.slice (some ⟨w.heap.size, 0, none⟩) 2 2) (w.alloc (.cells #[.int .i64 0, .int .i64 0] 2)) := by kernel_rfl
set_option maxRecDepth 100000 in
set_option maxHeartbeats 4000000 in
theorem loadpins_any {lo : Nat} {w : World} {x : Kx} {v : Kv} (h : KS lo w x v) : Calls Try.prog 28 #[.pointer (some ⟨x.kb, 0, none⟩), .pointer none] w fun e w' => Below w.heap.size w w' ∧ ∃ g, e = .returned (.slice (some ⟨g, 0, none⟩) 2 2) ∧ w.heap.size ≤ g ∧ w'.heap[g]? = some (.cells #[.int .i64 v.a, .int .i64 v.b] 2 (0, 0)) := by
  obtain ⟨W1, hW1⟩ : ∃ W1, Hid (w.alloc (.cells #[.int .i64 0, .int .i64 0] 2) = W1) := ⟨_, rfl⟩
  have z1 := heap_alloc_new w (.cells #[.int .i64 0, .int .i64 0] 2)
  have hB1 : Below w.heap.size w W1 := by rw [← hW1.out]; exact (Below.refl _ w).alloc (Nat.le_refl _) _
  rw [hW1.out] at z1
  have h1 := h.under hB1
  obtain ⟨-, -, c2, -⟩ := cells4 h.k
  obtain ⟨-, -, c2', -⟩ := cells4 h1.k
  obtain ⟨d0, d1⟩ := cells2 h1.p
  obtain ⟨v0, a1, a2⟩ := h1.p0
  have hm := mk_pins
  have hg0 := hid_of (iget_any x.q0 v0 4 1 v.a W1 a1 a2)
  replace h1 := hid_of h1
  replace z1 := hid_of z1
  replace hB1 := hid_of hB1
  have H := hid_of h
  clear a1 a2 h
  go_enter Try.func28, Try.ntmps28
  go_wp2_with (rw [hW1.out])
  refine wp_loop_rounds 3 ?_
  rw [rounds_succ]
  go_wp2_with fail
  refine hg0.out.mono ?_
  rintro e X ⟨rfl, hX⟩
  have x1 := (hX.block _ (Array.getElem?_eq_some_iff.1 z1.out).1).trans z1.out
  have x0 : X.cell? ⟨w.heap.size, 0, none⟩ = some (.int .i64 0) := cell_of x1 rfl
  have xf : X.frozen? ⟨w.heap.size, 0, none⟩ = false := warm x1
  obtain ⟨Y, hY⟩ : ∃ Y, Hid (X.setCell ⟨w.heap.size, 0, none⟩ (.int .i64 v.a) = Y) := ⟨_, rfl⟩
  have y1 := heap_setCell_same X w.heap.size 0 _ _ (.int .i64 v.a) x1
  have hBY : Below w.heap.size w Y := by rw [← hY.out]; exact ((Fr.of_below (S := fun _ => False) (hB1.out.trans (hX.mono hB1.out.size))).set _ _ (.inr (Nat.le_refl _))).below (Nat.le_refl _) (fun _ h => h.elim)
  have hY3 : KS lo Y x v := H.out.under hBY
  rw [hY.out] at y1
  obtain ⟨-, -, e2, -⟩ := cells4 hY3.k
  obtain ⟨f0, f1⟩ := cells2 hY3.p
  obtain ⟨v1, b1, b2⟩ := hY3.p1
  have hg1 := hid_of (iget_any x.q1 v1 4 2 v.b Y b1 b2)
  replace hBY := hid_of hBY
  replace y1 := hid_of y1
  clear hX x1 hg0 h1 z1 hB1 c2 c2' d0 d1 b1 b2 hY3 hW1
  go_wp2_with (rw [hY.out])
  rw [rounds_succ]
  go_wp2_with (rw [hY.out])
  refine hg1.out.mono ?_
  rintro e X2 ⟨rfl, hX2⟩
  have u1 := (hX2.block _ (Array.getElem?_eq_some_iff.1 y1.out).1).trans y1.out
  have u0 : X2.cell? ⟨w.heap.size, 1, none⟩ = some (.int .i64 0) := cell_of u1 rfl
  have uf : X2.frozen? ⟨w.heap.size, 1, none⟩ = false := warm u1
  obtain ⟨Y2, hY2⟩ : ∃ Y2, Hid (X2.setCell ⟨w.heap.size, 1, none⟩ (.int .i64 v.b) = Y2) := ⟨_, rfl⟩
  have y2 := heap_setCell_same X2 w.heap.size 1 _ _ (.int .i64 v.b) u1
  have hBY2 : Below w.heap.size w Y2 := by rw [← hY2.out]; exact ((Fr.of_below (S := fun _ => False) (hBY.out.trans (hX2.mono hBY.out.size))).set _ _ (.inr (Nat.le_refl _))).below (Nat.le_refl _) (fun _ h => h.elim)
  rw [hY2.out] at y2
  replace y2 := hid_of y2
  replace hBY2 := hid_of hBY2
  clear hX2 u1 hg1 y1 hBY e2 f0 f1 x0 xf hY
  go_wp2_with (rw [hY2.out])
  rw [rounds_succ]
  go_wp2_with (rw [hY2.out])
  go_ret
  exact ⟨hBY2.out, w.heap.size, rfl, Nat.le_refl _, y2.out⟩
end Go.Proofs.Ytloeongljbgmnaa
