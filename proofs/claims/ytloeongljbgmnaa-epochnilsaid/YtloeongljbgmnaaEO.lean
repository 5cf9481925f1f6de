import Derived.Test.YtloeongljbgmnaaEN
/-! epoch: the pass. -/
namespace Go.Proofs.Ytloeongljbgmnaa
open Go Go.RowKit
section
variable {lo : Nat} {w : World} {x : Kx} {v : Kv}
set_option maxRecDepth 100000 in
set_option maxHeartbeats 1000000 in
theorem pass_zero (la : Option Addr) (ln lc : Nat) (w : World) : Calls Try.prog 27 #[.pointer (some ⟨x.kb, 0, none⟩), .pointer none, .agg #[.int .i64 0, .slice la ln lc]] w fun e w' => e = .returned (.int .i64 0) ∧ Below w.heap.size w w' := by
  have hB : Hid (Below w.heap.size w (w.alloc (.cells #[.int .i64 0, .slice la ln lc] 49))) := (Below.refl _ w).alloc (Nat.le_refl _) _
  go_enter Try.func27, Try.ntmps27
  go_wp2_with fail
  go_ret
  exact ⟨rfl, hB.out⟩
set_option maxRecDepth 100000 in
set_option maxHeartbeats 2000000 in
theorem pass_held (h : KS lo w x v) (ha : v.a = 2) (hb : v.b = 0) (la : Option Addr) (gr : Nat) (num gen t : Int) (ht : 2 < t) (h1 : One w la gr num gen t) : Calls Try.prog 27 #[.pointer (some ⟨x.kb, 0, none⟩), .pointer none, .agg #[.int .i64 1, .slice la 1 1]] w fun e w' => e = .returned (.int .i64 0) ∧ Below w.heap.size w w' := by
  obtain ⟨W1, hW1⟩ : ∃ W1, Hid (w.alloc (.cells #[.int .i64 1, .slice la 1 1] 49) = W1) := ⟨_, rfl⟩
  have z1 := heap_alloc_new w (.cells #[.int .i64 1, .slice la 1 1] 49)
  have hB1 : Below w.heap.size w W1 := by rw [← hW1.out]; exact (Below.refl _ w).alloc (Nat.le_refl _) _
  rw [hW1.out] at z1
  have hlp := loadpins_any (h.under hB1)
  rw [ha, hb] at hlp
  replace hlp := hid_of hlp
  obtain ⟨y0, y1⟩ := cells2 z1
  have h1' := hid_of (h1.under hB1)
  replace hB1 := hid_of hB1
  replace z1 := hid_of z1
  replace ht := hid_of ht
  clear h h1 ha hb
  go_enter Try.func27, Try.ntmps27
  go_wp2_with (rw [hW1.out])
  refine hlp.out.mono ?_
  rintro e W2 ⟨hB2, g, rfl, hg, kg⟩
  have hd := hid_of (delete_p g W2 kg)
  have hB23 : Below W1.heap.size W1 (W2.setRow g #[.int .i64 2, .int .i64 0]) := below_setRow' hB2 hg _
  have k3 := setRow_heap W2 g _ #[.int .i64 2, .int .i64 0] _ _ kg
  generalize W2.setRow g #[.int .i64 2, .int .i64 0] = W3 at hd hB23 k3
  have g0 : W3.cell? ⟨g, 0, none⟩ = some (.int .i64 2) := cell_of k3 rfl
  have y0 := stay hB23 y0
  have y1 := stay hB23 y1
  have hsf := hid_of (sift_held g gr la num gen t 2 W3 g0 ht.out (h1'.out.under hB23))
  replace hB23 := hid_of hB23
  clear hlp hB2 hg kg k3 g0 z1
  go_wp2_with fail
  refine hd.out.mono ?_
  rintro e Z ⟨rfl, hz⟩
  obtain rfl : W3 = Z := hz.symm
  clear hd hz
  go_wp2_with fail
  refine hsf.out.mono ?_
  rintro e W4 ⟨hB4, a, n, m, rfl⟩
  have hfin : Hid (Below w.heap.size w (W4.alloc (.cells #[.int .i64 1, .slice a n m] 49))) := ((hB1.out.trans ((hB23.out.trans (hB4.mono hB23.out.size)).mono hB1.out.size))).alloc (Nat.le_trans hB1.out.size (Nat.le_trans hB23.out.size hB4.size)) _
  clear hsf hB4 hB23 hB1 h1' y0 y1 ht
  go_wp2_with fail
  go_ret
  exact ⟨rfl, hfin.out⟩
end
end Go.Proofs.Ytloeongljbgmnaa
