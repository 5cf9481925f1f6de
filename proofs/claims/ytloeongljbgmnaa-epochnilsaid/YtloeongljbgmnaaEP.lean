import Derived.Test.YtloeongljbgmnaaEO
/-! epoch: a pass that frees; Pass. -/
namespace Go.Proofs.Ytloeongljbgmnaa
open Go Go.RowKit
section
variable {lo : Nat} {w : World} {x : Kx} {v : Kv}
theorem live_f (h : HeapS lo w x.hb 5 1048576 [⟨1, true, 7⟩] []) (hlo : lo ≤ w.heap.size) : Calls Try.prog 49 #[.pointer (some ⟨x.hb, 0, none⟩), .pointer none, .agg #[.int .i64 1, .int .i64 1]] w fun e w' => e = .returned (.bool true) ∧ FT lo w w' ∧ HeapS lo w' x.hb 5 1048576 [⟨2, false, 0⟩] [1] := by
  have := free_s h 0 1 7 rfl hlo (by decide) (by decide)
  exact this
set_option maxRecDepth 100000 in
set_option maxHeartbeats 4000000 in
theorem pass_free (h : KS lo w x v) (hlo : lo ≤ w.heap.size) (ha : v.a = 0) (hb : v.b = 0) (la : Option Addr) (gr : Nat) (t : Int) (h1 : One w la gr 1 1 t) (hH : HeapS lo w x.hb 5 1048576 [⟨1, true, 7⟩] []) : Calls Try.prog 27 #[.pointer (some ⟨x.kb, 0, none⟩), .pointer none, .agg #[.int .i64 1, .slice la 1 1]] w fun e w' => e = .returned (.int .i64 1) ∧ FH hotK lo w w' ∧ HeapS lo w' x.hb 5 1048576 [⟨2, false, 0⟩] [1] ∧ ∃ la', KS lo w' x { v with cnt := 0, la := la', ln := 0, lc := 1 } := by
  obtain ⟨W1, hW1⟩ : ∃ W1, Hid (w.alloc (.cells #[.int .i64 1, .slice la 1 1] 49) = W1) := ⟨_, rfl⟩
  have z1 := heap_alloc_new w (.cells #[.int .i64 1, .slice la 1 1] 49)
  have hB1 : Below w.heap.size w W1 := by rw [← hW1.out]; exact (Below.refl _ w).alloc (Nat.le_refl _) _
  rw [hW1.out] at z1
  have hlp := loadpins_any (h.under hB1)
  rw [ha, hb] at hlp
  replace hlp := hid_of hlp
  obtain ⟨y0, y1⟩ := cells2 z1
  have h1' := hid_of (h1.under hB1)
  replace hB1 := hid_of hB1
  replace z1 := hid_of z1
  replace h := hid_of h
  replace hH := hid_of hH
  clear h1 ha hb
  go_enter Try.func27, Try.ntmps27
  go_wp2_with (rw [hW1.out])
  refine hlp.out.mono ?_
  rintro e W2 ⟨hB2, g, rfl, hg, kg⟩
  have hd := hid_of (delete_z g W2 kg)
  have hB23 : Below W1.heap.size W1 (W2.setRow g #[.int .i64 0, .int .i64 0]) := below_setRow' hB2 hg _
  generalize W2.setRow g #[.int .i64 0, .int .i64 0] = W3 at hd hB23
  have y0 := stay hB23 y0
  have y1 := stay hB23 y1
  have hsf := hid_of (sift_free g gr la 1 1 t W3 (h1'.out.under hB23))
  replace hB23 := hid_of hB23
  clear hlp hB2 hg kg z1
  go_wp2_with fail
  refine hd.out.mono ?_
  rintro e Z ⟨rfl, hz⟩
  obtain rfl : W3 = Z := hz.symm
  clear hd hz
  go_wp2_with fail
  refine hsf.out.mono ?_
  rintro e W4 ⟨hB4, a, g1, cc, rfl, hge, n0, n1⟩
  have hg1 : Hid (g1 ≠ x.lb) := by
    have e1 := (Array.getElem?_eq_some_iff.1 h.out.l).1
    have e2 := hB1.out.size
    have e3 := hB23.out.size
    show g1 ≠ x.lb
    omega
  clear hge
  obtain ⟨W5, hW5⟩ : ∃ W5, Hid (W4.alloc (.cells #[.int .i64 0, .slice a 0 1] 49) = W5) := ⟨_, rfl⟩
  have z5 := heap_alloc_new W4 (.cells #[.int .i64 0, .slice a 0 1] 49)
  have hB45 : Below W4.heap.size W4 W5 := by rw [← hW5.out]; exact (Below.refl _ W4).alloc (Nat.le_refl _) _
  rw [hW5.out] at z5
  have hB5 : Below w.heap.size w W5 := (hB1.out.trans ((hB23.out.trans (hB4.mono hB23.out.size)).mono hB1.out.size)).trans (hB45.mono (Nat.le_trans hB1.out.size (Nat.le_trans hB23.out.size hB4.size)))
  have h5 := h.out.under hB5
  have hH5 := hH.out.under hB5
  obtain ⟨-, -, -, c3⟩ := cells4 h5.k
  obtain ⟨s0, s1⟩ := cells2 z5
  have m0 := stay hB45 n0
  have m1 := stay hB45 n1
  have hls := hid_of (lset_any x.lb 4 3 v.cnt v.la v.ln v.lc 0 a 0 1 W5.drew (h5.under (below_drew (Below.refl _ W5))).l)
  replace z5 := hid_of z5
  replace h5 := hid_of h5
  replace hH5 := hid_of hH5
  replace hB5 := hid_of hB5
  clear hsf hB4 hB45 hB23 hB1 h1' y0 y1 n0 n1 hW1 h hH
  go_upto_region 7 with (rw [hW5.out])
  go_region_held3 (fun w' => w'.cell? ⟨x.kb, 3, none⟩ = some (.pointer (some ⟨x.lb, 0, none⟩)) ∧ w'.cell? ⟨W4.heap.size, 0, none⟩ = some (.int .i64 0) ∧ w'.cell? ⟨W4.heap.size, 1, none⟩ = some (.slice a 0 1)) (go_keep) (first
    | (go_at_call 26; refine hls.out.mono ?_; rintro e W6 ⟨rfl, k6, hF6⟩; have h6 := (h5.out.under (below_drew (Below.refl _ W5))).setL hF6 k6; have q0 : W6.cell? ⟨x.kb, 3, none⟩ = some (.pointer (some ⟨x.lb, 0, none⟩)) := (cells4 h6.1.k).2.2.2; have z6 := h6.2.cold _ _ _ z5.out rfl; have q1 : W6.cell? ⟨W4.heap.size, 0, none⟩ = some (.int .i64 0) := cell_of z6 rfl; have q2 : W6.cell? ⟨W4.heap.size, 1, none⟩ = some (.slice a 0 1) := cell_of z6 rfl; replace h6 := hid_of h6; replace hF6 := hid_of hF6; replace k6 := hid_of k6; replace z6 := hid_of z6))
  obtain ⟨h6, hT6⟩ := h6.out
  have hH6 := (hH5.out.under (below_drew (Below.refl _ W5))).keepK hT6
  have u0 : W6.cell? ⟨g1, 0, none⟩ = some (.int .i64 1) := hF6.out.cell m0 hg1.out
  have u1 : W6.cell? ⟨g1, 1, none⟩ = some (.int .i64 1) := hF6.out.cell m1 hg1.out
  obtain ⟨W7, hW7⟩ : ∃ W7, Hid (W6.alloc (.cells #[.int .i64 1, .int .i64 1] 82) = W7) := ⟨_, rfl⟩
  have z7 := heap_alloc_new W6 (.cells #[.int .i64 1, .int .i64 1] 82)
  have hB7 : Below W6.heap.size W6 W7 := by rw [← hW7.out]; exact (Below.refl _ W6).alloc (Nat.le_refl _) _
  rw [hW7.out] at z7
  have z7' := z7
  have h7 := h6.under hB7
  have hH7 := hH6.under hB7
  obtain ⟨d0, -, -, -⟩ := cells4 h7.k
  obtain ⟨e0, e1⟩ := cells2 z7
  have hT57 : FH hotK lo w W7 := ((FH.of_below hB5.out hlo).trans (((FH.of_below (hot := hot3) (below_drew (Below.refl _ W5)) (Nat.le_trans hlo hB5.out.size)).trans hT6).up hot3_K)).trans (FH.of_below hB7 (Nat.le_trans hlo (Nat.le_trans hB5.out.size hT6.size)))
  have hfr := hid_of (live_f (hH7.under (below_drew (Below.refl _ W7))) (Nat.le_trans hlo hT57.size))
  replace h7 := hid_of h7
  replace hT57 := hid_of hT57
  clear hH6 hH7 h6 hT6 hB7 m0 m1 s0 s1 q0 q1 q2 z6 z5 k6 hF6 c3 h5 hH5 hB5 hls hg1 hW5 z7
  go_wp2_with fail
  refine wp_loop_rounds 2 ?_
  rw [rounds_succ]
  go_upto_region 12 with (rw [hW7.out])
  go_region_held3 (fun w' => w'.cell? ⟨x.kb, 0, none⟩ = some (.pointer (some ⟨x.hb, 0, none⟩)) ∧ w'.cell? ⟨W6.heap.size, 0, none⟩ = some (.int .i64 1) ∧ w'.cell? ⟨W6.heap.size, 1, none⟩ = some (.int .i64 1)) (go_keep) (first
    | (go_at_call 49; refine hfr.out.mono ?_; rintro e W8 ⟨rfl, hT8, hH8⟩; have h8 := (h7.out.under (below_drew (Below.refl _ W7))).ft hT8; have q0 : W8.cell? ⟨x.kb, 0, none⟩ = some (.pointer (some ⟨x.hb, 0, none⟩)) := (cells4 h8.k).1; have z8 := hT8.cold _ _ z7' rfl; have q1 : W8.cell? ⟨W6.heap.size, 0, none⟩ = some (.int .i64 1) := cell_of z8 rfl; have q2 : W8.cell? ⟨W6.heap.size, 1, none⟩ = some (.int .i64 1) := cell_of z8 rfl; replace h8 := hid_of h8; replace hT8 := hid_of hT8; replace hH8 := hid_of hH8; clear z8))
  have hfin : Hid (FH hotK lo w W8 ∧ HeapS lo W8 x.hb 5 1048576 [⟨2, false, 0⟩] [1] ∧ ∃ la', KS lo W8 x { v with cnt := 0, la := la', ln := 0, lc := 1 }) := ⟨(hT57.out.trans (FH.of_below (below_drew (Below.refl _ W7)) (Nat.le_trans hlo hT57.out.size))).trans (FH.of_ft hT8.out), hH8.out, a, h8.out⟩
  clear h8 hT8 hH8 hT57 h7 hfr d0 e0 e1 q0 q1 q2
  go_wp2_with fail
  rw [rounds_succ]
  go_wp2_with fail
  go_ret
  exact ⟨rfl, hfin.out⟩
end
end Go.Proofs.Ytloeongljbgmnaa
