import Derived.Test.YtccfpbnkeaoicaaDoorI2
/-! ident: Mix and Unmix over the table of rounds. -/
namespace Go.Proofs.YtccfpbnkeaoicaaDoor
open Go Go.RowKit
theorem below_drew {B : Nat} {x w : World} (h : Below B x w) : Below B x w.drew := ⟨h.os, h.tape, h.output, h.size, h.block⟩
theorem lt_of_cell {W : World} {p : Addr} {v : Value} (h : W.cell? p = some v) : p.block < W.heap.size := by
  rcases Nat.lt_or_ge p.block W.heap.size with hl | hl
  · exact hl
  · exfalso
    unfold World.cell? at h
    simp [hl] at h
theorem stay {w w' : World} (h : Below w.heap.size w w') {p : Addr} {v : Value} (hc : w.cell? p = some v) : w'.cell? p = some v := (h.cell (lt_of_cell hc)).trans hc
theorem wrap_again (a : Nat) : IntKind.u64.wrap ((a % M64 : Nat) : Int) = ((a % M64 : Nat) : Int) := by
  rw [w_nat, Nat.mod_mod]
theorem wrap_small {a : Nat} (h : a < M64) : IntKind.u64.wrap (a : Int) = (a : Int) := by
  rw [w_nat, Nat.mod_eq_of_lt h]
theorem mix_int2 (n : Nat) (x1 x2 y2 x3 y3 : Int) (h1 : x1 = IntKind.u64.wrap ((n : Int) + 11400714819323198485)) (h2 : x2 = IntKind.u64.wrap (bits .xor .u64 x1 (x1 / 1073741824) * 13787848793156543929)) (g2 : y2 = IntKind.u64.wrap x2) (h3 : x3 = IntKind.u64.wrap (bits .xor .u64 y2 (y2 / 134217728) * 10723151780598845931)) (g3 : y3 = IntKind.u64.wrap x3) :
    IntKind.u64.wrap (bits .xor .u64 y3 (y3 / 2147483648)) = ((mixN n : Nat) : Int) := by
  rw [show (11400714819323198485 : Int) = ((mixP : Nat) : Int) from rfl, w_add] at h1
  subst h1
  rw [show (1073741824 : Int) = ((1073741824 : Nat) : Int) from rfl, bx_div (k := 30) (mod_lt64 _) rfl, show (13787848793156543929 : Int) = ((mixA : Nat) : Int) from rfl, w_mul] at h2
  subst h2
  rw [wrap_again] at g2
  subst g2
  rw [show (134217728 : Int) = ((134217728 : Nat) : Int) from rfl, bx_div (k := 27) (mod_lt64 _) rfl, show (10723151780598845931 : Int) = ((mixB : Nat) : Int) from rfl, w_mul] at h3
  subst h3
  rw [wrap_again] at g3
  subst g3
  rw [show (2147483648 : Int) = ((2147483648 : Nat) : Int) from rfl, bx_div (k := 31) (mod_lt64 _) rfl]
  exact wrap_small (mix_lt n)
/-- The table of rounds, as its text lays it. -/
def RoundsAt (w : World) : Prop := w.cell? ⟨0, 0, none⟩ = some (.int .u64 11400714819323198485) ∧ w.cell? ⟨0, 1, none⟩ = some (.int .u64 13787848793156543929) ∧ w.cell? ⟨0, 2, none⟩ = some (.int .u64 10871156337175269513) ∧ w.cell? ⟨0, 3, none⟩ = some (.int .u64 30) ∧ w.cell? ⟨0, 4, none⟩ = some (.int .u64 0) ∧ w.cell? ⟨0, 5, none⟩ = some (.int .u64 10723151780598845931) ∧ w.cell? ⟨0, 6, none⟩ = some (.int .u64 3573116690164977347) ∧ w.cell? ⟨0, 7, none⟩ = some (.int .u64 27) ∧ w.cell? ⟨0, 8, none⟩ = some (.int .u64 0) ∧ w.cell? ⟨0, 9, none⟩ = some (.int .u64 1) ∧ w.cell? ⟨0, 10, none⟩ = some (.int .u64 1) ∧ w.cell? ⟨0, 11, none⟩ = some (.int .u64 31)
theorem RoundsAt.keep {w w' : World} (h : RoundsAt w) (hb : Below w.heap.size w w') : RoundsAt w' := by
  obtain ⟨c0, c1, c2, c3, c4, c5, c6, c7, c8, c9, c10, c11⟩ := h
  exact ⟨stay hb c0, stay hb c1, stay hb c2, stay hb c3, stay hb c4, stay hb c5, stay hb c6, stay hb c7, stay hb c8, stay hb c9, stay hb c10, stay hb c11⟩
set_option maxHeartbeats 1000000 in
theorem mix_any (n : Nat) (w : World) (hR : RoundsAt w) : Calls Tryd.prog 16 #[.int .u64 n] w fun e w' => e = .returned (.int .u64 (mixN n)) ∧ Below w.heap.size w w' := by
  obtain ⟨c0, c1, c2, c3, c4, c5, c6, c7, c8, c9, c10, c11⟩ := hR
  have i0 : ∀ w, (Instr.index 67 (.agg #[.int .u64 11400714819323198485, .int .u64 13787848793156543929, .int .u64 10871156337175269513, .int .u64 30, .int .u64 0, .int .u64 10723151780598845931, .int .u64 3573116690164977347, .int .u64 27, .int .u64 0, .int .u64 1, .int .u64 1, .int .u64 31]) (.int .i64 0)).run Tryd.prog w = .ok (.agg #[.int .u64 11400714819323198485, .int .u64 13787848793156543929, .int .u64 10871156337175269513, .int .u64 30]) w := fun _ => by kernel_rfl
  have i1 : ∀ w, (Instr.index 67 (.agg #[.int .u64 11400714819323198485, .int .u64 13787848793156543929, .int .u64 10871156337175269513, .int .u64 30, .int .u64 0, .int .u64 10723151780598845931, .int .u64 3573116690164977347, .int .u64 27, .int .u64 0, .int .u64 1, .int .u64 1, .int .u64 31]) (.int .i64 1)).run Tryd.prog w = .ok (.agg #[.int .u64 0, .int .u64 10723151780598845931, .int .u64 3573116690164977347, .int .u64 27]) w := fun _ => by kernel_rfl
  have i2 : ∀ w, (Instr.index 67 (.agg #[.int .u64 11400714819323198485, .int .u64 13787848793156543929, .int .u64 10871156337175269513, .int .u64 30, .int .u64 0, .int .u64 10723151780598845931, .int .u64 3573116690164977347, .int .u64 27, .int .u64 0, .int .u64 1, .int .u64 1, .int .u64 31]) (.int .i64 2)).run Tryd.prog w = .ok (.agg #[.int .u64 0, .int .u64 1, .int .u64 1, .int .u64 31]) w := fun _ => by kernel_rfl
  go_enter Tryd.func16, Tryd.ntmps16
  go_wp2
  refine wp_loop_rounds 4 ?_
  rw [rounds_succ]
  go_wp2
  rw [rounds_succ]
  go_wp2
  rw [rounds_succ]
  go_wp2
  rw [rounds_succ]
  go_wp2
  go_ret
  refine ⟨ret_int (mix_int2 n _ _ _ _ _ rfl rfl rfl rfl rfl), ?_⟩
  exact (((Below.refl _ w).alloc (Nat.le_refl _) _).alloc (by simp) _).alloc (by simp; omega) _
theorem uncut31w (n : Nat) (hn : n < M64) (w : World) : Calls Tryd.prog 36 #[.int .u64 (IntKind.u64.wrap n), .int .u64 31] w fun e w' => e = .returned (.int .u64 (uncutN 31 n)) ∧ w' = w := by
  rw [wrap_small hn]
  exact uncut31 n hn w
theorem below_drewN {B : Nat} {x w : World} (h : Below B x w) (n : Nat) : Below B x (w.drewN n) := ⟨h.os, h.tape, h.output, h.size, h.block⟩
theorem below_one {w0 w : World} (h : Below w0.heap.size w0 w) (o : Obj) (n : Nat) : Below w0.heap.size w0 ((w.alloc o).drewN n) := below_drewN (h.alloc h.size _) n
set_option maxHeartbeats 4000000 in
theorem unmix_any (n : Nat) (hn : n < M64) (w : World) (hR : RoundsAt w) : Calls Tryd.prog 18 #[.int .u64 n] w fun e w' => e = .returned (.int .u64 (unmixN n)) ∧ Below w.heap.size w w' := by
  have q31 := hid_of (uncut31w n hn)
  have q27 := hid_of (uncut27 (uncutN 31 n * mixB' % M64) (mod_lt64 _))
  have q30 := hid_of (uncut30 (uncutN 27 (uncutN 31 n * mixB' % M64) * mixA' % M64) (mod_lt64 _))
  have g1 := hid_of (wrap_small (uncut_lt (k := 31) hn))
  have g2 := hid_of (wrap_small (uncut_lt (k := 27) (mod_lt64 (uncutN 31 n * mixB'))))
  have m1 := hid_of (w_mul (uncutN 31 n) mixB')
  have m2 := hid_of (w_mul (uncutN 27 (uncutN 31 n * mixB' % M64)) mixA')
  have hR' := hid_of hR
  obtain ⟨c0, c1, c2, c3, c4, c5, c6, c7, c8, c9, c10, c11⟩ := hR
  go_enter Tryd.func18, Tryd.ntmps18
  go_wp2
  refine wp_loop_rounds 4 ?_
  rw [rounds_succ]
  go_wp2_with fail
  go_quiet ((go_at_call 36; exact Calls.quiet_of_same (q31.out _)))
  go_wp2_with fail
  clear c0 c1 c2 c3 c4 c5 c6 c7 c8 c9 c10 c11
  rw [g1.out]
  have HB := below_one (Below.refl _ w) (Obj.cells #[.int .u64 0, .int .u64 1, .int .u64 1, .int .u64 31] 66) nq
  generalize World.drewN (World.alloc w (Obj.cells #[.int .u64 0, .int .u64 1, .int .u64 1, .int .u64 31] 66)) nq = w1 at *
  clear nq
  obtain ⟨c0, c1, c2, c3, c4, c5, c6, c7, c8, c9, c10, c11⟩ := hR'.out.keep HB
  rw [rounds_succ]
  go_wp2_with fail
  go_quiet ((go_at_call 36; rw [show (3573116690164977347 : Int) = ((mixB' : Nat) : Int) from rfl, m1.out]; exact Calls.quiet_of_same (q27.out _)))
  go_wp2_with fail
  clear c0 c1 c2 c3 c4 c5 c6 c7 c8 c9 c10 c11
  rw [g2.out]
  have HB1 := below_one HB (Obj.cells #[.int .u64 0, .int .u64 10723151780598845931, .int .u64 3573116690164977347, .int .u64 27] 66) nq
  generalize World.drewN (World.alloc w1 (Obj.cells #[.int .u64 0, .int .u64 10723151780598845931, .int .u64 3573116690164977347, .int .u64 27] 66)) nq = w2 at *
  clear nq HB
  obtain ⟨c0, c1, c2, c3, c4, c5, c6, c7, c8, c9, c10, c11⟩ := hR'.out.keep HB1
  rw [rounds_succ]
  go_wp2_with fail
  go_quiet ((go_at_call 36; rw [show (10871156337175269513 : Int) = ((mixA' : Nat) : Int) from rfl, m2.out]; exact Calls.quiet_of_same (q30.out _)))
  go_wp2_with fail
  clear c0 c1 c2 c3 c4 c5 c6 c7 c8 c9 c10 c11
  have HB2 := below_one HB1 (Obj.cells #[.int .u64 11400714819323198485, .int .u64 13787848793156543929, .int .u64 10871156337175269513, .int .u64 30] 66) nq
  generalize World.drewN (World.alloc w2 (Obj.cells #[.int .u64 11400714819323198485, .int .u64 13787848793156543929, .int .u64 10871156337175269513, .int .u64 30] 66)) nq = w3 at *
  clear nq HB1
  rw [rounds_succ]
  go_wp2_with fail
  go_ret
  refine ⟨ret_int ?_, HB2⟩
  rw [show (11400714819323198485 : Int) = ((mixP : Nat) : Int) from rfl, w_sub (by decide)]
  unfold unmixN mixP M64
  omega
end Go.Proofs.YtccfpbnkeaoicaaDoor
