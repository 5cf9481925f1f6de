import Derived.Test.YteojoaceecncnaaCB
import Derived.BigQuiet
import Derived.Deep.QuietTactic
/-! cursor: places in memory; two of them by their numbers. -/
namespace Go.Proofs.Yteojoaceecncnaa
open Go Go.RowKit

theorem lt_of_cell {w : World} {p : Addr} {v : Value} (h : w.cell? p = some v) : p.block < w.heap.size := by
  unfold World.cell? at h
  by_cases hl : p.block < w.heap.size
  · exact hl
  · rw [Array.getElem?_eq_none (by omega)] at h
    simp at h
theorem stay {w w' : World} (h : Below w.heap.size w w') {p : Addr} {v : Value} (hc : w.cell? p = some v) : w'.cell? p = some v := (World.cell?_of_block (h.block _ (lt_of_cell hc))).trans hc
theorem below_drewN {B : Nat} {x w : World} (h : Below B x w) (n : Nat) : Below B x (w.drewN n) := ⟨h.os, h.tape, h.output, h.size, h.block⟩
theorem k_quiet_if {c : Bool} {p q : Prop} (h : c = true) (hp : p) : if c = true then p else q := by rw [if_pos h]; exact hp
theorem k_quiet_else {c : Bool} {p q : Prop} (h : c = false) (hq : q) : if c = true then p else q := by rw [if_neg (by rw [h]; decide)]; exact hq
/-- Places lie in block b. -/
def PlAt (w : World) (b : Nat) (ks : List ByteArray) : Prop := ∀ j k, ks[j]? = some k → w.cell? ⟨b, j * 2, none⟩ = some (.int .u64 (rankK k)) ∧ w.cell? ⟨b, j * 2 + 1, none⟩ = some (.string k)
theorem PlAt.keep {w w' : World} {b : Nat} {ks : List ByteArray} (h : PlAt w b ks) (hb : Below w.heap.size w w') : PlAt w' b ks := fun j k hk => ⟨stay hb (h j k hk).1, stay hb (h j k hk).2⟩
/-- Two numbers of a list of keys. -/
def cmpL (i j : Nat) (a b : ByteArray) : Int := if cmpP (rankK a) a (rankK b) b = 0 then cmpI i j else cmpP (rankK a) a (rankK b) b
set_option maxHeartbeats 4000000 in
theorem lcompare_any (b n c i j : Nat) (ki kj : ByteArray) (w : World) (hi : i < n) (hj : j < n) (a0 : w.cell? ⟨b, i * 2, none⟩ = some (.int .u64 (rankK ki))) (a1 : w.cell? ⟨b, i * 2 + 1, none⟩ = some (.string ki)) (b0 : w.cell? ⟨b, j * 2, none⟩ = some (.int .u64 (rankK kj))) (b1 : w.cell? ⟨b, j * 2 + 1, none⟩ = some (.string kj)) :
    Calls Try.prog 29 #[.slice (some ⟨b, 0, none⟩) n c, .int .i64 i, .int .i64 j] w fun e w' => e = .returned (.int .i64 (cmpL i j ki kj)) ∧ Below w.heap.size w w' := by
  have hp := fun W => hid_of (pcompare_any (rankK ki) ki (rankK kj) kj W)
  have hq := fun W => hid_of (cmp3 i j W)
  unfold cmpL
  generalize cmpP (rankK ki) ki (rankK kj) kj = z at hp ⊢
  by_cases hz : z = 0
  · subst hz
    rw [if_pos rfl]
    go_enter Try.func29, Try.ntmps29
    go_wp2_with fail
    refine wp_region_quiet (C := fun w' => Below w.heap.size w w') (by kernel_rfl) (by kernel_rfl) (below_drewN (Below.refl _ _) 1) ?_
    with_reducible refine wpQuiet_step (fun K hK => ?_)
    refine ⟨.slice (some ⟨b, 0, none⟩) n c, fun w' hw' => ?_, ?_⟩
    · first | (go_simp; done) | (go_simp; decide) | (go_simp; omega)
    with_reducible refine hK _ ?_
    clear hK K
    simp only [Act.put, List.setIfInBounds_toArray, List.set_cons_zero, List.set_cons_succ]
    with_reducible refine wpQuiet_step (fun K hK => ?_)
    refine ⟨.int .i64 i, fun w' hw' => ?_, ?_⟩
    · first | (go_simp; done) | (go_simp; decide) | (go_simp; omega)
    with_reducible refine hK _ ?_
    clear hK K
    simp only [Act.put, List.setIfInBounds_toArray, List.set_cons_zero, List.set_cons_succ]
    with_reducible refine wpQuiet_step (fun K hK => ?_)
    refine ⟨.pointer (some ⟨b, i * 2, none⟩), fun w' hw' => ?_, ?_⟩
    · first | (go_simp; done) | (go_simp; decide) | (go_simp; omega)
    with_reducible refine hK _ ?_
    clear hK K
    simp only [Act.put, List.setIfInBounds_toArray, List.set_cons_zero, List.set_cons_succ]
    with_reducible refine wpQuiet_step (fun K hK => ?_)
    refine ⟨.agg #[.int .u64 (rankK ki), .string ki], fun w' hw' => ?_, ?_⟩
    · have t0 := stay hw' a0; have t1 := stay hw' a1; go_simp
    with_reducible refine hK _ ?_
    clear hK K
    simp only [Act.put, List.setIfInBounds_toArray, List.set_cons_zero, List.set_cons_succ]
    with_reducible refine wpQuiet_step (fun K hK => ?_)
    refine ⟨.slice (some ⟨b, 0, none⟩) n c, fun w' hw' => ?_, ?_⟩
    · first | (go_simp; done) | (go_simp; decide) | (go_simp; omega)
    with_reducible refine hK _ ?_
    clear hK K
    simp only [Act.put, List.setIfInBounds_toArray, List.set_cons_zero, List.set_cons_succ]
    with_reducible refine wpQuiet_step (fun K hK => ?_)
    refine ⟨.int .i64 j, fun w' hw' => ?_, ?_⟩
    · first | (go_simp; done) | (go_simp; decide) | (go_simp; omega)
    with_reducible refine hK _ ?_
    clear hK K
    simp only [Act.put, List.setIfInBounds_toArray, List.set_cons_zero, List.set_cons_succ]
    with_reducible refine wpQuiet_step (fun K hK => ?_)
    refine ⟨.pointer (some ⟨b, j * 2, none⟩), fun w' hw' => ?_, ?_⟩
    · first | (go_simp; done) | (go_simp; decide) | (go_simp; omega)
    with_reducible refine hK _ ?_
    clear hK K
    simp only [Act.put, List.setIfInBounds_toArray, List.set_cons_zero, List.set_cons_succ]
    with_reducible refine wpQuiet_step (fun K hK => ?_)
    refine ⟨.agg #[.int .u64 (rankK kj), .string kj], fun w' hw' => ?_, ?_⟩
    · have t0 := stay hw' b0; have t1 := stay hw' b1; go_simp
    with_reducible refine hK _ ?_
    clear hK K
    simp only [Act.put, List.setIfInBounds_toArray, List.set_cons_zero, List.set_cons_succ]
    with_reducible refine wpQuiet_step (fun K hK => ?_)
    refine ⟨.int .i64 0, fun w' hw' => ?_, ?_⟩
    · go_simp
      refine ((hp w').out).mono ?_
      rintro e w'' ⟨rfl, hb'⟩
      exact ⟨rfl, hw'.trans (hb'.mono hw'.size)⟩
    with_reducible refine hK _ ?_
    clear hK K
    simp only [Act.put, List.setIfInBounds_toArray, List.set_cons_zero, List.set_cons_succ]
    with_reducible refine wpQuiet_step (fun K hK => ?_)
    refine ⟨.int .i64 0, fun w' hw' => ?_, ?_⟩
    · first | (go_simp; done) | (go_simp; decide) | (go_simp; omega)
    with_reducible refine hK _ ?_
    clear hK K
    simp only [Act.put, List.setIfInBounds_toArray, List.set_cons_zero, List.set_cons_succ]
    refine wpQuiet_nil ?_
    intro X1 hX1
    replace hX1 := hid_of hX1
    go_wp2_with fail
    refine (hq _).out.mono ?_
    rintro e X1 ⟨rfl, hX⟩
    have hX := hX.symm; subst hX
    go_wp2_with fail
    go_ret
    exact ⟨rfl, hX1.out⟩
  · rw [if_neg hz]
    have hz' : (z != 0) = true := by simpa using hz
    clear hz
    go_enter Try.func29, Try.ntmps29
    go_wp2_with fail
    refine wp_region_quiet (C := fun w' => Below w.heap.size w w') (by kernel_rfl) (by kernel_rfl) (below_drewN (Below.refl _ _) 1) ?_
    with_reducible refine wpQuiet_step (fun K hK => ?_)
    refine ⟨.slice (some ⟨b, 0, none⟩) n c, fun w' hw' => ?_, ?_⟩
    · first | (go_simp; done) | (go_simp; decide) | (go_simp; omega)
    with_reducible refine hK _ ?_
    clear hK K
    simp only [Act.put, List.setIfInBounds_toArray, List.set_cons_zero, List.set_cons_succ]
    with_reducible refine wpQuiet_step (fun K hK => ?_)
    refine ⟨.int .i64 i, fun w' hw' => ?_, ?_⟩
    · first | (go_simp; done) | (go_simp; decide) | (go_simp; omega)
    with_reducible refine hK _ ?_
    clear hK K
    simp only [Act.put, List.setIfInBounds_toArray, List.set_cons_zero, List.set_cons_succ]
    with_reducible refine wpQuiet_step (fun K hK => ?_)
    refine ⟨.pointer (some ⟨b, i * 2, none⟩), fun w' hw' => ?_, ?_⟩
    · first | (go_simp; done) | (go_simp; decide) | (go_simp; omega)
    with_reducible refine hK _ ?_
    clear hK K
    simp only [Act.put, List.setIfInBounds_toArray, List.set_cons_zero, List.set_cons_succ]
    with_reducible refine wpQuiet_step (fun K hK => ?_)
    refine ⟨.agg #[.int .u64 (rankK ki), .string ki], fun w' hw' => ?_, ?_⟩
    · have t0 := stay hw' a0; have t1 := stay hw' a1; go_simp
    with_reducible refine hK _ ?_
    clear hK K
    simp only [Act.put, List.setIfInBounds_toArray, List.set_cons_zero, List.set_cons_succ]
    with_reducible refine wpQuiet_step (fun K hK => ?_)
    refine ⟨.slice (some ⟨b, 0, none⟩) n c, fun w' hw' => ?_, ?_⟩
    · first | (go_simp; done) | (go_simp; decide) | (go_simp; omega)
    with_reducible refine hK _ ?_
    clear hK K
    simp only [Act.put, List.setIfInBounds_toArray, List.set_cons_zero, List.set_cons_succ]
    with_reducible refine wpQuiet_step (fun K hK => ?_)
    refine ⟨.int .i64 j, fun w' hw' => ?_, ?_⟩
    · first | (go_simp; done) | (go_simp; decide) | (go_simp; omega)
    with_reducible refine hK _ ?_
    clear hK K
    simp only [Act.put, List.setIfInBounds_toArray, List.set_cons_zero, List.set_cons_succ]
    with_reducible refine wpQuiet_step (fun K hK => ?_)
    refine ⟨.pointer (some ⟨b, j * 2, none⟩), fun w' hw' => ?_, ?_⟩
    · first | (go_simp; done) | (go_simp; decide) | (go_simp; omega)
    with_reducible refine hK _ ?_
    clear hK K
    simp only [Act.put, List.setIfInBounds_toArray, List.set_cons_zero, List.set_cons_succ]
    with_reducible refine wpQuiet_step (fun K hK => ?_)
    refine ⟨.agg #[.int .u64 (rankK kj), .string kj], fun w' hw' => ?_, ?_⟩
    · have t0 := stay hw' b0; have t1 := stay hw' b1; go_simp
    with_reducible refine hK _ ?_
    clear hK K
    simp only [Act.put, List.setIfInBounds_toArray, List.set_cons_zero, List.set_cons_succ]
    with_reducible refine wpQuiet_step (fun K hK => ?_)
    refine ⟨.int .i64 z, fun w' hw' => ?_, ?_⟩
    · go_simp
      refine ((hp w').out).mono ?_
      rintro e w'' ⟨rfl, hb'⟩
      exact ⟨rfl, hw'.trans (hb'.mono hw'.size)⟩
    with_reducible refine hK _ ?_
    clear hK K
    simp only [Act.put, List.setIfInBounds_toArray, List.set_cons_zero, List.set_cons_succ]
    with_reducible refine wpQuiet_step (fun K hK => ?_)
    refine ⟨.int .i64 z, fun w' hw' => ?_, ?_⟩
    · first | (go_simp; done) | (go_simp; decide) | (go_simp; omega)
    with_reducible refine hK _ ?_
    clear hK K
    simp only [Act.put, List.setIfInBounds_toArray, List.set_cons_zero, List.set_cons_succ]
    refine wpQuiet_nil ?_
    intro X1 hX1
    replace hX1 := hid_of hX1
    go_wp2_with fail
    go_ret
    exact ⟨rfl, hX1.out⟩
end Go.Proofs.Yteojoaceecncnaa
