import Derived.Test.YteojoaceecncnaaCF
/-! cursor: a nil filter, nil fields, a page in memory. -/
namespace Go.Proofs.Yteojoaceecncnaa
open Go Go.RowKit

/-- A number as a value. -/
def numV (n : Int) : Value := .agg #[.int .i64 3, .int .i64 n, .string ⟨#[]⟩, .slice none 0 0, .slice none 0 0]
set_option maxHeartbeats 1000000 in
theorem match_nil (n : Int) (w : World) : Calls Try.prog 24 #[.pointer none, numV n] w fun e w' => e = .returned (.bool true) ∧ Below w.heap.size w w' := by
  have HB := hid_of ((Below.refl _ w).alloc (Nat.le_refl _) (.cells #[.int .i64 3, .int .i64 n, .string ⟨#[]⟩, .slice none 0 0, .slice none 0 0] 48))
  unfold numV
  go_enter Try.func24, Try.ntmps24
  go_wp2_with fail
  generalize w.alloc (.cells #[.int .i64 3, .int .i64 n, .string ⟨#[]⟩, .slice none 0 0, .slice none 0 0] 48) = W1 at HB ⊢
  refine wp_region_quiet (C := fun w' => Below W1.heap.size W1 w') (by kernel_rfl) (by kernel_rfl) (below_drewN (Below.refl _ _) 1) ?_
  with_reducible refine wpQuiet_step (fun K hK => ?_)
  refine ⟨.pointer none, fun w' hw' => ?_, ?_⟩
  · first | (go_simp; done) | (go_simp; decide) | (go_simp; omega)
  with_reducible refine hK _ ?_
  clear hK K
  simp only [Act.put, List.setIfInBounds_toArray, List.set_cons_zero, List.set_cons_succ]
  with_reducible refine wpQuiet_step (fun K hK => ?_)
  refine ⟨.bool true, fun w' hw' => ?_, ?_⟩
  · first | (go_simp; done) | (go_simp; decide) | (go_simp; omega)
  with_reducible refine hK _ ?_
  clear hK K
  simp only [Act.put, List.setIfInBounds_toArray, List.set_cons_zero, List.set_cons_succ]
  with_reducible refine wpQuiet_step (fun K hK => ?_)
  refine ⟨.bool true, fun w' hw' => ?_, ?_⟩
  · first | (go_simp; done) | (go_simp; decide) | (go_simp; omega)
  with_reducible refine hK _ ?_
  clear hK K
  simp only [Act.put, List.setIfInBounds_toArray, List.set_cons_zero, List.set_cons_succ]
  with_reducible refine wpQuiet_step (fun K hK => ?_)
  refine k_quiet_else (by kernel_rfl) ?_
  with_reducible refine hK _ ?_
  clear hK K
  simp only [Act.put, List.setIfInBounds_toArray, List.set_cons_zero, List.set_cons_succ]
  with_reducible refine wpQuiet_step (fun K hK => ?_)
  refine k_quiet_else (by kernel_rfl) ?_
  with_reducible refine hK _ ?_
  clear hK K
  simp only [Act.put, List.setIfInBounds_toArray, List.set_cons_zero, List.set_cons_succ]
  with_reducible refine wpQuiet_step (fun K hK => ?_)
  refine k_quiet_else (by kernel_rfl) ?_
  with_reducible refine hK _ ?_
  clear hK K
  simp only [Act.put, List.setIfInBounds_toArray, List.set_cons_zero, List.set_cons_succ]
  with_reducible refine wpQuiet_step (fun K hK => ?_)
  refine k_quiet_else (by kernel_rfl) ?_
  with_reducible refine hK _ ?_
  clear hK K
  simp only [Act.put, List.setIfInBounds_toArray, List.set_cons_zero, List.set_cons_succ]
  with_reducible refine wpQuiet_step (fun K hK => ?_)
  refine k_quiet_else (by kernel_rfl) ?_
  with_reducible refine hK _ ?_
  clear hK K
  simp only [Act.put, List.setIfInBounds_toArray, List.set_cons_zero, List.set_cons_succ]
  with_reducible refine wpQuiet_step (fun K hK => ?_)
  refine k_quiet_else (by kernel_rfl) ?_
  with_reducible refine hK _ ?_
  clear hK K
  simp only [Act.put, List.setIfInBounds_toArray, List.set_cons_zero, List.set_cons_succ]
  with_reducible refine wpQuiet_step (fun K hK => ?_)
  refine ⟨.bool true, fun w' hw' => ?_, ?_⟩
  · first | (go_simp; done) | (go_simp; decide) | (go_simp; omega)
  with_reducible refine hK _ ?_
  clear hK K
  simp only [Act.put, List.setIfInBounds_toArray, List.set_cons_zero, List.set_cons_succ]
  with_reducible refine wpQuiet_step (fun K hK => ?_)
  refine ⟨.bool true, fun w' hw' => ?_, ?_⟩
  · first | (go_simp; done) | (go_simp; decide) | (go_simp; omega)
  with_reducible refine hK _ ?_
  clear hK K
  simp only [Act.put, List.setIfInBounds_toArray, List.set_cons_zero, List.set_cons_succ]
  refine wpQuiet_nil ?_
  intro X1 hX1
  replace HB := hid_of (HB.out.trans (hX1.mono HB.out.size))
  clear hX1
  go_wp2_with fail
  go_ret
  exact ⟨rfl, HB.out⟩
set_option maxHeartbeats 1000000 in
theorem apply_nil (n : Int) (w : World) : Calls Try.prog 25 #[.pointer none, numV n] w fun e w' => e = .returned (numV n) ∧ Below w.heap.size w w' := by
  have HB := fun o o' => hid_of (((Below.refl _ w).alloc (Nat.le_refl _) o).alloc (by simp) o')
  unfold numV
  go_enter Try.func25, Try.ntmps25
  go_wp2_with fail
  go_returns
  exact ⟨rfl, (HB _ _).out⟩
/-- A page in memory. -/
def PgAt (w : World) (b batch looked rank : Nat) (key : ByteArray) (docs : Value) : Prop := w.heap[b]? = some (.cells #[.pointer none, .pointer none, .int .i64 batch, .int .i64 looked, .int .u64 rank, .string key, .bool false, docs, .int .i64 0] 64 (0, 0))
theorem PgAt.cells {w : World} {b batch looked rank : Nat} {key : ByteArray} {docs : Value} (h : PgAt w b batch looked rank key docs) : (w.cell? ⟨b, 0, none⟩ = some (.pointer none) ∧ w.cell? ⟨b, 1, none⟩ = some (.pointer none) ∧ w.cell? ⟨b, 2, none⟩ = some (.int .i64 batch) ∧ w.cell? ⟨b, 3, none⟩ = some (.int .i64 looked) ∧ w.cell? ⟨b, 4, none⟩ = some (.int .u64 rank) ∧ w.cell? ⟨b, 5, none⟩ = some (.string key) ∧ w.cell? ⟨b, 6, none⟩ = some (.bool false) ∧ w.cell? ⟨b, 7, none⟩ = some docs ∧ w.cell? ⟨b, 8, none⟩ = some (.int .i64 0)) ∧ ∀ j, w.frozen? ⟨b, j, none⟩ = false := by
  unfold PgAt at h
  simp [World.cell?, World.frozen?, h]
theorem PgAt.keep {w w' : World} {b batch looked rank : Nat} {key : ByteArray} {docs : Value} (h : PgAt w b batch looked rank key docs) (hb : Below w.heap.size w w') : PgAt w' b batch looked rank key docs := (hb.block _ (Array.getElem?_eq_some_iff.1 h).1).trans h
theorem eq_dec (n m : Nat) : ((n : Int) == (m : Int)) = decide (n = m) := by
  by_cases h : n = m
  · subst h; simp
  · simp [h]
    omega
set_option maxHeartbeats 1000000 in
theorem full_any (b batch looked rank n c : Nat) (key : ByteArray) (a : Option Addr) (w : World) (h : PgAt w b batch looked rank key (.slice a n c)) :
    Calls Try.prog 20 #[.pointer (some ⟨b, 0, none⟩)] w fun e w' => e = .returned (.bool (decide (n = batch))) ∧ Below w.heap.size w w' := by
  obtain ⟨⟨h0, h1, h2, h3, h4, h5, h6, h7, h8⟩, hf⟩ := h.cells
  have HB := hid_of (below_drew (Below.refl w.heap.size w))
  clear h hf
  go_enter Try.func20, Try.ntmps20
  go_wp2_with fail
  go_region
  go_wp2_with fail
  go_ret
  exact ⟨ret_bool (eq_dec _ _), HB.out⟩
end Go.Proofs.Yteojoaceecncnaa
