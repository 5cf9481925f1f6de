import Derived.Test.YtloeongljbgmnaaEH
import Derived.Laws.CopyRow
import Derived.LoopN
/-! epoch: blockOf, with, batchOf. -/
namespace Go.Proofs.Ytloeongljbgmnaa
open Go Go.RowKit
set_option maxRecDepth 100000 in
set_option maxHeartbeats 2000000 in
theorem blockof_any (g : Nat) (a : Option Addr) (n c : Nat) (t : Int) (w : World) (hg : w.heap[g]? = some (.cells #[.slice a n c, .int .i64 t] 61 (0, 0))) : Calls Try.prog 43 #[.slice (some ⟨g, 0, none⟩) 1 1] w fun e w' => e = .returned (.agg #[.slice (some ⟨g, 0, none⟩) 1 1, .int .i64 t]) ∧ Below w.heap.size w w' := by
  obtain ⟨W1, hW1⟩ : ∃ W1, Hid (w.alloc (.cells #[.slice none 0 0, .int .i64 0] 110) = W1) := ⟨_, rfl⟩
  have z1 := heap_alloc_new w (.cells #[.slice none 0 0, .int .i64 0] 110)
  have hB : Below w.heap.size w W1 := by rw [← hW1.out]; exact (Below.refl _ w).alloc (Nat.le_refl _) _
  rw [hW1.out] at z1
  have hg1 := (hB.block _ (Array.getElem?_eq_some_iff.1 hg).1).trans hg
  obtain ⟨y0, y1⟩ := cells2 hg1
  obtain ⟨W2, hW2⟩ : ∃ W2, Hid (W1.alloc (.cells #[.slice a n c, .int .i64 t] 61) = W2) := ⟨_, rfl⟩
  have hB2 : Below W1.heap.size W1 W2 := by rw [← hW2.out]; exact (Below.refl _ W1).alloc (Nat.le_refl _) _
  have k2 := heap_alloc_new W1 (.cells #[.slice a n c, .int .i64 t] 61)
  rw [hW2.out] at k2
  have z2 := (hB2.block _ (Array.getElem?_eq_some_iff.1 z1).1).trans z1
  obtain ⟨x0, x1⟩ := cells2 k2
  have hB3 : Hid (Below w.heap.size w W2) := hB.trans (hB2.mono hB.size)
  have kk := setRow_heap W2 w.heap.size _ #[.slice (some ⟨g, 0, none⟩) 1 1, .int .i64 t] _ _ z2
  obtain ⟨r0, r1⟩ := cells2 kk
  clear hg hg1 hB hB2 k2 z1 kk
  go_enter Try.func43, Try.ntmps43
  go_wp2_with (rw [hW1.out])
  refine wp_loop_rounds 2 ?_
  rw [rounds_succ]
  go_wp2_with (rw [hW2.out])
  rw [rounds_succ]
  go_wp2_with (refine wpList_store_row rfl 110 _ _ rfl w.heap.size _ rfl rfl _ _ z2 block_i rfl (sl_one _ _ _ _) ?_)
  go_wp2_with fail
  exact bodyPost_ret (v := .agg #[.slice (some ⟨g, 0, none⟩) 1 1, .int .i64 t]) (by simp [results, Try.results43, go_sem, r0, r1]) rfl ⟨rfl, below_setRow' hB3.out (Nat.le_refl _) _⟩
theorem mk_refs (w : World) : (Instr.makeSlice 26 (.int .i64 1) (.int .i64 1)).run Try.prog w = .ok (.slice (some ⟨w.heap.size, 0, none⟩) 1 1) (w.alloc (.cells #[.int .i64 0, .int .i64 0] 82)) := by kernel_rfl
theorem refs_u : Try.prog.underlying 26 = some (.slice 82) := by kernel_rfl
/-- One Ref goes over. -/
theorem cp_refs (g b c : Nat) (num gen : Int) (x y : Value) (w : World) (hg : w.heap[g]? = some (.cells #[x, y] 82 (0, 0))) (h0 : w.cell? ⟨b, 0, none⟩ = some (.int .i64 num)) (h1 : w.cell? ⟨b, 1, none⟩ = some (.int .i64 gen)) :
    (Builtin.copy_ #[26, 26] 3 #[.slice (some ⟨g, 0, none⟩) 1 1, .slice (some ⟨b, 0, none⟩) 1 c]).run Try.prog w = .ok (.int .i64 1) (w.setRow g #[.int .i64 num, .int .i64 gen]) := by
  have hl := run_loadCells_list (P := Try.prog) w ⟨b, 0, none⟩ [.int .i64 num, .int .i64 gen] (fun j v hj => by
    rcases j with _ | _ | j
    · simp at hj; subst hj; simpa [Addr.add] using h0
    · simp at hj; subst hj; simpa [Addr.add] using h1
    · simp at hj)
  have hst := run_storeCells_at Try.prog g 0 82 [.int .i64 num, .int .i64 gen] 0 #[x, y] w hg (by simp) (by simp [Value.oneCell'])
  cases hq : Try.prog.info? 82 with
  | none => have := ref_i; rw [hq] at this; cases this
  | some i =>
    have hi : i.size = 2 := by have := ref_i; rw [hq] at this; simpa using this
    simp at hl hst
    simp [Builtin.copy_, run_underlying refs_u, Builtin.lenOf, Builtin.firstCells, sizeOf, typeInfo, hq, hi, hl, hst, goInt, Nat.min_def]
end Go.Proofs.Ytloeongljbgmnaa
