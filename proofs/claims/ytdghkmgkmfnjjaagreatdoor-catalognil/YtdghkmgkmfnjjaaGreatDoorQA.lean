import Derived.Test.YtdghkmgkmfnjjaaGreatDoorJM
/-! A change of nothing: an index without entries. -/
namespace Go.Proofs.YtdghkmgkmfnjjaaGreatDoor
open Go Go.RowKit

theorem mk_edits0 (w : World) : (Instr.makeSlice 245 (.int .i64 0) (.int .i64 0)).run Tryz.prog w = .ok (.slice (some ⟨w.heap.size, 0, none⟩) 0 0) (w.alloc (.cells #[] 248)) := by kernel_rfl
theorem mk_list0 (w : World) : (Instr.makeSlice 103 (.int .i64 0) (.int .i64 0)).run Tryz.prog w = .ok (.slice (some ⟨w.heap.size, 0, none⟩) 0 0) (w.alloc (.cells #[] 128)) := by kernel_rfl
theorem ap_none0 {P : Program} (w : World) (t ty e : TypeId) (i : TypeInfo) (ht : P.underlying t = some (.slice e)) (hi : P.info? e = some i) (g : Nat) :
    (Builtin.append_ #[t, t] ty #[.slice (some ⟨g, 0, none⟩) 0 0, .slice none 0 0]).run P w = .ok (.slice (some ⟨g, 0, none⟩) 0 0) w := by
  have hst : ∀ a, (storeCells a []).run P w = .ok () w := fun _ => rfl
  simp [Builtin.append_, run_underlying ht, sizeOf, typeInfo, hi, Builtin.lenOf, Builtin.firstCells, hst]
set_option maxHeartbeats 1000000 in
set_option maxRecDepth 100000 in
theorem len64_0 (w : World) : Calls Tryz.prog 82 #[.int .u64 0] w fun e w' => ∃ z : Int, e = .returned (.int .i64 z) ∧ w' = w := by
  go_enter Tryz.func82, Tryz.ntmps82
  go_wp2
  go_ret
  exact ⟨_, rfl, rfl⟩
set_option maxHeartbeats 1000000 in
theorem blen_0 (w : World) : Calls Tryz.prog 48 #[.int .u64 0] w fun e w' => ∃ z : Int, e = .returned (.int .i64 z) ∧ w' = w := by
  have h := hid_of (len64_0 w)
  go_enter Tryz.func48, Tryz.ntmps48
  go_wp2_with fail
  refine h.out.mono ?_
  rintro e X1 ⟨z, rfl, hX⟩
  have hX := hX.symm; subst hX
  go_wp2_with fail
  go_ret
  exact ⟨z, rfl, rfl⟩
set_option maxHeartbeats 1000000 in
set_option maxRecDepth 100000 in
theorem insert_0 (rb cp : Nat) (f : Value) (w : World) : Calls Tryz.prog 198 #[.slice (some ⟨rb, 0, none⟩) 0 cp, .int .i64 0, .int .i64 0, f] w fun e w' => e = .returned (.tuple #[]) ∧ w' = w := by
  go_enter Tryz.func198, Tryz.ntmps198
  go_wp2_with fail
  refine wp_loop_rounds 1 ?_
  rw [rounds_succ]
  go_wp2_with fail
  go_end0
  exact ⟨rfl, rfl⟩
set_option maxHeartbeats 1000000 in
set_option maxRecDepth 100000 in
theorem pdq_0 (rb cp : Nat) (f : Value) (z : Int) (w : World) : Calls Tryz.prog 189 #[.slice (some ⟨rb, 0, none⟩) 0 cp, .int .i64 0, .int .i64 0, .int .i64 z, f] w fun e w' => e = .returned (.tuple #[]) ∧ w' = w := by
  go_enter Tryz.func189, Tryz.ntmps189
  go_wp2_with fail
  refine wp_loop_rounds 1 ?_
  rw [rounds_succ]
  go_wp2_with fail
  refine (insert_0 rb cp f w).mono ?_
  rintro e X1 ⟨rfl, hX⟩
  have hX := hX.symm; subst hX
  go_wp2_with fail
  ((try simp only [Exit.inBlock, Exit.then]); refine bodyPost_ret (results_none rfl _ _ _) rfl ?_)
  exact ⟨rfl, rfl⟩
set_option maxHeartbeats 1000000 in
set_option maxRecDepth 100000 in
theorem sortf_0 (rb cp : Nat) (f : Value) (w : World) : Calls Tryz.prog 180 #[.slice (some ⟨rb, 0, none⟩) 0 cp, f] w fun e w' => e = .returned (.tuple #[]) ∧ w' = w := by
  go_enter Tryz.func180, Tryz.ntmps180
  go_wp2_with fail
  refine (blen_0 w).mono ?_
  rintro e X1 ⟨z, rfl, hX⟩
  have hX := hX.symm; subst hX
  go_wp2_with fail
  refine (pdq_0 rb cp f z w).mono ?_
  rintro e X1 ⟨rfl, hX⟩
  have hX := hX.symm; subst hX
  go_wp2_with fail
  go_end0
  exact ⟨rfl, rfl⟩
set_option maxHeartbeats 2000000 in
set_option maxRecDepth 100000 in
theorem edits0 (fid : Nat) (w : World) : Calls Tryz.prog 165 #[.slice none 0 0, .slice none 0 0, .func (.func fid) #[] #[]] w fun e w' => Below w.heap.size w w' ∧ ∃ rb, e = .returned (.slice (some ⟨rb, 0, none⟩) 0 0) := by
  have hmk := mk_edits0
  go_enter Tryz.func165, Tryz.ntmps165
  go_wp2_with fail
  refine wp_loop_rounds 1 ?_
  rw [rounds_succ]
  go_wp2_with fail
  refine wp_loop_rounds 1 ?_
  rw [rounds_succ]
  go_wp2_with fail
  refine (sortf_0 _ _ _ _).mono ?_
  rintro e X1 ⟨rfl, hX⟩
  have hB : Below w.heap.size w X1 := by
    rw [hX]
    exact ((Below.refl _ w).alloc (Nat.le_refl _) _).alloc (by simp) _
  replace hB := hid_of hB
  clear hX hmk
  go_wp2_with fail
  go_ret
  exact ⟨hB.out, _, rfl⟩
set_option maxHeartbeats 2000000 in
set_option maxRecDepth 100000 in
theorem edited0 (fid : Nat) (w : World) : Calls Tryz.prog 132 #[.slice none 0 0, .slice none 0 0, .slice none 0 0, .func (.func fid) #[] #[]] w fun e w' => Below w.heap.size w w' ∧ ∃ rb, e = .returned (.slice (some ⟨rb, 0, none⟩) 0 0) := by
  obtain ⟨i5, hi5, hz0, hz1, hz2⟩ := info_parts AE
  have hmk := mk_list0
  have Q0 := ((Below.refl _ w).alloc (Nat.le_refl _) (.cells #[.slice none 0 0] 103)).alloc (by simp) (.cells #[.func (.func fid) #[] #[]] 205)
  have c0 : ((w.alloc (.cells #[.slice none 0 0] 103)).alloc (.cells #[.func (.func fid) #[] #[]] 205)).cell? ⟨w.heap.size, 0, none⟩ = some (.slice none 0 0) := cell_alloc' (cell_of_one (heap_alloc_new w _)) _
  go_enter Tryz.func132, Tryz.ntmps132
  go_wp2_with fail
  refine (edits0 _ _).mono ?_
  rintro e X1 ⟨hB, rb, rfl⟩
  have c1 : X1.cell? ⟨w.heap.size, 0, none⟩ = some (.slice none 0 0) := stay hB (cell_alloc' c0 _)
  have hB1 := hid_of ((Q0.alloc Q0.size _).trans (hB.mono (Q0.alloc Q0.size _).size))
  clear hB c0 hmk Q0
  have hap := ap_none0 (P := Tryz.prog) X1 103 103 _ i5 Tryz.underlying103 hi5
  go_wp2_with fail
  refine wp_loop_rounds 1 ?_
  rw [rounds_succ]
  go_wp2_with fail
  go_ret
  exact ⟨hB1.out, _, rfl⟩
end Go.Proofs.YtdghkmgkmfnjjaaGreatDoor
