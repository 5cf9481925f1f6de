import Derived.Test.YtloeongljbgmnaaEK
/-! epoch: the pins that are not 0. -/
namespace Go.Proofs.Ytloeongljbgmnaa
open Go Go.RowKit
theorem is0_any (n : Int) (w : World) : Calls Try.prog 47 #[.int .i64 n] w fun e w' => e = .returned (.bool (n == 0)) ∧ w' = w := by
  go_enter Try.func47, Try.ntmps47
  go_wp2
  go_ret
  exact ⟨rfl, rfl⟩
set_option maxRecDepth 100000 in
set_option maxHeartbeats 2000000 in
theorem index_p (g : Nat) (w : World) (h0 : w.cell? ⟨g, 0, none⟩ = some (.int .i64 2)) (h1 : w.cell? ⟨g, 1, none⟩ = some (.int .i64 0)) : Calls Try.prog 61 #[.slice (some ⟨g, 0, none⟩) 2 2, .func (.func 47) #[] #[]] w fun e w' => e = .returned (.int .i64 1) ∧ w' = w := by
  have hf := hid_of (is0_any 2 w)
  have hf2 := hid_of (is0_any 0 w)
  go_enter Try.func61, Try.ntmps61
  go_wp2_with fail
  refine wp_loop_rounds 2 ?_
  rw [rounds_succ]
  go_wp2_with fail
  refine hf.out.mono ?_
  rintro e W2 ⟨rfl, hz⟩
  obtain rfl : w = W2 := hz.symm
  clear hf hz
  go_wp2_with fail
  rw [rounds_succ]
  go_wp2_with fail
  refine hf2.out.mono ?_
  rintro e W2 ⟨rfl, hz⟩
  obtain rfl : w = W2 := hz.symm
  clear hf2 hz
  go_wp2_with fail
  go_ret
  exact ⟨rfl, rfl⟩
set_option maxRecDepth 100000 in
set_option maxHeartbeats 2000000 in
theorem index_z (g : Nat) (w : World) (h0 : w.cell? ⟨g, 0, none⟩ = some (.int .i64 0)) : Calls Try.prog 61 #[.slice (some ⟨g, 0, none⟩) 2 2, .func (.func 47) #[] #[]] w fun e w' => e = .returned (.int .i64 0) ∧ w' = w := by
  have hf2 := hid_of (is0_any 0 w)
  go_enter Try.func61, Try.ntmps61
  go_wp2_with fail
  refine wp_loop_rounds 1 ?_
  rw [rounds_succ]
  go_wp2_with fail
  refine hf2.out.mono ?_
  rintro e W2 ⟨rfl, hz⟩
  obtain rfl : w = W2 := hz.symm
  clear hf2 hz
  go_wp2_with fail
  go_ret
  exact ⟨rfl, rfl⟩
theorem pins_u : Try.prog.underlying 36 = some (.slice 2) := by kernel_rfl
theorem int64_z : (Try.prog.info? 2).map (·.zero) = some (some (.int .i64 0)) := by kernel_rfl
theorem clear_one (g c : Nat) (ty : TypeId) (a b : Value) (w : World) (hg : w.heap[g]? = some (.cells #[a, b] 2 (0, 0))) : (Builtin.clear_ #[36] ty #[.slice (some ⟨g, 1, none⟩) 1 c]).run Try.prog w = .ok (.tuple #[]) (w.setRow g #[a, .int .i64 0]) := by
  have hst := run_storeCells_at Try.prog g 1 2 [.int .i64 0] 0 #[a, b] w hg (by simp) (by simp [Value.oneCell'])
  cases hq : Try.prog.info? 2 with
  | none => have := int64_z; rw [hq] at this; cases this
  | some i =>
    have hi : i.zero = some (.int .i64 0) := by have := int64_z; rw [hq] at this; simpa using this
    have hz : (Builtin.zeroCells #[.int .i64 0] 1).toList = [.int .i64 0] := by simp [Builtin.zeroCells, Array.range]
    simp at hst
    simp [Builtin.clear_, run_underlying pins_u, zeroValue, typeInfo, hq, hi, Value.cells, hz, hst]
theorem clear_two (g c : Nat) (ty : TypeId) (a b : Value) (w : World) (hg : w.heap[g]? = some (.cells #[a, b] 2 (0, 0))) : (Builtin.clear_ #[36] ty #[.slice (some ⟨g, 0, none⟩) 2 c]).run Try.prog w = .ok (.tuple #[]) (w.setRow g #[.int .i64 0, .int .i64 0]) := by
  have hst := run_storeCells_at Try.prog g 0 2 [.int .i64 0, .int .i64 0] 0 #[a, b] w hg (by simp) (by simp [Value.oneCell'])
  cases hq : Try.prog.info? 2 with
  | none => have := int64_z; rw [hq] at this; cases this
  | some i =>
    have hi : i.zero = some (.int .i64 0) := by have := int64_z; rw [hq] at this; simpa using this
    have hz : (Builtin.zeroCells #[.int .i64 0] 2).toList = [.int .i64 0, .int .i64 0] := by simp [Builtin.zeroCells, Array.range]
    simp at hst
    simp [Builtin.clear_, run_underlying pins_u, zeroValue, typeInfo, hq, hi, Value.cells, hz, hst]
set_option maxRecDepth 100000 in
set_option maxHeartbeats 2000000 in
theorem delete_p (g : Nat) (w : World) (hg : w.heap[g]? = some (.cells #[.int .i64 2, .int .i64 0] 2 (0, 0))) : Calls Try.prog 46 #[.slice (some ⟨g, 0, none⟩) 2 2, .func (.func 47) #[] #[]] w fun e w' => e = .returned (.slice (some ⟨g, 0, none⟩) 1 2) ∧ w' = w.setRow g #[.int .i64 2, .int .i64 0] := by
  obtain ⟨h0, h1⟩ := cells2 hg
  have hcl := fun c ty => clear_one g c ty _ _ w hg
  obtain ⟨W9, hW9⟩ : ∃ W9, w.setRow g #[.int .i64 2, .int .i64 0] = W9 := ⟨_, rfl⟩
  simp only [hW9] at hcl ⊢
  have hi := hid_of (index_p g w h0 h1)
  clear hg
  go_enter Try.func46, Try.ntmps46
  go_wp2_with fail
  refine hi.out.mono ?_
  rintro e W2 ⟨rfl, hz⟩
  obtain rfl : w = W2 := hz.symm
  clear hi hz
  go_wp2_with fail
  refine wp_loop_rounds 1 ?_
  rw [rounds_succ]
  go_wp2_with fail
  go_ret
  exact ⟨rfl, rfl⟩
set_option maxRecDepth 100000 in
set_option maxHeartbeats 2000000 in
theorem delete_z (g : Nat) (w : World) (hg : w.heap[g]? = some (.cells #[.int .i64 0, .int .i64 0] 2 (0, 0))) : Calls Try.prog 46 #[.slice (some ⟨g, 0, none⟩) 2 2, .func (.func 47) #[] #[]] w fun e w' => e = .returned (.slice (some ⟨g, 0, none⟩) 0 2) ∧ w' = w.setRow g #[.int .i64 0, .int .i64 0] := by
  obtain ⟨h0, h1⟩ := cells2 hg
  have hcl := fun c ty => clear_two g c ty _ _ w hg
  obtain ⟨W9, hW9⟩ : ∃ W9, w.setRow g #[.int .i64 0, .int .i64 0] = W9 := ⟨_, rfl⟩
  simp only [hW9] at hcl ⊢
  have hi := hid_of (index_z g w h0)
  have hf := hid_of (is0_any 0 w)
  clear hg
  go_enter Try.func46, Try.ntmps46
  go_wp2_with fail
  refine hi.out.mono ?_
  rintro e W2 ⟨rfl, hz⟩
  obtain rfl : w = W2 := hz.symm
  clear hi hz
  go_wp2_with fail
  refine wp_loop_rounds 2 ?_
  rw [rounds_succ]
  go_wp2_with fail
  refine hf.out.mono ?_
  rintro e W2 ⟨rfl, hz⟩
  obtain rfl : w = W2 := hz.symm
  clear hf hz
  go_wp2_with fail
  rw [rounds_succ]
  go_wp2_with fail
  go_ret
  exact ⟨rfl, rfl⟩
end Go.Proofs.Ytloeongljbgmnaa
