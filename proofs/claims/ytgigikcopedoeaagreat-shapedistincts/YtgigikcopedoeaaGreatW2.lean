import Derived.Test.YtgigikcopedoeaaGreatW1
/-! Small functions of shape; ParseSort of one name. -/
namespace Go.Proofs.YtgigikcopedoeaaGreat
open Go Go.RowKit

theorem num6 (e : Int) (w : World) : Calls Tryz.prog 19 #[.int .i64 e] w fun r w' => r = .returned (.int .i64 e) ∧ w' = w := by
  go_enter Tryz.func19, Tryz.ntmps19
  go_wp2
  go_ret
  exact ⟨rfl, rfl⟩
theorem members_a (bn cn bi ci : Nat) (w : World) : Calls Tryz.prog 39 #[objV bn cn bi ci] w fun e w' => e = .returned (.int .i64 1) ∧ Below w.heap.size w w' := by
  unfold objV
  go_enter Tryz.func39, Tryz.ntmps39
  go_wp2
  go_ret
  exact ⟨rfl, (Below.refl _ w).alloc (Nat.le_refl _) _⟩
theorem isnum (x y : Int) (b : Bool) (h : (x == y) = b) (w : World) : Calls Tryz.prog 51 #[numV x, .int .i64 y] w fun e w' => e = .returned (.bool b) ∧ Below w.heap.size w w' := by
  unfold numV
  go_enter Tryz.func51, Tryz.ntmps51
  go_wp2
  go_ret
  exact ⟨rfl, (Below.refl _ w).alloc (Nat.le_refl _) _⟩
theorem contains_turns0 (f : Value) (c : Nat) (w : World) : Calls Tryz.prog 63 #[.slice none 0 c, f] w fun e w' => e = .returned (.bool false) ∧ w' = w := by
  have hi : Hid (Calls Tryz.prog 103 #[.slice none 0 c, f] w fun e w' => e = .returned (.int .i64 (-1)) ∧ w' = w) := by
    unfold Hid
    go_enter Tryz.func103, Tryz.ntmps103
    go_wp2_with fail
    refine wp_loop_rounds 1 ?_
    rw [rounds_succ]
    go_wp2_with fail
    go_ret
    exact ⟨rfl, rfl⟩
  go_enter Tryz.func63, Tryz.ntmps63
  go_wp2_with fail
  refine hi.out.mono ?_
  rintro e w1 ⟨rfl, rfl⟩
  go_wp2_with fail
  go_ret
  exact ⟨rfl, rfl⟩
theorem contains_paths0 (f : Value) (c : Nat) (w : World) : Calls Tryz.prog 80 #[.slice none 0 c, f] w fun e w' => e = .returned (.bool false) ∧ w' = w := by
  have hi : Hid (Calls Tryz.prog 115 #[.slice none 0 c, f] w fun e w' => e = .returned (.int .i64 (-1)) ∧ w' = w) := by
    unfold Hid
    go_enter Tryz.func115, Tryz.ntmps115
    go_wp2_with fail
    refine wp_loop_rounds 1 ?_
    rw [rounds_succ]
    go_wp2_with fail
    go_ret
    exact ⟨rfl, rfl⟩
  go_enter Tryz.func80, Tryz.ntmps80
  go_wp2_with fail
  refine hi.out.mono ?_
  rintro e w1 ⟨rfl, rfl⟩
  go_wp2_with fail
  go_ret
  exact ⟨rfl, rfl⟩
theorem parsed_a : parseR nameA 0 [] = ([nameA], 0, 0) := by kernel_rfl
theorem idx_a : idxV nameA = .tuple #[.int .i64 0, .bool false] := by kernel_rfl
theorem isindex_a (w : World) : Calls Tryz.prog 79 #[.string nameA] w fun e w' => e = .returned (.bool false) ∧ Below w.heap.size w w' := by
  have hi := hid_of (index_any nameA (by decide) w)
  rw [idx_a] at hi
  go_enter Tryz.func79, Tryz.ntmps79
  go_wp2_with fail
  refine hi.out.mono ?_
  rintro e w1 ⟨rfl, hb⟩
  go_wp2_with fail
  go_ret
  exact ⟨rfl, hb⟩
end Go.Proofs.YtgigikcopedoeaaGreat
