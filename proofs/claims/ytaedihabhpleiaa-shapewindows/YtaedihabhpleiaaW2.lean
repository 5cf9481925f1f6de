import Derived.Test.YtaedihabhpleiaaW1
/-! Small functions of shape; ParseSort of one name. -/
namespace Go.Proofs.Ytaedihabhpleiaa
open Go Go.RowKit

theorem num6 (e : Int) (w : World) : Calls Try.prog 11 #[.int .i64 e] w fun r w' => r = .returned (.int .i64 e) ∧ w' = w := by
  go_enter Try.func11, Try.ntmps11
  go_wp2
  go_ret
  exact ⟨rfl, rfl⟩
theorem members_a (bn cn bi ci : Nat) (w : World) : Calls Try.prog 14 #[objV bn cn bi ci] w fun e w' => e = .returned (.int .i64 1) ∧ Below w.heap.size w w' := by
  unfold objV
  go_enter Try.func14, Try.ntmps14
  go_wp2
  go_ret
  exact ⟨rfl, (Below.refl _ w).alloc (Nat.le_refl _) _⟩
theorem isnum (x y : Int) (b : Bool) (h : (x == y) = b) (w : World) : Calls Try.prog 16 #[numV x, .int .i64 y] w fun e w' => e = .returned (.bool b) ∧ Below w.heap.size w w' := by
  unfold numV
  go_enter Try.func16, Try.ntmps16
  go_wp2
  go_ret
  exact ⟨rfl, (Below.refl _ w).alloc (Nat.le_refl _) _⟩
theorem contains_turns0 (f : Value) (c : Nat) (w : World) : Calls Try.prog 25 #[.slice none 0 c, f] w fun e w' => e = .returned (.bool false) ∧ w' = w := by
  have hi : Hid (Calls Try.prog 45 #[.slice none 0 c, f] w fun e w' => e = .returned (.int .i64 (-1)) ∧ w' = w) := by
    unfold Hid
    go_enter Try.func45, Try.ntmps45
    go_wp2_with fail
    refine wp_loop_rounds 1 ?_
    rw [rounds_succ]
    go_wp2_with fail
    go_ret
    exact ⟨rfl, rfl⟩
  go_enter Try.func25, Try.ntmps25
  go_wp2_with fail
  refine hi.out.mono ?_
  rintro e w1 ⟨rfl, rfl⟩
  go_wp2_with fail
  go_ret
  exact ⟨rfl, rfl⟩
theorem contains_paths0 (f : Value) (c : Nat) (w : World) : Calls Try.prog 30 #[.slice none 0 c, f] w fun e w' => e = .returned (.bool false) ∧ w' = w := by
  have hi : Hid (Calls Try.prog 48 #[.slice none 0 c, f] w fun e w' => e = .returned (.int .i64 (-1)) ∧ w' = w) := by
    unfold Hid
    go_enter Try.func48, Try.ntmps48
    go_wp2_with fail
    refine wp_loop_rounds 1 ?_
    rw [rounds_succ]
    go_wp2_with fail
    go_ret
    exact ⟨rfl, rfl⟩
  go_enter Try.func30, Try.ntmps30
  go_wp2_with fail
  refine hi.out.mono ?_
  rintro e w1 ⟨rfl, rfl⟩
  go_wp2_with fail
  go_ret
  exact ⟨rfl, rfl⟩
theorem parsed_a : parseR nameA 0 [] = ([nameA], 0, 0) := by kernel_rfl
theorem idx_a : idxV nameA = .tuple #[.int .i64 0, .bool false] := by kernel_rfl
theorem isindex_a (w : World) : Calls Try.prog 29 #[.string nameA] w fun e w' => e = .returned (.bool false) ∧ Below w.heap.size w w' := by
  have hi := hid_of (index_any nameA (by decide) w)
  rw [idx_a] at hi
  go_enter Try.func29, Try.ntmps29
  go_wp2_with fail
  refine hi.out.mono ?_
  rintro e w1 ⟨rfl, hb⟩
  go_wp2_with fail
  go_ret
  exact ⟨rfl, hb⟩
end Go.Proofs.Ytaedihabhpleiaa
