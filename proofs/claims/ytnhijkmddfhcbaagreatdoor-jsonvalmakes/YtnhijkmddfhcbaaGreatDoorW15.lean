import Derived.Test.YtnhijkmddfhcbaaGreatDoorW14
import Derived.Test.YtnhijkmddfhcbaaGreatDoorShelf3
namespace Go.Proofs.YtnhijkmddfhcbaaGreatDoor
open Go Go.RowKit Go.Maps

/-- What Print leans on besides. -/
structure EnvP (w : World) : Prop where
  utf : Lib.Utf8Tabs 1 2 w
  tab : Lib.TabIs Tryz.prog w "internal/strconv.uint64pow10" .u64 Lib.pow10Tab
  big : 8 ≤ w.heap.size
theorem nest_any (k : Int) (w : World) : Calls Tryz.prog 80 #[.int .i64 k] w fun e w' => e = .returned (.bool (k == 5 || k == 6)) ∧ w' = w := by
  go_enter Tryz.func80, Tryz.ntmps80
  go_wp2
  all_goals (go_ret; exact ⟨ret_bool (by try simp [*]), rfl⟩)
theorem deep_flat (k : Int) (h5 : (k == 5) = false) (h6 : (k == 6) = false) (w : World) : Calls Tryz.prog 66 #[.int .i64 k] w fun e w' => e = .returned (.int .i64 64) ∧ w' = w := by
  go_enter Tryz.func66, Tryz.ntmps66
  go_wp2_with (go_at_call 80; refine (nest_any _ _).mono ?_; rintro e w' ⟨rfl, rfl⟩)
  go_ret
  exact ⟨rfl, rfl⟩
theorem deep_nest (k : Int) (h : k = 5 ∨ k = 6) (w : World) : Calls Tryz.prog 66 #[.int .i64 k] w fun e w' => e = .returned (.int .i64 63) ∧ w' = w := by
  rcases h with rfl | rfl
  all_goals
    go_enter Tryz.func66, Tryz.ntmps66
    go_wp2_with (go_at_call 80; refine (nest_any _ _).mono ?_; rintro e w' ⟨rfl, rfl⟩)
    go_ret
    exact ⟨rfl, rfl⟩
/-- The five cells fit their kind. -/
inductive Fits : Int → Int → ByteArray → Nat → Nat → Prop
  | flat (k : Int) (h : k = 0 ∨ k = 1 ∨ k = 2) : Fits k 0 noS 0 0
  | int (x : Int) : Fits 3 x noS 0 0
  | text (s : ByteArray) : Fits 4 0 s 0 0
  | list (n : Nat) : Fits 5 0 noS 0 n
  | obj (n : Nat) : Fits 6 0 noS n n
set_option maxHeartbeats 1000000 in
theorem keeps_any (k x : Int) (s : ByteArray) (a1 : Option Addr) (l1 c1 : Nat) (a2 : Option Addr) (l2 c2 : Nat) (h : Fits k x s l1 l2) (w : World) :
    Calls Tryz.prog 67 #[.agg #[.int .i64 k, .int .i64 x, .string s, .slice a1 l1 c1, .slice a2 l2 c2]] w fun e w' => e = .returned (.bool true) ∧ Below w.heap.size w w' := by
  have hB : ∀ o, Below w.heap.size w (w.alloc o) := fun o => (Below.refl _ _).alloc (Nat.le_refl _) _
  cases h with
  | flat k h =>
    rcases h with rfl | rfl | rfl
    all_goals
      unfold noS
      go_enter Tryz.func67, Tryz.ntmps67
      go_wp2_with (go_at_call 80; refine (nest_any _ _).mono ?_; rintro e w' ⟨rfl, rfl⟩)
      go_ret
      exact ⟨rfl, hB _⟩
  | int x =>
    unfold noS
    go_enter Tryz.func67, Tryz.ntmps67
    go_wp2_with (go_at_call 80; refine (nest_any _ _).mono ?_; rintro e w' ⟨rfl, rfl⟩)
    all_goals (go_ret; exact ⟨ret_bool (by try simp [*]), hB _⟩)
  | text s =>
    go_enter Tryz.func67, Tryz.ntmps67
    go_wp2_with (go_at_call 80; refine (nest_any _ _).mono ?_; rintro e w' ⟨rfl, rfl⟩)
    all_goals (go_ret; exact ⟨ret_bool (by try simp [*]), hB _⟩)
  | list n =>
    unfold noS
    go_enter Tryz.func67, Tryz.ntmps67
    go_wp2_with (go_at_call 80; refine (nest_any _ _).mono ?_; rintro e w' ⟨rfl, rfl⟩)
    all_goals (go_ret; exact ⟨ret_bool (by try simp [*]), hB _⟩)
  | obj n =>
    unfold noS
    go_enter Tryz.func67, Tryz.ntmps67
    go_wp2_with (go_at_call 80; refine (nest_any _ _).mono ?_; rintro e w' ⟨rfl, rfl⟩)
    all_goals (go_ret; exact ⟨ret_bool (by try simp [*]), hB _⟩)
end Go.Proofs.YtnhijkmddfhcbaaGreatDoor
