import Derived.Test.YtdfkfnhppjhghaaGreatQ1
import Derived.Test.YtdfkfnhppjhghaaGreatA5
import Derived.Handy
/-! The closures of $gt; order.Compare of two numbers; what is asked of lists of one. -/
namespace Go.Proofs.YtdfkfnhppjhghaaGreat
open Go Go.RowKit

def five (k x : Int) (s : ByteArray) (nm it : Value) : List Value := [.int .i64 k, .int .i64 x, .string s, nm, it]
def numV (x : Int) : Value := .agg #[.int .i64 3, .int .i64 x, .string ⟨#[]⟩, .slice none 0 0, .slice none 0 0]
def numC (x : Int) : Obj := .cells #[.int .i64 3, .int .i64 x, .string ⟨#[]⟩, .slice none 0 0, .slice none 0 0] 28
theorem number_any (x : Int) (w : World) : Calls Tryz.prog 11 #[.int .i64 x] w fun e w' => e = .returned (numV x) ∧ Below w.heap.size w w' := by
  go_enter Tryz.func11, Tryz.ntmps11
  go_wp2
  go_returns
  exact ⟨rfl, (Below.refl _ w).alloc (Nat.le_refl _) _⟩
theorem class_num (x : Int) (w : World) : Calls Tryz.prog 84 #[numV x] w fun e w' => e = .returned (.int .i64 3) ∧ Below w.heap.size w w' := by
  unfold numV
  go_enter Tryz.func84, Tryz.ntmps84
  go_wp2
  go_ret
  exact ⟨rfl, (Below.refl _ w).alloc (Nat.le_refl _) _⟩
theorem rank_num (x : Int) (w : World) : Calls Tryz.prog 115 #[numV x] w fun e w' => e = .returned (.int .i64 1) ∧ Below w.heap.size w w' := by
  unfold numV
  go_enter Tryz.func115, Tryz.ntmps115
  go_wp2
  go_ret
  exact ⟨rfl, (Below.refl _ w).alloc (Nat.le_refl _) _⟩
theorem cmp_one (w : World) : Calls Tryz.prog 114 #[.int .i64 1, .int .i64 1] w fun e w' => e = .returned (.int .i64 0) ∧ w' = w := by
  go_enter Tryz.func114, Tryz.ntmps114
  go_wp2
  go_ret
  exact ⟨rfl, rfl⟩
/-- Which of the two stands ahead: 5 and 4, 4 and 4. -/
def cmpZ (x : Int) : Int := if x = 4 then 0 else 1
theorem cmp_four (x : Int) (hx : x = 4 ∨ x = 5) (w : World) : Calls Tryz.prog 116 #[.int .i64 x, .int .i64 4] w fun e w' => e = .returned (.int .i64 (cmpZ x)) ∧ w' = w := by
  rcases hx with rfl | rfl
  all_goals
    go_enter Tryz.func116, Tryz.ntmps116
    go_wp2
    go_ret
    exact ⟨rfl, rfl⟩
end Go.Proofs.YtdfkfnhppjhghaaGreat
