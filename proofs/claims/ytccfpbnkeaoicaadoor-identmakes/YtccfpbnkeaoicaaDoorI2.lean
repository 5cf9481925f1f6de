import Derived.Test.YtccfpbnkeaoicaaDoorProg
import Derived.Test.YtccfpbnkeaoicaaDoorI1
import Derived.WalkKit
import Derived.WalkLawsBesides
import Derived.Outline
import Derived.Below
import Derived.Deep.QuietTactic
import Derived.BigQuiet
/-! ident: uncut; the document's unshift and inverse. -/
namespace Go.Proofs.YtccfpbnkeaoicaaDoor
open Go Go.RowKit
theorem hid_of {p : Prop} (h : p) : Hid p := h
theorem ret_int {k : IntKind} {a b : Int} (h : a = b) : Ending.returned (.int k a) = .returned (.int k b) := by rw [h]
theorem ret_bool {a b : Bool} (h : a = b) : Ending.returned (.bool a) = .returned (.bool b) := by rw [h]
theorem int_val {k : IntKind} {a b : Int} (h : a = b) : Value.int k a = .int k b := by rw [h]
theorem bx {a b : Nat} (ha : a < M64) (hb : b < M64) : bits .xor .u64 (a : Int) (b : Int) = ((a ^^^ b : Nat) : Int) := u64_xor_nat a b ha hb
theorem bx_div {n k p : Nat} (hn : n < M64) (h : p = 2 ^ k) : bits .xor .u64 (n : Int) ((n : Int) / (p : Int)) = ((cutN k n : Nat) : Int) := by
  subst h
  rw [show (n : Int) / ((2 ^ k : Nat) : Int) = ((n / 2 ^ k : Nat) : Int) by simp, bx hn (div_lt hn)]
  rfl
theorem bx_div2 {a n k p : Nat} (ha : a < M64) (hn : n < M64) (h : p = 2 ^ k) : bits .xor .u64 (a : Int) ((n : Int) / (p : Int)) = ((a ^^^ n / 2 ^ k : Nat) : Int) := by
  subst h
  rw [show (n : Int) / ((2 ^ k : Nat) : Int) = ((n / 2 ^ k : Nat) : Int) by simp, bx ha (div_lt hn)]
theorem w_nat (a : Nat) : IntKind.u64.wrap (a : Int) = ((a % M64 : Nat) : Int) := by
  rw [IntKind.wrap_u64]
  exact (Int.natCast_emod a 18446744073709551616).symm
theorem w_add (a b : Nat) : IntKind.u64.wrap ((a : Int) + (b : Int)) = (((a + b) % M64 : Nat) : Int) := by
  rw [← w_nat, Int.natCast_add]
theorem w_mul (a b : Nat) : IntKind.u64.wrap ((a : Int) * (b : Int)) = ((a * b % M64 : Nat) : Int) := by
  rw [← w_nat, Int.natCast_mul]
theorem w_sub {a b : Nat} (hb : b ≤ M64) : IntKind.u64.wrap ((a : Int) - (b : Int)) = (((M64 + a - b) % M64 : Nat) : Int) := by
  rw [← w_nat, IntKind.wrap_u64, IntKind.wrap_u64]
  unfold M64 at *
  omega

set_option maxHeartbeats 1000000 in
theorem uncut30 (n : Nat) (hn : n < M64) (w : World) : Calls Tryd.prog 36 #[.int .u64 n, .int .u64 30] w fun e w' => e = .returned (.int .u64 (uncutN 30 n)) ∧ w' = w := by
  go_enter Tryd.func36, Tryd.ntmps36
  go_wp2
  refine wp_loop_rounds 3 ?_
  rw [rounds_succ]
  go_wp2
  rw [rounds_succ]
  go_wp2
  rw [rounds_succ]
  go_wp2
  go_ret
  refine ⟨ret_int ?_, rfl⟩
  rw [show (1073741824 : Int) = ((1073741824 : Nat) : Int) from rfl, show (1152921504606846976 : Int) = ((1152921504606846976 : Nat) : Int) from rfl, bx_div hn (k := 30) rfl, bx_div2 (k := 60) (cut_lt hn) hn rfl]
  rfl
set_option maxHeartbeats 1000000 in
theorem uncut27 (n : Nat) (hn : n < M64) (w : World) : Calls Tryd.prog 36 #[.int .u64 n, .int .u64 27] w fun e w' => e = .returned (.int .u64 (uncutN 27 n)) ∧ w' = w := by
  go_enter Tryd.func36, Tryd.ntmps36
  go_wp2
  refine wp_loop_rounds 3 ?_
  rw [rounds_succ]
  go_wp2
  rw [rounds_succ]
  go_wp2
  rw [rounds_succ]
  go_wp2
  go_ret
  refine ⟨ret_int ?_, rfl⟩
  rw [show (134217728 : Int) = ((134217728 : Nat) : Int) from rfl, show (18014398509481984 : Int) = ((18014398509481984 : Nat) : Int) from rfl, bx_div hn (k := 27) rfl, bx_div2 (k := 54) (cut_lt hn) hn rfl]
  rfl
set_option maxHeartbeats 1000000 in
theorem uncut31 (n : Nat) (hn : n < M64) (w : World) : Calls Tryd.prog 36 #[.int .u64 n, .int .u64 31] w fun e w' => e = .returned (.int .u64 (uncutN 31 n)) ∧ w' = w := by
  go_enter Tryd.func36, Tryd.ntmps36
  go_wp2
  refine wp_loop_rounds 3 ?_
  rw [rounds_succ]
  go_wp2
  rw [rounds_succ]
  go_wp2
  rw [rounds_succ]
  go_wp2
  go_ret
  refine ⟨ret_int ?_, rfl⟩
  rw [show (2147483648 : Int) = ((2147483648 : Nat) : Int) from rfl, show (4611686018427387904 : Int) = ((4611686018427387904 : Nat) : Int) from rfl, bx_div hn (k := 31) rfl, bx_div2 (k := 62) (cut_lt hn) hn rfl]
  rfl
end Go.Proofs.YtccfpbnkeaoicaaDoor
