import Derived.Test.YteojoaceecncnaaProg
import Derived.Test.YteojoaceecncnaaTA
import Derived.WalkKit
import Derived.WalkLawsBesides
import Derived.Outline
import Derived.Below
import Derived.Deep.QuietTactic
import Derived.BigQuiet
/-! trie: sums of keys and their digits. -/
namespace Go.Proofs.Yteojoaceecncnaa
open Go Go.RowKit
theorem hid_of {p : Prop} (h : p) : Hid p := h
theorem ret_int {k : IntKind} {a b : Int} (h : a = b) : Ending.returned (.int k a) = .returned (.int k b) := by rw [h]
theorem ret_bool {a b : Bool} (h : a = b) : Ending.returned (.bool a) = .returned (.bool b) := by rw [h]
theorem int_val {k : IntKind} {a b : Int} (h : a = b) : Value.int k a = .int k b := by rw [h]
theorem bx {a b : Nat} (ha : a < M64) (hb : b < M64) : bits .xor .u64 (a : Int) (b : Int) = ((a ^^^ b : Nat) : Int) := u64_xor_nat a b ha hb
theorem bx_div {n k p : Nat} (hn : n < M64) (h : p = 2 ^ k) : bits .xor .u64 (n : Int) ((n : Int) / (p : Int)) = ((cutN k n : Nat) : Int) := by
  subst h
  rw [show (n : Int) / ((2 ^ k : Nat) : Int) = ((n / 2 ^ k : Nat) : Int) by simp, bx hn (div_lt hn)]
  rfl
theorem bx_div2 {a n k p : Nat} (ha : a < M64) (hn : n < M64) (h : p = 2 ^ k) : bits .xor .u64 (a : Int) ((n : Int) / (p : Int)) = ((a ^^^ n / 2 ^ k : Nat) : Int) := by
  subst h
  rw [show (n : Int) / ((2 ^ k : Nat) : Int) = ((n / 2 ^ k : Nat) : Int) by simp, bx ha (div_lt hn)]
theorem w_nat (a : Nat) : IntKind.u64.wrap (a : Int) = ((a % M64 : Nat) : Int) := by
  rw [IntKind.wrap_u64]
  exact (Int.natCast_emod a 18446744073709551616).symm
theorem w_add (a b : Nat) : IntKind.u64.wrap ((a : Int) + (b : Int)) = (((a + b) % M64 : Nat) : Int) := by
  rw [← w_nat, Int.natCast_add]
theorem w_mul (a b : Nat) : IntKind.u64.wrap ((a : Int) * (b : Int)) = ((a * b % M64 : Nat) : Int) := by
  rw [← w_nat, Int.natCast_mul]
theorem w_sub {a b : Nat} (hb : b ≤ M64) : IntKind.u64.wrap ((a : Int) - (b : Int)) = (((M64 + a - b) % M64 : Nat) : Int) := by
  rw [← w_nat, IntKind.wrap_u64, IntKind.wrap_u64]
  unfold M64 at *
  omega

theorem wrap_small {a : Nat} (h : a < M64) : IntKind.u64.wrap (a : Int) = (a : Int) := by
  rw [w_nat, Nat.mod_eq_of_lt h]
theorem below_drew {B : Nat} {x w : World} (h : Below B x w) : Below B x w.drew := ⟨h.os, h.tape, h.output, h.size, h.block⟩
/-- The byte at a place of a text. -/
def byteAt (T : ByteArray) (n : Nat) : UInt8 := T.data.getD n 0
theorem byteAt_eq {T : ByteArray} {n : Nat} (h : n < T.size) : T[n] = byteAt T n := by
  have h' : n < T.data.size := h
  unfold byteAt
  rw [Array.getD_eq_getD_getElem?, Array.getElem?_eq_getElem h']
  rfl
theorem toList_at {s : ByteArray} {j : Nat} (hj : j < s.size) : s.data.toList[j]? = some (byteAt s j) := by
  rw [Array.getElem?_toList, ← byteAt_eq hj]
  exact Array.getElem?_eq_getElem (xs := s.data) hj
theorem take_more {s : ByteArray} {q : Nat} (hq : q < s.size) : s.data.toList.take (q + 1) = s.data.toList.take q ++ [byteAt s q] := by
  rw [List.take_add_one, toList_at hq]
  rfl
theorem take_all (s : ByteArray) : s.data.toList.take s.size = s.data.toList := List.take_of_length_le (by rw [Array.length_toList]; exact Nat.le_refl _)
theorem u8_lt (b : UInt8) : b.toNat < M64 := Nat.lt_trans (UInt8.toNat_lt b) (by decide)
theorem hash_one (h : Nat) (b : UInt8) : hashN h [b] = (h ^^^ b.toNat) * 1099511628211 % M64 := by
  unfold hashN
  rw [List.foldl_cons, List.foldl_nil, hashB]
set_option maxHeartbeats 1000000 in
theorem hashOn_any (h : Nat) (hh : h < M64) (s : ByteArray) (hs : s.size ≤ 9223372036854775806) (w : World) : Calls Try.prog 50 #[.int .u64 h, .string s] w fun e w' => e = .returned (.int .u64 (hashN h s.data.toList)) ∧ w' = w := by
  go_enter Try.func50, Try.ntmps50
  go_wp2
  go_loopw [0, 8] (fun x i wr => ∃ q : Nat, q ≤ s.size ∧ x = .int .u64 (hashN h (s.data.toList.take q) : Nat) ∧ i = .int .i64 q ∧ wr = w) (fun _ i _ => s.size - (intOf i).toNat)
  case atStart => exact ⟨0, Nat.zero_le _, rfl, rfl, rfl⟩
  case round =>
    obtain ⟨q, hq, rfl, rfl, rfl⟩ := hrel
    by_cases hlt : q < s.size
    · have hd : decide ((q : Int) < (s.size : Int)) = true := by simp; omega
      have he := byteAt_eq hlt
      go_wp2
      go_roundw
      case rel => exact ⟨q + 1, by omega, int_val (by
        rw [wrap_small (u8_lt _), bx (hash_lt hh _) (u8_lt _), show (1099511628211 : Int) = ((1099511628211 : Nat) : Int) from rfl, w_mul, take_more hlt, hash_append, hash_one]), by simp, by simp⟩
      case measure => simp [intOf]; omega
    · have hd : decide ((q : Int) < (s.size : Int)) = false := by simp; omega
      obtain rfl : q = s.size := by omega
      go_wp2
      go_ret
      exact ⟨ret_int (by rw [take_all]), rfl⟩
def fnv : Nat := 14695981039346656037
theorem hash_any (s : ByteArray) (hs : s.size ≤ 9223372036854775806) (w : World) : Calls Try.prog 35 #[.string s] w fun e w' => e = .returned (.int .u64 (hashN fnv s.data.toList)) ∧ w' = w := by
  have h := hid_of (hashOn_any fnv (by decide) s hs w)
  go_enter Try.func35, Try.ntmps35
  go_wp2_with fail
  refine h.out.mono ?_
  rintro e w' ⟨rfl, rfl⟩
  go_wp2_with fail
  go_ret
  exact ⟨rfl, rfl⟩
def digitOf (h : Nat) (l : Int) : Nat := if 0 ≤ l ∧ l < 16 then digitN h l.toNat else 0
theorem digit_lt (h l : Nat) : digitN h l < 16 := Nat.mod_lt _ (by decide)
theorem pow16 (n : Nat) : 2 ^ (n * 4) = 16 ^ n := by rw [Nat.mul_comm, Nat.pow_mul]
theorem digit_int {h : Nat} (hh : h < M64) {l : Int} (h1 : 0 ≤ l) (h2 : l < 16) : wrap64 (bits .and .u64 ((h : Int) / 2 ^ (l * 4).toNat) 15) = ((digitOf h l : Nat) : Int) := by
  obtain ⟨n, rfl⟩ := Int.eq_ofNat_of_zero_le h1
  have e1 : ((n : Int) * 4).toNat = n * 4 := by omega
  have e2 : (h : Int) / 2 ^ (n * 4) = ((h / 16 ^ n : Nat) : Int) := by
    rw [Int.natCast_ediv, ← pow16, Int.natCast_pow]
    rfl
  have e3 : digitOf h n = h / 16 ^ n % 16 := by
    unfold digitOf
    rw [if_pos ⟨h1, h2⟩]
    rfl
  have hlt : h / 16 ^ n % 16 < 16 := Nat.mod_lt _ (by decide)
  rw [e1, e2, show (15 : Int) = ((15 : Nat) : Int) from rfl, u64_and_nat _ _ (div_lt hh) (by decide), nat_mask4, e3]
  unfold wrap64
  omega
set_option maxHeartbeats 2000000 in
theorem digit_any (h : Nat) (hh : h < M64) (l : Int) (w : World) : Calls Try.prog 26 #[.int .u64 h, .int .i64 l] w fun e w' => e = .returned (.int .i64 (digitOf h l)) ∧ w' = w := by
  by_cases h1 : 0 ≤ l
  · have d1 : decide (l < 0) = false := by simp; omega
    by_cases h2 : l < 16
    · have d2 : decide (16 ≤ l) = false := by simp; omega
      go_enter Try.func26, Try.ntmps26
      go_wp2_with fail
      go_ret
      exact ⟨ret_int (digit_int hh h1 h2), rfl⟩
    · have d2 : decide (16 ≤ l) = true := by simp; omega
      have e : digitOf h l = 0 := by unfold digitOf; rw [if_neg (by omega)]
      rw [e]
      go_enter Try.func26, Try.ntmps26
      go_wp2_with fail
      go_ret
      exact ⟨rfl, rfl⟩
  · have d1 : decide (l < 0) = true := by simp; omega
    have e : digitOf h l = 0 := by unfold digitOf; rw [if_neg (by omega)]
    rw [e]
    go_enter Try.func26, Try.ntmps26
    go_wp2_with fail
    go_ret
    exact ⟨rfl, rfl⟩
end Go.Proofs.Yteojoaceecncnaa
