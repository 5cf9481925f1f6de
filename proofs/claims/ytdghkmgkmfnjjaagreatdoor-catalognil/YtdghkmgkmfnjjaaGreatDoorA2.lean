import Derived.Test.YtdghkmgkmfnjjaaGreatDoorA1
namespace Go.Proofs.YtdghkmgkmfnjjaaGreatDoor
open Go Go.RowKit

def isDig (c : UInt8) : Bool := 48 ≤ c && c ≤ 57
/-- The number that the first bytes say. -/
def numTo (s : ByteArray) : Nat → Nat
  | 0 => 0
  | q + 1 => 10 * numTo s q + ((byteAt s q).toNat - 48)
def digTo (s : ByteArray) (q : Nat) : Bool := (List.range q).all fun j => isDig (byteAt s j)
def idx (s : ByteArray) : Option Nat :=
  if s.size < 1 ∨ 9 < s.size ∨ (1 < s.size ∧ byteAt s 0 = 48) then none else if digTo s s.size = true then some (numTo s s.size) else none
def idxV (s : ByteArray) : Value := .tuple #[.int .i64 (((idx s).getD 0 : Nat) : Int), .bool (idx s).isSome]

theorem dig_int (c : UInt8) : isDig c = (decide (48 ≤ (c.toNat : Int)) && decide ((c.toNat : Int) ≤ 57)) := by
  unfold isDig
  rw [Bool.eq_iff_iff]; simp [UInt8.le_iff_toNat_le]; omega
theorem digTo_succ (s : ByteArray) (q : Nat) : digTo s (q + 1) = (digTo s q && isDig (byteAt s q)) := by
  simp [digTo, List.range_succ]
theorem digTo_false {s : ByteArray} {q n : Nat} (h : isDig (byteAt s q) = false) (hn : q < n) : digTo s n = false := by
  unfold digTo
  rw [List.all_eq_false]
  exact ⟨q, List.mem_range.2 hn, by simp [h]⟩
theorem numTo_lt (s : ByteArray) : ∀ q, digTo s q = true → numTo s q < 10 ^ q
  | 0, _ => by simp [numTo]
  | q + 1, h => by
    rw [digTo_succ, Bool.and_eq_true, dig_int] at h
    have := numTo_lt s q h.1
    have h2 := h.2
    simp at h2
    unfold numTo
    rw [Nat.pow_succ]
    omega
theorem numTo_small {s : ByteArray} {q : Nat} (h : digTo s q = true) (hq : q ≤ 9) : numTo s q < 1000000000 :=
  Nat.lt_of_lt_of_le (numTo_lt s q h) (by have := Nat.pow_le_pow_right (n := 10) (by omega) hq; simpa using this)

end Go.Proofs.YtdghkmgkmfnjjaaGreatDoor
