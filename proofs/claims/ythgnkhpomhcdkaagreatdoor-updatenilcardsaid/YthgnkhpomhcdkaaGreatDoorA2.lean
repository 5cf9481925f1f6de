import Derived.Test.YthgnkhpomhcdkaaGreatDoorProg
import Derived.WalkKit
import Derived.WalkLawsBesides
import Derived.Outline
import Derived.Below
import Derived.Deep.QuietTactic
import Derived.BigQuiet
/-! Segments and indexes: plain functions, and the document's two. -/
namespace Go.Proofs.YthgnkhpomhcdkaaGreatDoor.Dp
open Go Go.RowKit

/-- The byte at a place of a text. -/
def byteAt (T : ByteArray) (n : Nat) : UInt8 := T.data.getD n 0
theorem byteAt_eq {T : ByteArray} {n : Nat} (h : n < T.size) : T[n] = byteAt T n := by
  have h' : n < T.data.size := h
  unfold byteAt
  rw [Array.getD_eq_getD_getElem?, Array.getElem?_eq_getElem h']
  rfl
theorem u8_beq (c : UInt8) (k : UInt8) : ((c.toNat : Int) == (k.toNat : Int)) = (c == k) := by
  rw [Bool.eq_iff_iff, beq_iff_eq, beq_iff_eq]
  constructor
  · intro h; exact UInt8.toNat_inj.1 (by omega)
  · intro h; rw [h]
theorem ret_bool {a b : Bool} (h : a = b) : Ending.returned (.bool a) = .returned (.bool b) := by rw [h]
theorem ret_int {k : IntKind} {a b : Int} (h : a = b) : Ending.returned (.int k a) = .returned (.int k b) := by rw [h]

def noDot (s : ByteArray) : Bool := s.data.toList.all (· != 46)
def seg (s : ByteArray) : Bool := decide (1 ≤ s.size) && decide (s.size ≤ 64) && (byteAt s 0 != 36) && noDot s
theorem noDot_true {s : ByteArray} (h : ∀ j, j < s.size → byteAt s j ≠ 46) : noDot s = true := by
  unfold noDot
  rw [List.all_eq_true]
  intro x hx
  obtain ⟨j, hj, rfl⟩ := List.getElem_of_mem hx
  have hj' : j < s.size := by simpa using hj
  have := h j hj'
  rw [← byteAt_eq hj'] at this
  have this : s.data[j] ≠ 46 := this
  simpa using this
theorem noDot_false {s : ByteArray} {j : Nat} (hj : j < s.size) (h : byteAt s j = 46) : noDot s = false := by
  unfold noDot
  rw [List.all_eq_false]
  refine ⟨s[j], ?_, by rw [byteAt_eq hj, h]; decide⟩
  exact Array.mem_toList_iff.2 (Array.getElem_mem (xs := s.data) hj)

theorem seg_false_dot {s : ByteArray} (h : noDot s = false) : seg s = false := by simp [seg, h]

end Go.Proofs.YthgnkhpomhcdkaaGreatDoor.Dp
namespace Go.Proofs.YthgnkhpomhcdkaaGreatDoor.Dp
open Go Go.RowKit

def isDig (c : UInt8) : Bool := 48 ≤ c && c ≤ 57
/-- The number that the first bytes say. -/
def numTo (s : ByteArray) : Nat → Nat
  | 0 => 0
  | q + 1 => 10 * numTo s q + ((byteAt s q).toNat - 48)
def digTo (s : ByteArray) (q : Nat) : Bool := (List.range q).all fun j => isDig (byteAt s j)
def idx (s : ByteArray) : Option Nat :=
  if s.size < 1 ∨ 9 < s.size ∨ (1 < s.size ∧ byteAt s 0 = 48) then none else if digTo s s.size = true then some (numTo s s.size) else none
def idxV (s : ByteArray) : Value := .tuple #[.int .i64 (((idx s).getD 0 : Nat) : Int), .bool (idx s).isSome]

theorem dig_int (c : UInt8) : isDig c = (decide (48 ≤ (c.toNat : Int)) && decide ((c.toNat : Int) ≤ 57)) := by
  unfold isDig
  rw [Bool.eq_iff_iff]; simp [UInt8.le_iff_toNat_le]; omega
theorem digTo_succ (s : ByteArray) (q : Nat) : digTo s (q + 1) = (digTo s q && isDig (byteAt s q)) := by
  simp [digTo, List.range_succ]
theorem digTo_false {s : ByteArray} {q n : Nat} (h : isDig (byteAt s q) = false) (hn : q < n) : digTo s n = false := by
  unfold digTo
  rw [List.all_eq_false]
  exact ⟨q, List.mem_range.2 hn, by simp [h]⟩
theorem numTo_lt (s : ByteArray) : ∀ q, digTo s q = true → numTo s q < 10 ^ q
  | 0, _ => by simp [numTo]
  | q + 1, h => by
    rw [digTo_succ, Bool.and_eq_true, dig_int] at h
    have := numTo_lt s q h.1
    have h2 := h.2
    simp at h2
    unfold numTo
    rw [Nat.pow_succ]
    omega
theorem numTo_small {s : ByteArray} {q : Nat} (h : digTo s q = true) (hq : q ≤ 9) : numTo s q < 1000000000 :=
  Nat.lt_of_lt_of_le (numTo_lt s q h) (by have := Nat.pow_le_pow_right (n := 10) (by omega) hq; simpa using this)

end Go.Proofs.YthgnkhpomhcdkaaGreatDoor.Dp
