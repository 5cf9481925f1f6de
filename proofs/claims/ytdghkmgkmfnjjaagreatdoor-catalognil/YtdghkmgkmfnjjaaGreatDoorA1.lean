import Derived.Test.YtdghkmgkmfnjjaaGreatDoorProg
import Derived.WalkKit
import Derived.WalkLawsBesides
import Derived.Outline
import Derived.Below
import Derived.Deep.QuietTactic
import Derived.BigQuiet
/-! Segments and indexes: plain functions, and the document's two. -/
namespace Go.Proofs.YtdghkmgkmfnjjaaGreatDoor
open Go Go.RowKit

/-- The byte at a place of a text. -/
def byteAt (T : ByteArray) (n : Nat) : UInt8 := T.data.getD n 0
theorem byteAt_eq {T : ByteArray} {n : Nat} (h : n < T.size) : T[n] = byteAt T n := by
  have h' : n < T.data.size := h
  unfold byteAt
  rw [Array.getD_eq_getD_getElem?, Array.getElem?_eq_getElem h']
  rfl
theorem u8_beq (c : UInt8) (k : UInt8) : ((c.toNat : Int) == (k.toNat : Int)) = (c == k) := by
  rw [Bool.eq_iff_iff, beq_iff_eq, beq_iff_eq]
  constructor
  · intro h; exact UInt8.toNat_inj.1 (by omega)
  · intro h; rw [h]
theorem ret_bool {a b : Bool} (h : a = b) : Ending.returned (.bool a) = .returned (.bool b) := by rw [h]
theorem ret_int {k : IntKind} {a b : Int} (h : a = b) : Ending.returned (.int k a) = .returned (.int k b) := by rw [h]

def noDot (s : ByteArray) : Bool := s.data.toList.all (· != 46)
def seg (s : ByteArray) : Bool := decide (1 ≤ s.size) && decide (s.size ≤ 64) && (byteAt s 0 != 36) && noDot s
theorem noDot_true {s : ByteArray} (h : ∀ j, j < s.size → byteAt s j ≠ 46) : noDot s = true := by
  unfold noDot
  rw [List.all_eq_true]
  intro x hx
  obtain ⟨j, hj, rfl⟩ := List.getElem_of_mem hx
  have hj' : j < s.size := by simpa using hj
  have := h j hj'
  rw [← byteAt_eq hj'] at this
  have this : s.data[j] ≠ 46 := this
  simpa using this
theorem noDot_false {s : ByteArray} {j : Nat} (hj : j < s.size) (h : byteAt s j = 46) : noDot s = false := by
  unfold noDot
  rw [List.all_eq_false]
  refine ⟨s[j], ?_, by rw [byteAt_eq hj, h]; decide⟩
  exact Array.mem_toList_iff.2 (Array.getElem_mem (xs := s.data) hj)

theorem seg_false_dot {s : ByteArray} (h : noDot s = false) : seg s = false := by simp [seg, h]

end Go.Proofs.YtdghkmgkmfnjjaaGreatDoor
