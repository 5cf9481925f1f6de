import Derived.Test.YtdfkfnhppjhghaaGreatProg
import Derived.WalkKit
import Derived.WalkLawsBesides
import Derived.Outline
import Derived.Below
import Derived.Deep.QuietTactic
import Derived.BigQuiet
/-! Segments and indexes: plain functions, and the document's two. -/
namespace Go.Proofs.YtdfkfnhppjhghaaGreat
open Go Go.RowKit

/-- The byte at a place of a text. -/
def byteAt (T : ByteArray) (n : Nat) : UInt8 := T.data.getD n 0
theorem byteAt_eq {T : ByteArray} {n : Nat} (h : n < T.size) : T[n] = byteAt T n := by
  have h' : n < T.data.size := h
  unfold byteAt
  rw [Array.getD_eq_getD_getElem?, Array.getElem?_eq_getElem h']
  rfl
theorem u8_beq (c : UInt8) (k : UInt8) : ((c.toNat : Int) == (k.toNat : Int)) = (c == k) := by
  rw [Bool.eq_iff_iff, beq_iff_eq, beq_iff_eq]
  constructor
  · intro h; exact UInt8.toNat_inj.1 (by omega)
  · intro h; rw [h]
theorem ret_bool {a b : Bool} (h : a = b) : Ending.returned (.bool a) = .returned (.bool b) := by rw [h]
theorem ret_int {k : IntKind} {a b : Int} (h : a = b) : Ending.returned (.int k a) = .returned (.int k b) := by rw [h]

def noDot (s : ByteArray) : Bool := s.data.toList.all (· != 46)
def seg (s : ByteArray) : Bool := decide (1 ≤ s.size) && decide (s.size ≤ 64) && (byteAt s 0 != 36) && noDot s
theorem noDot_true {s : ByteArray} (h : ∀ j, j < s.size → byteAt s j ≠ 46) : noDot s = true := by
  unfold noDot
  rw [List.all_eq_true]
  intro x hx
  obtain ⟨j, hj, rfl⟩ := List.getElem_of_mem hx
  have hj' : j < s.size := by simpa using hj
  have := h j hj'
  rw [← byteAt_eq hj'] at this
  have this : s.data[j] ≠ 46 := this
  simpa using this
theorem noDot_false {s : ByteArray} {j : Nat} (hj : j < s.size) (h : byteAt s j = 46) : noDot s = false := by
  unfold noDot
  rw [List.all_eq_false]
  refine ⟨s[j], ?_, by rw [byteAt_eq hj, h]; decide⟩
  exact Array.mem_toList_iff.2 (Array.getElem_mem (xs := s.data) hj)

theorem seg_false_dot {s : ByteArray} (h : noDot s = false) : seg s = false := by simp [seg, h]

set_option maxHeartbeats 1000000 in
theorem segment_any (s : ByteArray) (hs : s.size ≤ 9223372036854775806) (w : World) : Calls Tryz.prog 32 #[.string s] w fun e w' => e = .returned (.bool (seg s)) ∧ w' = w := by
  go_enter Tryz.func32, Tryz.ntmps32
  go_wp2
  go_loopw [3] (fun i wr => ∃ q : Nat, q ≤ s.size ∧ i = .int .i64 q ∧ wr = w ∧ Hid (∀ j, j < q → byteAt s j ≠ 46)) (fun i _ => s.size - (intOf i).toNat)
  case atStart => exact ⟨0, Nat.zero_le _, rfl, rfl, fun j h => by omega⟩
  case round =>
    obtain ⟨q, hq, rfl, rfl, hB⟩ := hrel
    by_cases hlt : q < s.size
    · have hd : decide ((q : Int) < (s.size : Int)) = true := by simp; omega
      have he := byteAt_eq hlt
      by_cases hb : byteAt s q = 46
      · have hb' : (((byteAt s q).toNat : Int) == 46) = true := by rw [hb]; rfl
        have hfin := seg_false_dot (noDot_false hlt hb)
        clear hb
        go_wp2
        go_ret
        exact ⟨ret_bool hfin.symm, rfl⟩
      · have hb' : (((byteAt s q).toNat : Int) == 46) = false := by
          have := u8_beq (byteAt s q) 46
          rw [show ((46 : UInt8).toNat : Int) = 46 from rfl] at this
          rw [this]; simpa using hb
        go_wp2
        go_roundw
        case rel => exact ⟨q + 1, by omega, by simp, by simp, fun j h => by
          by_cases e : j = q
          · subst e; exact hb
          · exact hB.out j (by omega)⟩
        case measure => simp [intOf]; omega
    · have hd : decide ((q : Int) < (s.size : Int)) = false := by simp; omega
      have hnd : noDot s = true := noDot_true (fun j h => hB.out j (by omega))
      clear hB
      by_cases h1 : 1 ≤ s.size
      · have e0 := byteAt_eq (show 0 < s.size by omega)
        have hc := u8_beq (byteAt s 0) 36
        rw [show ((36 : UInt8).toNat : Int) = 36 from rfl] at hc
        go_wp2
        all_goals (go_ret; exact ⟨ret_bool (by simp [seg, hnd, bne, ← hc]; try simp [*]; try omega), rfl⟩)
      · go_wp2
        all_goals (go_ret; exact ⟨ret_bool (by simp [seg, hnd]; try omega), rfl⟩)
end Go.Proofs.YtdfkfnhppjhghaaGreat
