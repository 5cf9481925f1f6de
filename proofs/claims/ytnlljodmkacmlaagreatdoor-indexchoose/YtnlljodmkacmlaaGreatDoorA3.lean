import Derived.Test.YtnlljodmkacmlaaGreatDoorProg
import Derived.WalkKit
import Derived.WalkLawsBesides
import Derived.Outline
import Derived.Below
import Derived.Deep.QuietTactic
import Derived.BigQuiet
import Derived.Lib.ConvBytes
/-! Segments and indexes: plain functions, and the document's two. -/
namespace Go.Proofs.YtnlljodmkacmlaaGreatDoor
open Go Go.RowKit

/-- The byte at a place of a text. -/
def byteAt (T : ByteArray) (n : Nat) : UInt8 := T.data.getD n 0
theorem byteAt_eq {T : ByteArray} {n : Nat} (h : n < T.size) : T[n] = byteAt T n := by
  have h' : n < T.data.size := h
  unfold byteAt
  rw [Array.getD_eq_getD_getElem?, Array.getElem?_eq_getElem h']
  rfl
theorem u8_beq (c : UInt8) (k : UInt8) : ((c.toNat : Int) == (k.toNat : Int)) = (c == k) := by
  rw [Bool.eq_iff_iff, beq_iff_eq, beq_iff_eq]
  constructor
  · intro h; exact UInt8.toNat_inj.1 (by omega)
  · intro h; rw [h]
theorem ret_bool {a b : Bool} (h : a = b) : Ending.returned (.bool a) = .returned (.bool b) := by rw [h]
theorem ret_int {k : IntKind} {a b : Int} (h : a = b) : Ending.returned (.int k a) = .returned (.int k b) := by rw [h]

def noDot (s : ByteArray) : Bool := s.data.toList.all (· != 46)
def seg (s : ByteArray) : Bool := decide (1 ≤ s.size) && decide (s.size ≤ 64) && (byteAt s 0 != 36) && noDot s
theorem noDot_true {s : ByteArray} (h : ∀ j, j < s.size → byteAt s j ≠ 46) : noDot s = true := by
  unfold noDot
  rw [List.all_eq_true]
  intro x hx
  obtain ⟨j, hj, rfl⟩ := List.getElem_of_mem hx
  have hj' : j < s.size := by simpa using hj
  have := h j hj'
  rw [← byteAt_eq hj'] at this
  have this : s.data[j] ≠ 46 := this
  simpa using this
theorem noDot_false {s : ByteArray} {j : Nat} (hj : j < s.size) (h : byteAt s j = 46) : noDot s = false := by
  unfold noDot
  rw [List.all_eq_false]
  refine ⟨s[j], ?_, by rw [byteAt_eq hj, h]; decide⟩
  exact Array.mem_toList_iff.2 (Array.getElem_mem (xs := s.data) hj)

theorem seg_false_dot {s : ByteArray} (h : noDot s = false) : seg s = false := by simp [seg, h]

end Go.Proofs.YtnlljodmkacmlaaGreatDoor
namespace Go.Proofs.YtnlljodmkacmlaaGreatDoor
open Go Go.RowKit

def isDig (c : UInt8) : Bool := 48 ≤ c && c ≤ 57
/-- The number that the first bytes say. -/
def numTo (s : ByteArray) : Nat → Nat
  | 0 => 0
  | q + 1 => 10 * numTo s q + ((byteAt s q).toNat - 48)
def digTo (s : ByteArray) (q : Nat) : Bool := (List.range q).all fun j => isDig (byteAt s j)
def idx (s : ByteArray) : Option Nat :=
  if s.size < 1 ∨ 9 < s.size ∨ (1 < s.size ∧ byteAt s 0 = 48) then none else if digTo s s.size = true then some (numTo s s.size) else none
def idxV (s : ByteArray) : Value := .tuple #[.int .i64 (((idx s).getD 0 : Nat) : Int), .bool (idx s).isSome]

theorem dig_int (c : UInt8) : isDig c = (decide (48 ≤ (c.toNat : Int)) && decide ((c.toNat : Int) ≤ 57)) := by
  unfold isDig
  rw [Bool.eq_iff_iff]; simp [UInt8.le_iff_toNat_le]; omega
theorem digTo_succ (s : ByteArray) (q : Nat) : digTo s (q + 1) = (digTo s q && isDig (byteAt s q)) := by
  simp [digTo, List.range_succ]
theorem digTo_false {s : ByteArray} {q n : Nat} (h : isDig (byteAt s q) = false) (hn : q < n) : digTo s n = false := by
  unfold digTo
  rw [List.all_eq_false]
  exact ⟨q, List.mem_range.2 hn, by simp [h]⟩
theorem numTo_lt (s : ByteArray) : ∀ q, digTo s q = true → numTo s q < 10 ^ q
  | 0, _ => by simp [numTo]
  | q + 1, h => by
    rw [digTo_succ, Bool.and_eq_true, dig_int] at h
    have := numTo_lt s q h.1
    have h2 := h.2
    simp at h2
    unfold numTo
    rw [Nat.pow_succ]
    omega
theorem numTo_small {s : ByteArray} {q : Nat} (h : digTo s q = true) (hq : q ≤ 9) : numTo s q < 1000000000 :=
  Nat.lt_of_lt_of_le (numTo_lt s q h) (by have := Nat.pow_le_pow_right (n := 10) (by omega) hq; simpa using this)

end Go.Proofs.YtnlljodmkacmlaaGreatDoor
namespace Go.Proofs.YtnlljodmkacmlaaGreatDoor
open Go Go.RowKit

theorem toList_beq (a b : ByteArray) : (a.toList == b.toList) = decide (a = b) := by
  rw [Bool.eq_iff_iff, beq_iff_eq, decide_eq_true_eq, ByteArray.toList_eq, ByteArray.toList_eq]
  exact ⟨fun h => ByteArray.ext (Array.toList_inj.1 h), fun h => by rw [h]⟩
def str0 : ByteArray := { data := #[48] }
theorem idx_zero : idxV str0 = .tuple #[.int .i64 0, .bool true] := rfl
theorem bytesWorld_below (w : World) (e : TypeId) (s : ByteArray) : Below w.heap.size w (Lib.bytesWorld w e s) :=
  ⟨by rfl, by rfl, by rfl, by rw [Lib.bytesWorld_size]; omega, fun k hk => Lib.bytesWorld_at_old w e s k hk⟩
theorem bytes_cell (w : World) (e : TypeId) (s : ByteArray) {j : Nat} (hj : j < s.size) : (Lib.bytesWorld w e s).cell? ⟨w.heap.size, j, none⟩ = some (.int .u8 ((byteAt s j).toNat : Int)) := by
  rw [Lib.bytesWorld_cell w e s j hj]
  congr 3
  unfold byteAt
  rw [List.getD_eq_getElem?_getD, Array.getD_eq_getD_getElem?, Array.getElem?_toList]
theorem one_is {s : ByteArray} (h1 : s.size = 1) (h : byteAt s 0 = 48) : s = str0 := by
  apply ByteArray.ext
  apply Array.ext
  · exact h1
  · intro i hi hi'
    have : i = 0 := by have : s.data.size = 1 := h1; omega
    subst this
    rw [← byteAt_eq (show 0 < s.size by omega)] at h
    exact h

set_option maxHeartbeats 1000000 in
set_option maxRecDepth 100000 in
theorem index_any (s : ByteArray) (hs : s.size ≤ 9223372036854775806) (w : World) : Calls Tryz.prog 167 #[.string s] w fun e w' => e = .returned (idxV s) ∧ Below w.heap.size w w' := by
  have hout : ∀ x, idx s = x → idxV s = .tuple #[.int .i64 ((x.getD 0 : Nat) : Int), .bool x.isSome] := fun x h => by rw [idxV, h]
  by_cases h0 : s = str0
  · subst h0
    rw [idx_zero]
    unfold str0
    go_enter Tryz.func167, Tryz.ntmps167
    go_wp2
    go_ret2
    exact ⟨rfl, Below.refl _ _⟩
  have hz : (s.toList == [48]) = false := by
    have := toList_beq s str0
    rw [show str0.toList = [48] from by simp [str0]] at this
    rw [this]; simpa using h0
  by_cases h1 : s.size < 1 ∨ 9 < s.size
  · have hi := hout none (by unfold idx; rw [if_pos (by rcases h1 with h | h <;> simp [h])])
    rw [hi]; clear hi hout
    rcases h1 with h1 | h1
    all_goals
      go_enter Tryz.func167, Tryz.ntmps167
      go_wp2
      go_ret2
      exact ⟨rfl, Below.refl _ _⟩
  have hlo : ¬ s.size < 1 := fun h => h1 (.inl h)
  have hhi : ¬ 9 < s.size := fun h => h1 (.inr h)
  clear h1
  have e0 := byteAt_eq (show 0 < s.size by omega)
  have hc := u8_beq (byteAt s 0) 48
  rw [show ((48 : UInt8).toNat : Int) = 48 from rfl] at hc
  by_cases hb : byteAt s 0 = 48
  · have hlt : 1 < s.size := by
      by_cases h : 1 < s.size
      · exact h
      · exact absurd (one_is (by omega) hb) h0
    have hi := hout none (by unfold idx; rw [if_pos (.inr (.inr ⟨hlt, hb⟩))])
    rw [hi]; clear hi hout
    have hb' : (((byteAt s 0).toNat : Int) == 48) = true := by rw [hb]; rfl
    clear hb hc h0 hlt
    go_enter Tryz.func167, Tryz.ntmps167
    go_wp2
    go_ret2
    exact ⟨rfl, Below.refl _ _⟩
  have hb' : (((byteAt s 0).toNat : Int) == 48) = false := by rw [hc]; simpa using hb
  have hidx : idx s = if digTo s s.size = true then some (numTo s s.size) else none := by
    unfold idx; rw [if_neg (by exact fun h => h.elim hlo (fun h => h.elim hhi (fun h => hb h.2)))]
  clear hb hc h0
  have hcv : (convert 9 158 (.string s)).run Tryz.prog w = .ok (.slice (some ⟨w.heap.size, 0, none⟩) s.size (grownCap w s.size 0 5)) (Lib.bytesWorld w 5 s) :=
    Lib.run_convert_string_bytes w 9 158 5 s Tryz.underlying9 Tryz.underlying158 Tryz.underlying5
  have hcell : Hid (∀ j, j < s.size → (Lib.bytesWorld w 5 s).cell? ⟨w.heap.size, j, none⟩ = some (.int .u8 ((byteAt s j).toNat : Int))) := fun j hj => bytes_cell w 5 s hj
  have hbel := bytesWorld_below w 5 s
  generalize Lib.bytesWorld w 5 s = wb at hcv hcell hbel
  generalize grownCap w s.size 0 5 = cp at hcv
  go_enter Tryz.func167, Tryz.ntmps167
  go_wp2
  clear hcv
  go_loopw [4, 25] (fun n i wr => ∃ q : Nat, q ≤ s.size ∧ i = .int .i64 q ∧ n = .int .i64 ((numTo s q : Nat) : Int) ∧ wr = wb ∧ Hid (digTo s q = true)) (fun _ i _ => s.size - (intOf i).toNat)
  case atStart => exact ⟨0, Nat.zero_le _, rfl, rfl, rfl, rfl⟩
  case round =>
    obtain ⟨q, hq, rfl, rfl, rfl, hB⟩ := hrel
    have hsm := numTo_small hB.out (by omega)
    by_cases hlt : q < s.size
    · have hd : decide ((q : Int) < (s.size : Int)) = true := by simp; omega
      have he := hcell.out q hlt
      have hdi := dig_int (byteAt s q)
      by_cases hb : isDig (byteAt s q) = true
      · have hnext : digTo s (q + 1) = true := by rw [digTo_succ, hB.out, hb]; rfl
        rw [hb] at hdi
        have h48 : ¬ ((byteAt s q).toNat : Int) < 48 := by simp at hdi; omega
        have h57 : ¬ (57 : Int) < ((byteAt s q).toNat : Int) := by simp at hdi; omega
        clear hdi hb
        go_wp2
        go_roundw
        case rel => exact ⟨q + 1, by omega, by simp, by simp [numTo]; omega, by simp, hnext⟩
        case measure => simp [intOf]; omega
      · have hbf : isDig (byteAt s q) = false := by simpa using hb
        have hi : Hid (idxV s = .tuple #[.int .i64 0, .bool false]) := hout none (by rw [hidx, digTo_false hbf hlt]; rfl)
        rw [hbf] at hdi
        clear hb hbf hout hidx
        by_cases h48 : ((byteAt s q).toNat : Int) < 48
        · clear hdi
          go_wp2
          go_ret2
          exact ⟨congrArg Ending.returned hi.out.symm, hbel⟩
        · have h57 : (57 : Int) < ((byteAt s q).toNat : Int) := by simp at hdi; omega
          clear hdi
          go_wp2
          go_ret2
          exact ⟨congrArg Ending.returned hi.out.symm, hbel⟩
    · have hd : decide ((q : Int) < (s.size : Int)) = false := by simp; omega
      have hqs : q = s.size := by omega
      subst hqs
      have hi : Hid (idxV s = .tuple #[.int .i64 ((numTo s s.size : Nat) : Int), .bool true]) := hout (some (numTo s s.size)) (by rw [hidx, hB.out]; rfl)
      clear hout hidx
      go_wp2
      go_ret2
      exact ⟨congrArg Ending.returned hi.out.symm, hbel⟩
end Go.Proofs.YtnlljodmkacmlaaGreatDoor
