import Derived.Test.YthgnkhpomhcdkaaGreatDoorA2
import Derived.Lib.ConvBytes
namespace Go.Proofs.YthgnkhpomhcdkaaGreatDoor.Dp
open Go Go.RowKit

theorem toList_beq (a b : ByteArray) : (a.toList == b.toList) = decide (a = b) := by
  rw [Bool.eq_iff_iff, beq_iff_eq, decide_eq_true_eq, ByteArray.toList_eq, ByteArray.toList_eq]
  exact ⟨fun h => ByteArray.ext (Array.toList_inj.1 h), fun h => by rw [h]⟩
def str0 : ByteArray := { data := #[48] }
theorem idx_zero : idxV str0 = .tuple #[.int .i64 0, .bool true] := rfl
theorem bytesWorld_below (w : World) (e : TypeId) (s : ByteArray) : Below w.heap.size w (Lib.bytesWorld w e s) :=
  ⟨by rfl, by rfl, by rfl, by rw [Lib.bytesWorld_size]; omega, fun k hk => Lib.bytesWorld_at_old w e s k hk⟩
theorem bytes_cell (w : World) (e : TypeId) (s : ByteArray) {j : Nat} (hj : j < s.size) : (Lib.bytesWorld w e s).cell? ⟨w.heap.size, j, none⟩ = some (.int .u8 ((byteAt s j).toNat : Int)) := by
  rw [Lib.bytesWorld_cell w e s j hj]
  congr 3
  unfold byteAt
  rw [List.getD_eq_getElem?_getD, Array.getD_eq_getD_getElem?, Array.getElem?_toList]
theorem one_is {s : ByteArray} (h1 : s.size = 1) (h : byteAt s 0 = 48) : s = str0 := by
  apply ByteArray.ext
  apply Array.ext
  · exact h1
  · intro i hi hi'
    have : i = 0 := by have : s.data.size = 1 := h1; omega
    subst this
    rw [← byteAt_eq (show 0 < s.size by omega)] at h
    exact h

set_option maxHeartbeats 1000000 in
set_option maxRecDepth 100000 in
theorem index_any (s : ByteArray) (hs : s.size ≤ 9223372036854775806) (w : World) : Calls Tryz.prog 168 #[.string s] w fun e w' => e = .returned (idxV s) ∧ Below w.heap.size w w' := by
  have hout : ∀ x, idx s = x → idxV s = .tuple #[.int .i64 ((x.getD 0 : Nat) : Int), .bool x.isSome] := fun x h => by rw [idxV, h]
  by_cases h0 : s = str0
  · subst h0
    rw [idx_zero]
    unfold str0
    go_enter Tryz.func168, Tryz.ntmps168
    go_wp2
    go_ret2
    exact ⟨rfl, Below.refl _ _⟩
  have hz : (s.toList == [48]) = false := by
    have := toList_beq s str0
    rw [show str0.toList = [48] from by simp [str0]] at this
    rw [this]; simpa using h0
  by_cases h1 : s.size < 1 ∨ 9 < s.size
  · have hi := hout none (by unfold idx; rw [if_pos (by rcases h1 with h | h <;> simp [h])])
    rw [hi]; clear hi hout
    rcases h1 with h1 | h1
    all_goals
      go_enter Tryz.func168, Tryz.ntmps168
      go_wp2
      go_ret2
      exact ⟨rfl, Below.refl _ _⟩
  have hlo : ¬ s.size < 1 := fun h => h1 (.inl h)
  have hhi : ¬ 9 < s.size := fun h => h1 (.inr h)
  clear h1
  have e0 := byteAt_eq (show 0 < s.size by omega)
  have hc := u8_beq (byteAt s 0) 48
  rw [show ((48 : UInt8).toNat : Int) = 48 from rfl] at hc
  by_cases hb : byteAt s 0 = 48
  · have hlt : 1 < s.size := by
      by_cases h : 1 < s.size
      · exact h
      · exact absurd (one_is (by omega) hb) h0
    have hi := hout none (by unfold idx; rw [if_pos (.inr (.inr ⟨hlt, hb⟩))])
    rw [hi]; clear hi hout
    have hb' : (((byteAt s 0).toNat : Int) == 48) = true := by rw [hb]; rfl
    clear hb hc h0 hlt
    go_enter Tryz.func168, Tryz.ntmps168
    go_wp2
    go_ret2
    exact ⟨rfl, Below.refl _ _⟩
  have hb' : (((byteAt s 0).toNat : Int) == 48) = false := by rw [hc]; simpa using hb
  have hidx : idx s = if digTo s s.size = true then some (numTo s s.size) else none := by
    unfold idx; rw [if_neg (by exact fun h => h.elim hlo (fun h => h.elim hhi (fun h => hb h.2)))]
  clear hb hc h0
  have hcv : (convert 9 111 (.string s)).run Tryz.prog w = .ok (.slice (some ⟨w.heap.size, 0, none⟩) s.size (grownCap w s.size 0 5)) (Lib.bytesWorld w 5 s) :=
    Lib.run_convert_string_bytes w 9 111 5 s Tryz.underlying9 Tryz.underlying111 Tryz.underlying5
  have hcell : Hid (∀ j, j < s.size → (Lib.bytesWorld w 5 s).cell? ⟨w.heap.size, j, none⟩ = some (.int .u8 ((byteAt s j).toNat : Int))) := fun j hj => bytes_cell w 5 s hj
  have hbel := bytesWorld_below w 5 s
  generalize Lib.bytesWorld w 5 s = wb at hcv hcell hbel
  generalize grownCap w s.size 0 5 = cp at hcv
  go_enter Tryz.func168, Tryz.ntmps168
  go_wp2
  clear hcv
  go_loopw [4, 25] (fun n i wr => ∃ q : Nat, q ≤ s.size ∧ i = .int .i64 q ∧ n = .int .i64 ((numTo s q : Nat) : Int) ∧ wr = wb ∧ Hid (digTo s q = true)) (fun _ i _ => s.size - (intOf i).toNat)
  case atStart => exact ⟨0, Nat.zero_le _, rfl, rfl, rfl, rfl⟩
  case round =>
    obtain ⟨q, hq, rfl, rfl, rfl, hB⟩ := hrel
    have hsm := numTo_small hB.out (by omega)
    by_cases hlt : q < s.size
    · have hd : decide ((q : Int) < (s.size : Int)) = true := by simp; omega
      have he := hcell.out q hlt
      have hdi := dig_int (byteAt s q)
      by_cases hb : isDig (byteAt s q) = true
      · have hnext : digTo s (q + 1) = true := by rw [digTo_succ, hB.out, hb]; rfl
        rw [hb] at hdi
        have h48 : ¬ ((byteAt s q).toNat : Int) < 48 := by simp at hdi; omega
        have h57 : ¬ (57 : Int) < ((byteAt s q).toNat : Int) := by simp at hdi; omega
        clear hdi hb
        go_wp2
        go_roundw
        case rel => exact ⟨q + 1, by omega, by simp, by simp [numTo]; omega, by simp, hnext⟩
        case measure => simp [intOf]; omega
      · have hbf : isDig (byteAt s q) = false := by simpa using hb
        have hi : Hid (idxV s = .tuple #[.int .i64 0, .bool false]) := hout none (by rw [hidx, digTo_false hbf hlt]; rfl)
        rw [hbf] at hdi
        clear hb hbf hout hidx
        by_cases h48 : ((byteAt s q).toNat : Int) < 48
        · clear hdi
          go_wp2
          go_ret2
          exact ⟨congrArg Ending.returned hi.out.symm, hbel⟩
        · have h57 : (57 : Int) < ((byteAt s q).toNat : Int) := by simp at hdi; omega
          clear hdi
          go_wp2
          go_ret2
          exact ⟨congrArg Ending.returned hi.out.symm, hbel⟩
    · have hd : decide ((q : Int) < (s.size : Int)) = false := by simp; omega
      have hqs : q = s.size := by omega
      subst hqs
      have hi : Hid (idxV s = .tuple #[.int .i64 ((numTo s s.size : Nat) : Int), .bool true]) := hout (some (numTo s s.size)) (by rw [hidx, hB.out]; rfl)
      clear hout hidx
      go_wp2
      go_ret2
      exact ⟨congrArg Ending.returned hi.out.symm, hbel⟩
end Go.Proofs.YthgnkhpomhcdkaaGreatDoor.Dp
