import Derived.Test.YtccfpbnkeaoicaaDoorI4
/-! ident: sums; ids and names. -/
namespace Go.Proofs.YtccfpbnkeaoicaaDoor
open Go Go.RowKit
/-- The byte at a place of a text. -/
def byteAt (T : ByteArray) (n : Nat) : UInt8 := T.data.getD n 0
theorem byteAt_eq {T : ByteArray} {n : Nat} (h : n < T.size) : T[n] = byteAt T n := by
  have h' : n < T.data.size := h
  unfold byteAt
  rw [Array.getD_eq_getD_getElem?, Array.getElem?_eq_getElem h']
  rfl
theorem toList_at {s : ByteArray} {j : Nat} (hj : j < s.size) : s.data.toList[j]? = some (byteAt s j) := by
  rw [Array.getElem?_toList, ← byteAt_eq hj]
  exact Array.getElem?_eq_getElem (xs := s.data) hj
theorem take_more {s : ByteArray} {q : Nat} (hq : q < s.size) : s.data.toList.take (q + 1) = s.data.toList.take q ++ [byteAt s q] := by
  rw [List.take_add_one, toList_at hq]
  rfl
theorem take_all (s : ByteArray) : s.data.toList.take s.size = s.data.toList := List.take_of_length_le (by rw [Array.length_toList]; exact Nat.le_refl _)
theorem u8_lt (b : UInt8) : b.toNat < M64 := Nat.lt_trans (UInt8.toNat_lt b) (by decide)
theorem hash_one (h : Nat) (b : UInt8) : hashN h [b] = (h ^^^ b.toNat) * 1099511628211 % M64 := by
  unfold hashN
  rw [List.foldl_cons, List.foldl_nil, hashB]
set_option maxHeartbeats 1000000 in
theorem hashOn_any (h : Nat) (hh : h < M64) (s : ByteArray) (hs : s.size ≤ 9223372036854775806) (w : World) : Calls Tryd.prog 22 #[.int .u64 h, .string s] w fun e w' => e = .returned (.int .u64 (hashN h s.data.toList)) ∧ w' = w := by
  go_enter Tryd.func22, Tryd.ntmps22
  go_wp2
  go_loopw [0, 8] (fun x i wr => ∃ q : Nat, q ≤ s.size ∧ x = .int .u64 (hashN h (s.data.toList.take q) : Nat) ∧ i = .int .i64 q ∧ wr = w) (fun _ i _ => s.size - (intOf i).toNat)
  case atStart => exact ⟨0, Nat.zero_le _, rfl, rfl, rfl⟩
  case round =>
    obtain ⟨q, hq, rfl, rfl, rfl⟩ := hrel
    by_cases hlt : q < s.size
    · have hd : decide ((q : Int) < (s.size : Int)) = true := by simp; omega
      have he := byteAt_eq hlt
      go_wp2
      go_roundw
      case rel => exact ⟨q + 1, by omega, int_val (by
        rw [wrap_small (u8_lt _), bx (hash_lt hh _) (u8_lt _), show (1099511628211 : Int) = ((1099511628211 : Nat) : Int) from rfl, w_mul, take_more hlt, hash_append, hash_one]), by simp, by simp⟩
      case measure => simp [intOf]; omega
    · have hd : decide ((q : Int) < (s.size : Int)) = false := by simp; omega
      obtain rfl : q = s.size := by omega
      go_wp2
      go_ret
      exact ⟨ret_int (by rw [take_all]), rfl⟩
def fnv : Nat := 14695981039346656037
theorem hash_any (s : ByteArray) (hs : s.size ≤ 9223372036854775806) (w : World) : Calls Tryd.prog 20 #[.string s] w fun e w' => e = .returned (.int .u64 (hashN fnv s.data.toList)) ∧ w' = w := by
  have h := hid_of (hashOn_any fnv (by decide) s hs w)
  go_enter Tryd.func20, Tryd.ntmps20
  go_wp2_with fail
  refine h.out.mono ?_
  rintro e w' ⟨rfl, rfl⟩
  go_wp2_with fail
  go_ret
  exact ⟨rfl, rfl⟩
def idByte (b : UInt8) : Bool := decide (33 ≤ b.toNat) && decide (b.toNat ≤ 126)
def letterB (b : UInt8) : Bool := decide (97 ≤ b.toNat) && decide (b.toNat ≤ 122)
def nameByte (b : UInt8) : Bool := letterB b || (decide (48 ≤ b.toNat) && decide (b.toNat ≤ 57)) || decide (b.toNat = 45) || decide (b.toNat = 95) || decide (b.toNat = 46)
def idOk (s : ByteArray) : Bool := decide (1 ≤ s.size) && decide (s.size ≤ 64) && s.data.toList.all idByte
def nameOk (s : ByteArray) : Bool := decide (1 ≤ s.size) && decide (s.size ≤ 32) && letterB (byteAt s 0) && s.data.toList.all nameByte
theorem all_true {s : ByteArray} {p : UInt8 → Bool} (h : ∀ j, j < s.size → p (byteAt s j) = true) : s.data.toList.all p = true := by
  rw [List.all_eq_true]
  intro x hx
  obtain ⟨j, hj, rfl⟩ := List.getElem_of_mem hx
  have hj' : j < s.size := by simpa using hj
  have := h j hj'
  rw [← byteAt_eq hj'] at this
  have this : p s.data[j] = true := this
  simpa using this
theorem all_false {s : ByteArray} {p : UInt8 → Bool} {j : Nat} (hj : j < s.size) (h : p (byteAt s j) = false) : s.data.toList.all p = false := by
  rw [List.all_eq_false]
  refine ⟨s[j], ?_, by rw [byteAt_eq hj, h]; decide⟩
  exact Array.mem_toList_iff.2 (Array.getElem_mem (xs := s.data) hj)
theorem all_get {s : ByteArray} {p : UInt8 → Bool} (h : s.data.toList.all p = true) {j : Nat} (hj : j < s.size) : p (byteAt s j) = true := by
  rw [← byteAt_eq hj]
  exact List.all_eq_true.1 h _ (Array.mem_toList_iff.2 (Array.getElem_mem (xs := s.data) hj))
set_option maxHeartbeats 1000000 in
theorem id_any (s : ByteArray) (hs : s.size ≤ 9223372036854775806) (w : World) : Calls Tryd.prog 14 #[.string s] w fun e w' => e = .returned (.bool (idOk s)) ∧ w' = w := by
  by_cases h1 : 1 ≤ s.size
  · by_cases h2 : s.size ≤ 64
    · have d1 : decide ((s.size : Int) < 1) = false := by simp; omega
      have d2 : decide (64 < (s.size : Int)) = false := by simp; omega
      go_enter Tryd.func14, Tryd.ntmps14
      go_wp2
      go_loopw [14] (fun i wr => ∃ q : Nat, q ≤ s.size ∧ i = .int .i64 q ∧ wr = w ∧ Hid (∀ j, j < q → idByte (byteAt s j) = true)) (fun i _ => s.size - (intOf i).toNat)
      case atStart => exact ⟨0, Nat.zero_le _, rfl, rfl, fun j h => by omega⟩
      case round =>
        obtain ⟨q, hq, rfl, rfl, hB⟩ := hrel
        by_cases hlt : q < s.size
        · have hd : decide ((q : Int) < (s.size : Int)) = true := by simp; omega
          have he := byteAt_eq hlt
          by_cases hb : idByte (byteAt s q) = true
          · have hb' := hb
            simp [idByte] at hb'
            have b1 : decide (((byteAt s q).toNat : Int) < 33) = false := by simp; omega
            have b2 : decide (126 < ((byteAt s q).toNat : Int)) = false := by simp; omega
            clear hb'
            have hN : Hid (∀ j, j < q + 1 → idByte (byteAt s j) = true) := fun j h => by
              by_cases e : j = q
              · subst e; exact hb
              · exact hB.out j (by omega)
            clear hB hb
            go_wp2
            go_roundw
            case rel => exact ⟨q + 1, by omega, by simp, by simp, hN⟩
            case measure => simp [intOf]; omega
          · have hfin : idOk s = false := by
              unfold idOk
              rw [all_false hlt (by simpa using hb)]
              simp
            simp [idByte] at hb
            have hb' : decide (((byteAt s q).toNat : Int) < 33) = true ∨ (decide (((byteAt s q).toNat : Int) < 33) = false ∧ decide (126 < ((byteAt s q).toNat : Int)) = true) := by
              simp; omega
            clear hB hb
            rcases hb' with b1 | ⟨b1, b2⟩
            all_goals
              go_wp2
              go_ret
              exact ⟨ret_bool hfin.symm, rfl⟩
        · have hd : decide ((q : Int) < (s.size : Int)) = false := by simp; omega
          have hfin : idOk s = true := by
            unfold idOk
            rw [all_true (fun j h => hB.out j (by omega))]
            simp; omega
          clear hB
          go_wp2
          go_ret
          exact ⟨ret_bool hfin.symm, rfl⟩
    · have d1 : decide ((s.size : Int) < 1) = false := by simp; omega
      have d2 : decide (64 < (s.size : Int)) = true := by simp; omega
      have hfin : idOk s = false := by unfold idOk; simp [h2]
      rw [hfin]
      go_enter Tryd.func14, Tryd.ntmps14
      go_wp2
      go_ret
      exact ⟨rfl, rfl⟩
  · have d1 : decide ((s.size : Int) < 1) = true := by simp; omega
    have hfin : idOk s = false := by unfold idOk; simp; omega
    rw [hfin]
    go_enter Tryd.func14, Tryd.ntmps14
    go_wp2
    go_ret
    exact ⟨rfl, rfl⟩
end Go.Proofs.YtccfpbnkeaoicaaDoor
