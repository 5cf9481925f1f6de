import Derived.Test.YtccfpbnkeaoicaaDoorI5
import Derived.Test.YtccfpbnkeaoicaaDoorShelf
/-! ident: names; Digit. -/
namespace Go.Proofs.YtccfpbnkeaoicaaDoor
open Go Go.RowKit
theorem letter_any (b : UInt8) (w : World) : Calls Tryd.prog 40 #[.int .u8 b.toNat] w fun e w' => e = .returned (.bool (letterB b)) ∧ w' = w := by
  by_cases h : 97 ≤ b.toNat
  · have d : decide ((97 : Int) ≤ (b.toNat : Int)) = true := by simp; omega
    go_enter Tryd.func40, Tryd.ntmps40
    go_wp2
    go_ret
    exact ⟨ret_bool (by simp [letterB, h]; try omega), rfl⟩
  · have d : decide ((97 : Int) ≤ (b.toNat : Int)) = false := by simp; omega
    go_enter Tryd.func40, Tryd.ntmps40
    go_wp2
    go_ret
    exact ⟨ret_bool (by simp [letterB, h]), rfl⟩
theorem nat_beq (a b : Nat) : ((a : Int) == (b : Int)) = decide (a = b) := by
  rw [Bool.eq_iff_iff, beq_iff_eq, decide_eq_true_iff]
  exact Int.ofNat_inj
set_option maxHeartbeats 1000000 in
theorem ofName_any (b : UInt8) (w : World) : Calls Tryd.prog 41 #[.int .u8 b.toNat] w fun e w' => e = .returned (.bool (nameByte b)) ∧ w' = w := by
  have hl := hid_of (letter_any b w)
  have e1 := nat_beq b.toNat 45
  have e2 := nat_beq b.toNat 95
  have e3 := nat_beq b.toNat 46
  have g0 : nameByte b = (letterB b || (decide (48 ≤ b.toNat) && decide (b.toNat ≤ 57)) || decide (b.toNat = 45) || decide (b.toNat = 95) || decide (b.toNat = 46)) := rfl
  replace g0 := hid_of g0
  go_enter Tryd.func41, Tryd.ntmps41
  go_wp2_with fail
  refine hl.out.mono ?_
  rintro e w' ⟨rfl, rfl⟩
  clear hl
  generalize letterB b = l at *
  cases l
  all_goals
    go_wp2
  all_goals
    go_ret
    refine ⟨ret_bool ?_, rfl⟩
    rw [g0.out]
    first
      | rfl
      | (clear e1 e2 e3 g0; rw [Bool.eq_iff_iff]; simp at *; omega)
set_option maxHeartbeats 1000000 in
theorem name_any (s : ByteArray) (hs : s.size ≤ 9223372036854775806) (w : World) : Calls Tryd.prog 30 #[.string s] w fun e w' => e = .returned (.bool (nameOk s)) ∧ w' = w := by
  by_cases h1 : 1 ≤ s.size
  · have d1 : decide ((s.size : Int) < 1) = false := by simp; omega
    by_cases h2 : s.size ≤ 32
    · have d2 : decide (32 < (s.size : Int)) = false := by simp; omega
      have e0 := byteAt_eq (show 0 < s.size by omega)
      have hl := hid_of (letter_any (byteAt s 0) w)
      go_enter Tryd.func30, Tryd.ntmps30
      go_wp2_with fail
      refine hl.out.mono ?_
      rintro e w' ⟨rfl, rfl⟩
      clear hl
      cases hL : letterB (byteAt s 0)
      · have hfin : nameOk s = false := by unfold nameOk; simp [hL]
        go_wp2_with fail
        go_ret
        exact ⟨ret_bool hfin.symm, rfl⟩
      · go_wp2_with fail
        replace hL := hid_of hL
        clear e0
        go_loopw [20] (fun i wr => ∃ q : Nat, q ≤ s.size ∧ i = .int .i64 q ∧ wr = w' ∧ Hid (∀ j, j < q → nameByte (byteAt s j) = true)) (fun i _ => s.size - (intOf i).toNat)
        case atStart => exact ⟨0, Nat.zero_le _, rfl, rfl, fun j h => by omega⟩
        case round =>
          obtain ⟨q, hq, rfl, rfl, hB⟩ := hrel
          by_cases hlt : q < s.size
          · have hd : decide ((q : Int) < (s.size : Int)) = true := by simp; omega
            have he := byteAt_eq hlt
            have ho := hid_of (ofName_any (byteAt s q) wr)
            go_wp2_with fail
            refine ho.out.mono ?_
            rintro e w' ⟨rfl, rfl⟩
            clear ho
            cases hb : nameByte (byteAt s q)
            · have hfin : nameOk s = false := by
                unfold nameOk
                rw [all_false hlt hb]
                simp
              go_wp2_with fail
              go_ret
              exact ⟨ret_bool hfin.symm, rfl⟩
            · have hN : Hid (∀ j, j < q + 1 → nameByte (byteAt s j) = true) := fun j h => by
                by_cases e : j = q
                · subst e; exact hb
                · exact hB.out j (by omega)
              clear hB hb
              go_wp2_with fail
              go_roundw
              case rel => exact ⟨q + 1, by omega, by simp, by simp, hN⟩
              case measure => simp [intOf]; omega
          · have hd : decide ((q : Int) < (s.size : Int)) = false := by simp; omega
            have hfin : nameOk s = true := by
              unfold nameOk
              rw [all_true (fun j h => hB.out j (by omega)), hL.out]
              simp; omega
            clear hB
            go_wp2_with fail
            go_ret
            exact ⟨ret_bool hfin.symm, rfl⟩
    · have d2 : decide (32 < (s.size : Int)) = true := by simp; omega
      have hfin : nameOk s = false := by unfold nameOk; simp [h2]
      rw [hfin]
      go_enter Tryd.func30, Tryd.ntmps30
      go_wp2_with fail
      go_ret
      exact ⟨rfl, rfl⟩
  · have d1 : decide ((s.size : Int) < 1) = true := by simp; omega
    have hfin : nameOk s = false := by unfold nameOk; simp; omega
    rw [hfin]
    go_enter Tryd.func30, Tryd.ntmps30
    go_wp2_with fail
    go_ret
    exact ⟨rfl, rfl⟩
def digitOf (h : Nat) (l : Int) : Nat := if 0 ≤ l ∧ l < 16 then digitN h l.toNat else 0
theorem digit_lt (h l : Nat) : digitN h l < 16 := Nat.mod_lt _ (by decide)
theorem pow16 (n : Nat) : 2 ^ (n * 4) = 16 ^ n := by rw [Nat.mul_comm, Nat.pow_mul]
theorem digit_int {h : Nat} (hh : h < M64) {l : Int} (h1 : 0 ≤ l) (h2 : l < 16) : wrap64 (bits .and .u64 ((h : Int) / 2 ^ (l * 4).toNat) 15) = ((digitOf h l : Nat) : Int) := by
  obtain ⟨n, rfl⟩ := Int.eq_ofNat_of_zero_le h1
  have e1 : ((n : Int) * 4).toNat = n * 4 := by omega
  have e2 : (h : Int) / 2 ^ (n * 4) = ((h / 16 ^ n : Nat) : Int) := by
    rw [Int.natCast_ediv, ← pow16, Int.natCast_pow]
    rfl
  have e3 : digitOf h n = h / 16 ^ n % 16 := by
    unfold digitOf
    rw [if_pos ⟨h1, h2⟩]
    rfl
  have hlt : h / 16 ^ n % 16 < 16 := Nat.mod_lt _ (by decide)
  rw [e1, e2, show (15 : Int) = ((15 : Nat) : Int) from rfl, u64_and_nat _ _ (div_lt hh) (by decide), nat_mask4, e3]
  unfold wrap64
  omega
set_option maxHeartbeats 2000000 in
theorem digit_any (h : Nat) (hh : h < M64) (l : Int) (w : World) : Calls Tryd.prog 26 #[.int .u64 h, .int .i64 l] w fun e w' => e = .returned (.int .i64 (digitOf h l)) ∧ w' = w := by
  by_cases h1 : 0 ≤ l
  · have d1 : decide (l < 0) = false := by simp; omega
    by_cases h2 : l < 16
    · have d2 : decide (16 ≤ l) = false := by simp; omega
      go_enter Tryd.func26, Tryd.ntmps26
      go_wp2_with fail
      go_ret
      exact ⟨ret_int (digit_int hh h1 h2), rfl⟩
    · have d2 : decide (16 ≤ l) = true := by simp; omega
      have e : digitOf h l = 0 := by unfold digitOf; rw [if_neg (by omega)]
      rw [e]
      go_enter Tryd.func26, Tryd.ntmps26
      go_wp2_with fail
      go_ret
      exact ⟨rfl, rfl⟩
  · have d1 : decide (l < 0) = true := by simp; omega
    have e : digitOf h l = 0 := by unfold digitOf; rw [if_neg (by omega)]
    rw [e]
    go_enter Tryd.func26, Tryd.ntmps26
    go_wp2_with fail
    go_ret
    exact ⟨rfl, rfl⟩
end Go.Proofs.YtccfpbnkeaoicaaDoor
