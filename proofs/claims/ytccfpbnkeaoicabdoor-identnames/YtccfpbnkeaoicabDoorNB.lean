import Derived.Test.YtccfpbnkeaoicabDoorID
/-! The document's Id, Name, Part. -/
namespace Go.Proofs.YtccfpbnkeaoicabDoor
open Go Go.RowKit
set_option maxHeartbeats 1000000 in
theorem rid_any (s : ByteArray) (hs : s.size ≤ 9223372036854775806) (w : World) : Calls Tryd.prog 7 #[.string s] w fun e w' => e = .returned (.bool (idOk s)) ∧ w' = w := by
  go_enter Tryd.func7, Tryd.ntmps7
  go_wp2
  go_loopw [3] (fun i wr => ∃ q : Nat, q ≤ s.size ∧ i = .int .i64 q ∧ wr = w ∧ Hid (∀ j, j < q → idByte (byteAt s j) = true)) (fun i _ => s.size - (intOf i).toNat)
  case atStart => exact ⟨0, Nat.zero_le _, rfl, rfl, fun j h => by omega⟩
  case round =>
    obtain ⟨q, hq, rfl, rfl, hB⟩ := hrel
    by_cases hlt : q < s.size
    · have hd : decide ((q : Int) < (s.size : Int)) = true := by simp; omega
      have he := byteAt_eq hlt
      by_cases hb : idByte (byteAt s q) = true
      · have hb' := hb
        simp [idByte] at hb'
        have b1 : decide (((byteAt s q).toNat : Int) < 33) = false := by simp; omega
        have b2 : decide (126 < ((byteAt s q).toNat : Int)) = false := by simp; omega
        clear hb'
        have hN : Hid (∀ j, j < q + 1 → idByte (byteAt s j) = true) := fun j h => by
          by_cases e : j = q
          · subst e; exact hb
          · exact hB.out j (by omega)
        clear hB hb
        go_wp2
        go_roundw
        case rel => exact ⟨q + 1, by omega, by simp, by simp, hN⟩
        case measure => simp [intOf]; omega
      · have hfin : idOk s = false := by
          unfold idOk
          rw [all_false hlt (by simpa using hb)]
          simp
        simp [idByte] at hb
        have hb' : decide (((byteAt s q).toNat : Int) < 33) = true ∨ (decide (((byteAt s q).toNat : Int) < 33) = false ∧ decide (126 < ((byteAt s q).toNat : Int)) = true) := by
          simp; omega
        clear hB hb
        rcases hb' with b1 | ⟨b1, b2⟩
        all_goals
          go_wp2
          go_ret
          exact ⟨ret_bool hfin.symm, rfl⟩
    · have hd : decide ((q : Int) < (s.size : Int)) = false := by simp; omega
      have hfin : idOk s = (decide (1 ≤ s.size) && decide (s.size ≤ 64)) := by
        unfold idOk
        rw [all_true (fun j h => hB.out j (by omega)), Bool.and_true]
      clear hB
      by_cases h1 : 1 ≤ s.size
      · have d1 : decide ((1 : Int) ≤ (s.size : Int)) = true := by simp; omega
        go_wp2
        go_ret
        exact ⟨ret_bool (by rw [hfin, Bool.eq_iff_iff]; simp; omega), rfl⟩
      · have d1 : decide ((1 : Int) ≤ (s.size : Int)) = false := by simp; omega
        go_wp2
        go_ret
        exact ⟨ret_bool (by rw [hfin]; simp; omega), rfl⟩
def rnOk (s : ByteArray) (j : Nat) : Bool := letterB (byteAt s j) || (decide (j ≠ 0) && nameByte (byteAt s j))
theorem rn_name {s : ByteArray} {j : Nat} (h : rnOk s j = true) : nameByte (byteAt s j) = true := by
  unfold rnOk at h
  unfold nameByte
  cases hl : letterB (byteAt s j)
  · rw [hl, Bool.false_or, Bool.and_eq_true] at h
    have := h.2
    unfold nameByte at this
    rwa [hl] at this
  · simp
set_option maxHeartbeats 4000000 in
theorem rname_any (s : ByteArray) (hs : s.size ≤ 9223372036854775806) (w : World) : Calls Tryd.prog 9 #[.string s] w fun e w' => e = .returned (.bool (nameOk s)) ∧ w' = w := by
  go_enter Tryd.func9, Tryd.ntmps9
  go_wp2
  go_loopw [3] (fun i wr => ∃ q : Nat, q ≤ s.size ∧ i = .int .i64 q ∧ wr = w ∧ Hid (∀ j, j < q → rnOk s j = true)) (fun i _ => s.size - (intOf i).toNat)
  case atStart => exact ⟨0, Nat.zero_le _, rfl, rfl, fun j h => by omega⟩
  case round =>
    obtain ⟨q, hq, rfl, rfl, hB⟩ := hrel
    by_cases hlt : q < s.size
    · have hd : decide ((q : Int) < (s.size : Int)) = true := by simp; omega
      have he := byteAt_eq hlt
      have hbad : Hid (rnOk s q = false → nameOk s = false) := fun hb => by
        cases hn : nameOk s
        · rfl
        · exfalso
          unfold nameOk at hn
          simp only [Bool.and_eq_true] at hn
          have h1 := all_get hn.2 hlt
          unfold rnOk at hb
          rw [h1, Bool.and_true, Bool.or_eq_false_iff] at hb
          have hq0 : q = 0 := by simpa using hb.2
          subst hq0
          rw [hn.1.2] at hb
          exact absurd hb.1 (by decide)
      have hgood : Hid (rnOk s q = true → ∀ j, j < q + 1 → rnOk s j = true) := fun h j hj => by
        by_cases e : j = q
        · subst e; exact h
        · exact hB.out j (by omega)
      have hr : Hid (rnOk s q = (letterB (byteAt s q) || (decide (q ≠ 0) && nameByte (byteAt s q)))) := rfl
      clear hB
      have hcl : Hid (letterB (byteAt s q) = (decide (97 ≤ (byteAt s q).toNat) && decide ((byteAt s q).toNat ≤ 122))) := rfl
      have hnb : Hid (nameByte (byteAt s q) = (letterB (byteAt s q) || (decide (48 ≤ (byteAt s q).toNat) && decide ((byteAt s q).toNat ≤ 57)) || decide ((byteAt s q).toNat = 45) || decide ((byteAt s q).toNat = 95) || decide ((byteAt s q).toNat = 46))) := rfl
      rw [hcl.out] at hnb
      rw [hcl.out] at hr
      rw [hnb.out] at hr
      clear hcl hnb
      have k1 := nat_beq (byteAt s q).toNat 45
      have k2 := nat_beq (byteAt s q).toNat 95
      have k3 := nat_beq (byteAt s q).toNat 46
      have k0 := nat_beq q 0
      rw [show ((45 : Nat) : Int) = 45 from rfl] at k1
      rw [show ((95 : Nat) : Int) = 95 from rfl] at k2
      rw [show ((46 : Nat) : Int) = 46 from rfl] at k3
      rw [show ((0 : Nat) : Int) = 0 from rfl] at k0
      have hcls : (97 ≤ (byteAt s q).toNat ∧ (byteAt s q).toNat ≤ 122) ∨ (48 ≤ (byteAt s q).toNat ∧ (byteAt s q).toNat ≤ 57) ∨ ((byteAt s q).toNat = 45) ∨ ((byteAt s q).toNat = 46) ∨ ((byteAt s q).toNat = 95) ∨ ((byteAt s q).toNat < 48 ∧ (byteAt s q).toNat ≠ 45 ∧ (byteAt s q).toNat ≠ 46) ∨ (58 ≤ (byteAt s q).toNat ∧ (byteAt s q).toNat ≤ 96 ∧ (byteAt s q).toNat ≠ 95) ∨ (122 < (byteAt s q).toNat) := by omega
      rcases hcls with hc | hc | hc | hc | hc | hc | hc | hc
      · have g1 : decide ((97 : Int) ≤ ((byteAt s q).toNat : Int)) = true := by simp; omega
        have g2 : decide (((byteAt s q).toNat : Int) ≤ 122) = true := by simp; omega
        have g3 : decide ((48 : Int) ≤ ((byteAt s q).toNat : Int)) = true := by simp; omega
        have g4 : decide (((byteAt s q).toNat : Int) ≤ 57) = false := by simp; omega
        have g5 : (((byteAt s q).toNat : Int) == 45) = false := by rw [k1]; simp; omega
        have g6 : (((byteAt s q).toNat : Int) == 95) = false := by rw [k2]; simp; omega
        have g7 : (((byteAt s q).toNat : Int) == 46) = false := by rw [k3]; simp; omega
        clear k1 k2 k3
        have hR : rnOk s q = true := by rw [hr.out]; simp; omega
        clear hr hbad hc k0
        go_wp2_with fail
        go_roundw
        case rel => exact ⟨q + 1, by omega, by simp, by simp, hid_of (hgood.out hR)⟩
        case measure => simp [intOf]; omega
      · have g1 : decide ((97 : Int) ≤ ((byteAt s q).toNat : Int)) = false := by simp; omega
        have g2 : decide (((byteAt s q).toNat : Int) ≤ 122) = true := by simp; omega
        have g3 : decide ((48 : Int) ≤ ((byteAt s q).toNat : Int)) = true := by simp; omega
        have g4 : decide (((byteAt s q).toNat : Int) ≤ 57) = true := by simp; omega
        have g5 : (((byteAt s q).toNat : Int) == 45) = false := by rw [k1]; simp; omega
        have g6 : (((byteAt s q).toNat : Int) == 95) = false := by rw [k2]; simp; omega
        have g7 : (((byteAt s q).toNat : Int) == 46) = false := by rw [k3]; simp; omega
        clear k1 k2 k3
        by_cases hq0 : q = 0
        · have hR : rnOk s q = false := by rw [hr.out, decide_eq_false (show ¬ (q ≠ 0) from fun h => h hq0)]; simp; omega
          have hfin := hbad.out hR
          rw [decide_eq_true hq0] at k0
          clear hr hbad hgood hc hq0
          go_wp2_with fail
          go_ret
          exact ⟨ret_bool hfin.symm, rfl⟩
        · rw [decide_eq_false hq0] at k0
          have hR : rnOk s q = true := by rw [hr.out]; simp; omega
          clear hr hbad hc hq0
          go_wp2_with fail
          go_roundw
          case rel => exact ⟨q + 1, by omega, by simp, by simp, hid_of (hgood.out hR)⟩
          case measure => simp [intOf]; omega
      · have g1 : decide ((97 : Int) ≤ ((byteAt s q).toNat : Int)) = false := by simp; omega
        have g2 : decide (((byteAt s q).toNat : Int) ≤ 122) = true := by simp; omega
        have g3 : decide ((48 : Int) ≤ ((byteAt s q).toNat : Int)) = false := by simp; omega
        have g4 : decide (((byteAt s q).toNat : Int) ≤ 57) = true := by simp; omega
        have g5 : (((byteAt s q).toNat : Int) == 45) = true := by rw [k1]; simp; omega
        have g6 : (((byteAt s q).toNat : Int) == 95) = false := by rw [k2]; simp; omega
        have g7 : (((byteAt s q).toNat : Int) == 46) = false := by rw [k3]; simp; omega
        clear k1 k2 k3
        by_cases hq0 : q = 0
        · have hR : rnOk s q = false := by rw [hr.out, decide_eq_false (show ¬ (q ≠ 0) from fun h => h hq0)]; simp; omega
          have hfin := hbad.out hR
          rw [decide_eq_true hq0] at k0
          clear hr hbad hgood hc hq0
          go_wp2_with fail
          go_ret
          exact ⟨ret_bool hfin.symm, rfl⟩
        · rw [decide_eq_false hq0] at k0
          have hR : rnOk s q = true := by rw [hr.out]; simp; omega
          clear hr hbad hc hq0
          go_wp2_with fail
          go_roundw
          case rel => exact ⟨q + 1, by omega, by simp, by simp, hid_of (hgood.out hR)⟩
          case measure => simp [intOf]; omega
      · have g1 : decide ((97 : Int) ≤ ((byteAt s q).toNat : Int)) = false := by simp; omega
        have g2 : decide (((byteAt s q).toNat : Int) ≤ 122) = true := by simp; omega
        have g3 : decide ((48 : Int) ≤ ((byteAt s q).toNat : Int)) = false := by simp; omega
        have g4 : decide (((byteAt s q).toNat : Int) ≤ 57) = true := by simp; omega
        have g5 : (((byteAt s q).toNat : Int) == 45) = false := by rw [k1]; simp; omega
        have g6 : (((byteAt s q).toNat : Int) == 95) = false := by rw [k2]; simp; omega
        have g7 : (((byteAt s q).toNat : Int) == 46) = true := by rw [k3]; simp; omega
        clear k1 k2 k3
        by_cases hq0 : q = 0
        · have hR : rnOk s q = false := by rw [hr.out, decide_eq_false (show ¬ (q ≠ 0) from fun h => h hq0)]; simp; omega
          have hfin := hbad.out hR
          rw [decide_eq_true hq0] at k0
          clear hr hbad hgood hc hq0
          go_wp2_with fail
          go_ret
          exact ⟨ret_bool hfin.symm, rfl⟩
        · rw [decide_eq_false hq0] at k0
          have hR : rnOk s q = true := by rw [hr.out]; simp; omega
          clear hr hbad hc hq0
          go_wp2_with fail
          go_roundw
          case rel => exact ⟨q + 1, by omega, by simp, by simp, hid_of (hgood.out hR)⟩
          case measure => simp [intOf]; omega
      · have g1 : decide ((97 : Int) ≤ ((byteAt s q).toNat : Int)) = false := by simp; omega
        have g2 : decide (((byteAt s q).toNat : Int) ≤ 122) = true := by simp; omega
        have g3 : decide ((48 : Int) ≤ ((byteAt s q).toNat : Int)) = true := by simp; omega
        have g4 : decide (((byteAt s q).toNat : Int) ≤ 57) = false := by simp; omega
        have g5 : (((byteAt s q).toNat : Int) == 45) = false := by rw [k1]; simp; omega
        have g6 : (((byteAt s q).toNat : Int) == 95) = true := by rw [k2]; simp; omega
        have g7 : (((byteAt s q).toNat : Int) == 46) = false := by rw [k3]; simp; omega
        clear k1 k2 k3
        by_cases hq0 : q = 0
        · have hR : rnOk s q = false := by rw [hr.out, decide_eq_false (show ¬ (q ≠ 0) from fun h => h hq0)]; simp; omega
          have hfin := hbad.out hR
          rw [decide_eq_true hq0] at k0
          clear hr hbad hgood hc hq0
          go_wp2_with fail
          go_ret
          exact ⟨ret_bool hfin.symm, rfl⟩
        · rw [decide_eq_false hq0] at k0
          have hR : rnOk s q = true := by rw [hr.out]; simp; omega
          clear hr hbad hc hq0
          go_wp2_with fail
          go_roundw
          case rel => exact ⟨q + 1, by omega, by simp, by simp, hid_of (hgood.out hR)⟩
          case measure => simp [intOf]; omega
      · have g1 : decide ((97 : Int) ≤ ((byteAt s q).toNat : Int)) = false := by simp; omega
        have g2 : decide (((byteAt s q).toNat : Int) ≤ 122) = true := by simp; omega
        have g3 : decide ((48 : Int) ≤ ((byteAt s q).toNat : Int)) = false := by simp; omega
        have g4 : decide (((byteAt s q).toNat : Int) ≤ 57) = true := by simp; omega
        have g5 : (((byteAt s q).toNat : Int) == 45) = false := by rw [k1]; simp; omega
        have g6 : (((byteAt s q).toNat : Int) == 95) = false := by rw [k2]; simp; omega
        have g7 : (((byteAt s q).toNat : Int) == 46) = false := by rw [k3]; simp; omega
        clear k1 k2 k3
        by_cases hq0 : q = 0
        · have hR : rnOk s q = false := by rw [hr.out, decide_eq_false (show ¬ (q ≠ 0) from fun h => h hq0)]; simp; omega
          have hfin := hbad.out hR
          rw [decide_eq_true hq0] at k0
          clear hr hbad hgood hc hq0
          go_wp2_with fail
          go_ret
          exact ⟨ret_bool hfin.symm, rfl⟩
        · rw [decide_eq_false hq0] at k0
          have hR : rnOk s q = false := by rw [hr.out]; simp; omega
          have hfin := hbad.out hR
          clear hr hbad hgood hc hq0
          go_wp2_with fail
          go_ret
          exact ⟨ret_bool hfin.symm, rfl⟩
      · have g1 : decide ((97 : Int) ≤ ((byteAt s q).toNat : Int)) = false := by simp; omega
        have g2 : decide (((byteAt s q).toNat : Int) ≤ 122) = true := by simp; omega
        have g3 : decide ((48 : Int) ≤ ((byteAt s q).toNat : Int)) = true := by simp; omega
        have g4 : decide (((byteAt s q).toNat : Int) ≤ 57) = false := by simp; omega
        have g5 : (((byteAt s q).toNat : Int) == 45) = false := by rw [k1]; simp; omega
        have g6 : (((byteAt s q).toNat : Int) == 95) = false := by rw [k2]; simp; omega
        have g7 : (((byteAt s q).toNat : Int) == 46) = false := by rw [k3]; simp; omega
        clear k1 k2 k3
        by_cases hq0 : q = 0
        · have hR : rnOk s q = false := by rw [hr.out, decide_eq_false (show ¬ (q ≠ 0) from fun h => h hq0)]; simp; omega
          have hfin := hbad.out hR
          rw [decide_eq_true hq0] at k0
          clear hr hbad hgood hc hq0
          go_wp2_with fail
          go_ret
          exact ⟨ret_bool hfin.symm, rfl⟩
        · rw [decide_eq_false hq0] at k0
          have hR : rnOk s q = false := by rw [hr.out]; simp; omega
          have hfin := hbad.out hR
          clear hr hbad hgood hc hq0
          go_wp2_with fail
          go_ret
          exact ⟨ret_bool hfin.symm, rfl⟩
      · have g1 : decide ((97 : Int) ≤ ((byteAt s q).toNat : Int)) = true := by simp; omega
        have g2 : decide (((byteAt s q).toNat : Int) ≤ 122) = false := by simp; omega
        have g3 : decide ((48 : Int) ≤ ((byteAt s q).toNat : Int)) = true := by simp; omega
        have g4 : decide (((byteAt s q).toNat : Int) ≤ 57) = false := by simp; omega
        have g5 : (((byteAt s q).toNat : Int) == 45) = false := by rw [k1]; simp; omega
        have g6 : (((byteAt s q).toNat : Int) == 95) = false := by rw [k2]; simp; omega
        have g7 : (((byteAt s q).toNat : Int) == 46) = false := by rw [k3]; simp; omega
        clear k1 k2 k3
        by_cases hq0 : q = 0
        · have hR : rnOk s q = false := by rw [hr.out, decide_eq_false (show ¬ (q ≠ 0) from fun h => h hq0)]; simp; omega
          have hfin := hbad.out hR
          rw [decide_eq_true hq0] at k0
          clear hr hbad hgood hc hq0
          go_wp2_with fail
          go_ret
          exact ⟨ret_bool hfin.symm, rfl⟩
        · rw [decide_eq_false hq0] at k0
          have hR : rnOk s q = false := by rw [hr.out]; simp; omega
          have hfin := hbad.out hR
          clear hr hbad hgood hc hq0
          go_wp2_with fail
          go_ret
          exact ⟨ret_bool hfin.symm, rfl⟩
    · have hd : decide ((q : Int) < (s.size : Int)) = false := by simp; omega
      have hfin : nameOk s = (decide (1 ≤ s.size) && decide (s.size ≤ 32)) := by
        unfold nameOk
        rw [all_true (fun j h => rn_name (hB.out j (by omega))), Bool.and_true]
        by_cases h1 : 1 ≤ s.size
        · have := hB.out 0 (by omega)
          unfold rnOk at this
          simp at this
          rw [this, Bool.and_true]
        · simp [h1]
      clear hB
      by_cases h1 : 1 ≤ s.size
      · have d1 : decide ((1 : Int) ≤ (s.size : Int)) = true := by simp; omega
        go_wp2
        go_ret
        exact ⟨ret_bool (by rw [hfin, Bool.eq_iff_iff]; simp; omega), rfl⟩
      · have d1 : decide ((1 : Int) ≤ (s.size : Int)) = false := by simp; omega
        go_wp2
        go_ret
        exact ⟨ret_bool (by rw [hfin]; simp; omega), rfl⟩
theorem slash_is {s : ByteArray} {q : Nat} (hlt : q < s.size) (h : byteAt s q = 47) (hB : ∀ j, j < q → byteAt s j ≠ 47) : slashI s = q := by
  have hge := slash_ge s
  by_cases e : slashI s = -1
  · exact absurd (by rw [toList_at hlt, h]) (Lib.indexByte_none e q)
  · obtain ⟨o, ho⟩ := Int.eq_ofNat_of_zero_le (show 0 ≤ slashI s by omega)
    obtain ⟨h1, h2, h3⟩ := slash_at ho
    rw [ho]
    rcases Nat.lt_trichotomy o q with hl | hl | hl
    · exact absurd h2 (hB o hl)
    · rw [hl]
    · exact absurd h (h3 q hl)
theorem slash_no {s : ByteArray} (hB : ∀ j, j < s.size → byteAt s j ≠ 47) : slashI s < 0 := by
  have hge := slash_ge s
  rcases Int.lt_or_le (slashI s) 0 with h | h
  · exact h
  · obtain ⟨o, ho⟩ := Int.eq_ofNat_of_zero_le h
    obtain ⟨h1, h2, _⟩ := slash_at ho
    exact absurd h2 (hB o h1)
set_option maxHeartbeats 4000000 in
theorem rpart_any (s : ByteArray) (hs : s.size ≤ 9223372036854775806) (w : World) : Calls Tryd.prog 5 #[.string s] w fun e w' =>
    e = .returned (.tuple #[.string (partIn s), .string (partId s), .bool (partOk s)]) ∧ ∃ q, w' = w.drewN q := by
  have h2 := hid_of (fun q w => rname_any (s.extract 0 q) (by simp [ByteArray.size_extract]; omega) w)
  have h3 := hid_of (fun q w => rid_any (s.extract q s.size) (by simp [ByteArray.size_extract]; omega) w)
  go_enter Tryd.func5, Tryd.ntmps5
  go_wp2
  go_loopw [5] (fun i wr => ∃ q : Nat, q ≤ s.size ∧ i = .int .i64 q ∧ wr = w ∧ Hid (∀ j, j < q → byteAt s j ≠ 47)) (fun i _ => s.size - (intOf i).toNat)
  case atStart => exact ⟨0, Nat.zero_le _, rfl, rfl, fun j h => by omega⟩
  case round =>
    obtain ⟨q, hq, rfl, rfl, hB⟩ := hrel
    by_cases hlt : q < s.size
    · have hd : decide ((q : Int) < (s.size : Int)) = true := by simp; omega
      have he := byteAt_eq hlt
      by_cases hb : byteAt s q = 47
      · have hb' : (((byteAt s q).toNat : Int) == 47) = true := by rw [hb]; rfl
        have hcut : cutT s = (s.extract 0 q, s.extract (q + 1) s.size, true) := by
          unfold cutT
          rw [slash_is hlt hb hB.out, if_neg (by omega)]
          rfl
        have e1 : Hid (partOk s = (nameOk (s.extract 0 q) && idOk (s.extract (q + 1) s.size))) := by
          unfold Hid partOk
          rw [hcut, Bool.true_and]
        have e2 : Hid (partIn s = if partOk s then s.extract 0 q else ⟨#[]⟩) := by unfold Hid partIn; rw [hcut]
        have e3 : Hid (partId s = if partOk s then s.extract (q + 1) s.size else ⟨#[]⟩) := by unfold Hid partId; rw [hcut]
        have n1 := hid_of (h2.out q wr)
        have n2 := hid_of (h3.out (q + 1) wr)
        clear hB hb hcut h2 h3
        generalize nameOk (s.extract 0 q) = D at *
        generalize idOk (s.extract (q + 1) s.size) = E at *
        go_wp2_with fail
        refine n1.out.mono ?_
        rintro e w' ⟨rfl, rfl⟩
        clear n1
        cases D
        · have e1' : partOk s = false := by rw [e1.out]; rfl
          have e2' : partIn s = ⟨#[]⟩ := by rw [e2.out, e1']; rfl
          have e3' : partId s = ⟨#[]⟩ := by rw [e3.out, e1']; rfl
          clear e1 e2 e3
          go_wp2_with fail
          go_ret3
          exact ⟨by rw [e1', e2', e3']; rfl, 0, rfl⟩
        · go_wp2_with fail
          refine n2.out.mono ?_
          rintro e w' ⟨rfl, rfl⟩
          clear n2
          cases E
          · have e1' : partOk s = false := by rw [e1.out]; rfl
            have e2' : partIn s = ⟨#[]⟩ := by rw [e2.out, e1']; rfl
            have e3' : partId s = ⟨#[]⟩ := by rw [e3.out, e1']; rfl
            clear e1 e2 e3
            go_wp2_with fail
            go_ret3
            exact ⟨by rw [e1', e2', e3']; rfl, 0, rfl⟩
          · have e1' : partOk s = true := by rw [e1.out]; rfl
            have e2' : partIn s = s.extract 0 q := by rw [e2.out, if_pos e1']
            have e3' : partId s = s.extract (q + 1) s.size := by rw [e3.out, if_pos e1']
            clear e1 e2 e3
            go_wp2_with fail
            go_quiet (fail)
            go_wp2_with fail
            go_ret3
            exact ⟨by rw [e1', e2', e3']; rfl, nq, rfl⟩
      · have hb' : (((byteAt s q).toNat : Int) == 47) = false := by
          rw [show (47 : Int) = ((47 : Nat) : Int) from rfl, nat_beq, decide_eq_false_iff_not]
          intro h
          exact hb (UInt8.toNat_inj.1 h)
        have hN : Hid (∀ j, j < q + 1 → byteAt s j ≠ 47) := fun j h => by
          by_cases e : j = q
          · subst e; exact hb
          · exact hB.out j (by omega)
        clear hB hb h2 h3
        go_wp2_with fail
        go_roundw
        case rel => exact ⟨q + 1, by omega, by simp, by simp, hN⟩
        case measure => simp [intOf]; omega
    · have hd : decide ((q : Int) < (s.size : Int)) = false := by simp; omega
      have e1 : partOk s = false := by
        unfold partOk cutT
        rw [if_pos (slash_no (fun j h => hB.out j (by omega)))]
        rfl
      have e2 : partIn s = ⟨#[]⟩ := by unfold partIn; rw [e1]; rfl
      have e3 : partId s = ⟨#[]⟩ := by unfold partId; rw [e1]; rfl
      clear hB h2 h3
      go_wp2_with fail
      go_ret3
      exact ⟨by rw [e1, e2, e3]; rfl, 0, rfl⟩
end Go.Proofs.YtccfpbnkeaoicabDoor
