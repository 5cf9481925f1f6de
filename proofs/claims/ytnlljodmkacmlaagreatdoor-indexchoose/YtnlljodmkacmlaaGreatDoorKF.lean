import Derived.Test.YtnlljodmkacmlaaGreatDoorJB
import Derived.Deep.Upon
/-! The document's Name. -/
namespace Go.Proofs.YtnlljodmkacmlaaGreatDoor
open Go Go.RowKit

theorem all_get {s : ByteArray} {p : UInt8 → Bool} (h : s.data.toList.all p = true) {j : Nat} (hj : j < s.size) : p (byteAt s j) = true := by
  rw [← byteAt_eq hj]
  exact List.all_eq_true.1 h _ (Array.mem_toList_iff.2 (Array.getElem_mem (xs := s.data) hj))
def rnOk (s : ByteArray) (j : Nat) : Bool := letterB (byteAt s j) || (decide (j ≠ 0) && nameByte (byteAt s j))
theorem rn_name {s : ByteArray} {j : Nat} (h : rnOk s j = true) : nameByte (byteAt s j) = true := by
  unfold rnOk at h
  unfold nameByte
  cases hl : letterB (byteAt s j)
  · rw [hl, Bool.false_or, Bool.and_eq_true] at h
    have := h.2
    unfold nameByte at this
    rwa [hl] at this
  · simp
set_option maxHeartbeats 4000000 in
theorem rname_any (s : ByteArray) (hs : s.size ≤ 9223372036854775806) (w : World) : Calls Tryz.prog 35 #[.string s] w fun e w' => e = .returned (.bool (nameOk s)) ∧ w' = w := by
  go_enter Tryz.func35, Tryz.ntmps35
  go_wp2
  go_loopw [3] (fun i wr => ∃ q : Nat, q ≤ s.size ∧ i = .int .i64 q ∧ wr = w ∧ Hid (∀ j, j < q → rnOk s j = true)) (fun i _ => s.size - (intOf i).toNat)
  case atStart => exact ⟨0, Nat.zero_le _, rfl, rfl, fun j h => by omega⟩
  case round =>
    obtain ⟨q, hq, rfl, rfl, hB⟩ := hrel
    by_cases hlt : q < s.size
    · have hd : decide ((q : Int) < (s.size : Int)) = true := by simp; omega
      have he := byteAt_eq hlt
      have hbad : Hid (rnOk s q = false → nameOk s = false) := fun hb => by
        cases hn : nameOk s
        · rfl
        · exfalso
          unfold nameOk at hn
          simp only [Bool.and_eq_true] at hn
          have h1 := all_get hn.2 hlt
          unfold rnOk at hb
          rw [h1, Bool.and_true, Bool.or_eq_false_iff] at hb
          have hq0 : q = 0 := by simpa using hb.2
          subst hq0
          rw [hn.1.2] at hb
          exact absurd hb.1 (by decide)
      have hgood : Hid (rnOk s q = true → ∀ j, j < q + 1 → rnOk s j = true) := fun h j hj => by
        by_cases e : j = q
        · subst e; exact h
        · exact hB.out j (by omega)
      have hr : Hid (rnOk s q = (letterB (byteAt s q) || (decide (q ≠ 0) && nameByte (byteAt s q)))) := rfl
      clear hB
      have hcl : Hid (letterB (byteAt s q) = (decide (97 ≤ (byteAt s q).toNat) && decide ((byteAt s q).toNat ≤ 122))) := rfl
      have hnb : Hid (nameByte (byteAt s q) = (letterB (byteAt s q) || (decide (48 ≤ (byteAt s q).toNat) && decide ((byteAt s q).toNat ≤ 57)) || decide ((byteAt s q).toNat = 45) || decide ((byteAt s q).toNat = 95) || decide ((byteAt s q).toNat = 46))) := rfl
      rw [hcl.out] at hnb
      rw [hcl.out] at hr
      rw [hnb.out] at hr
      clear hcl hnb
      have k1 := nat_beq (byteAt s q).toNat 45
      have k2 := nat_beq (byteAt s q).toNat 95
      have k3 := nat_beq (byteAt s q).toNat 46
      have k0 := nat_beq q 0
      rw [show ((45 : Nat) : Int) = 45 from rfl] at k1
      rw [show ((95 : Nat) : Int) = 95 from rfl] at k2
      rw [show ((46 : Nat) : Int) = 46 from rfl] at k3
      rw [show ((0 : Nat) : Int) = 0 from rfl] at k0
      have hcls : (97 ≤ (byteAt s q).toNat ∧ (byteAt s q).toNat ≤ 122) ∨ (48 ≤ (byteAt s q).toNat ∧ (byteAt s q).toNat ≤ 57) ∨ ((byteAt s q).toNat = 45) ∨ ((byteAt s q).toNat = 46) ∨ ((byteAt s q).toNat = 95) ∨ ((byteAt s q).toNat < 48 ∧ (byteAt s q).toNat ≠ 45 ∧ (byteAt s q).toNat ≠ 46) ∨ (58 ≤ (byteAt s q).toNat ∧ (byteAt s q).toNat ≤ 96 ∧ (byteAt s q).toNat ≠ 95) ∨ (122 < (byteAt s q).toNat) := by omega
      rcases hcls with hc | hc | hc | hc | hc | hc | hc | hc
      · have g1 : decide ((97 : Int) ≤ ((byteAt s q).toNat : Int)) = true := by simp; omega
        have g2 : decide (((byteAt s q).toNat : Int) ≤ 122) = true := by simp; omega
        have g3 : decide ((48 : Int) ≤ ((byteAt s q).toNat : Int)) = true := by simp; omega
        have g4 : decide (((byteAt s q).toNat : Int) ≤ 57) = false := by simp; omega
        have g5 : (((byteAt s q).toNat : Int) == 45) = false := by rw [k1]; simp; omega
        have g6 : (((byteAt s q).toNat : Int) == 95) = false := by rw [k2]; simp; omega
        have g7 : (((byteAt s q).toNat : Int) == 46) = false := by rw [k3]; simp; omega
        clear k1 k2 k3
        have hR : rnOk s q = true := by rw [hr.out]; simp; omega
        clear hr hbad hc k0
        go_wp2_with fail
        go_roundw
        case rel => exact ⟨q + 1, by omega, by simp, by simp, hid_of (hgood.out hR)⟩
        case measure => simp [intOf]; omega
      · have g1 : decide ((97 : Int) ≤ ((byteAt s q).toNat : Int)) = false := by simp; omega
        have g2 : decide (((byteAt s q).toNat : Int) ≤ 122) = true := by simp; omega
        have g3 : decide ((48 : Int) ≤ ((byteAt s q).toNat : Int)) = true := by simp; omega
        have g4 : decide (((byteAt s q).toNat : Int) ≤ 57) = true := by simp; omega
        have g5 : (((byteAt s q).toNat : Int) == 45) = false := by rw [k1]; simp; omega
        have g6 : (((byteAt s q).toNat : Int) == 95) = false := by rw [k2]; simp; omega
        have g7 : (((byteAt s q).toNat : Int) == 46) = false := by rw [k3]; simp; omega
        clear k1 k2 k3
        by_cases hq0 : q = 0
        · have hR : rnOk s q = false := by rw [hr.out, decide_eq_false (show ¬ (q ≠ 0) from fun h => h hq0)]; simp; omega
          have hfin := hbad.out hR
          rw [decide_eq_true hq0] at k0
          clear hr hbad hgood hc hq0
          go_wp2_with fail
          go_ret
          exact ⟨ret_bool hfin.symm, rfl⟩
        · rw [decide_eq_false hq0] at k0
          have hR : rnOk s q = true := by rw [hr.out]; simp; omega
          clear hr hbad hc hq0
          go_wp2_with fail
          go_roundw
          case rel => exact ⟨q + 1, by omega, by simp, by simp, hid_of (hgood.out hR)⟩
          case measure => simp [intOf]; omega
      · have g1 : decide ((97 : Int) ≤ ((byteAt s q).toNat : Int)) = false := by simp; omega
        have g2 : decide (((byteAt s q).toNat : Int) ≤ 122) = true := by simp; omega
        have g3 : decide ((48 : Int) ≤ ((byteAt s q).toNat : Int)) = false := by simp; omega
        have g4 : decide (((byteAt s q).toNat : Int) ≤ 57) = true := by simp; omega
        have g5 : (((byteAt s q).toNat : Int) == 45) = true := by rw [k1]; simp; omega
        have g6 : (((byteAt s q).toNat : Int) == 95) = false := by rw [k2]; simp; omega
        have g7 : (((byteAt s q).toNat : Int) == 46) = false := by rw [k3]; simp; omega
        clear k1 k2 k3
        by_cases hq0 : q = 0
        · have hR : rnOk s q = false := by rw [hr.out, decide_eq_false (show ¬ (q ≠ 0) from fun h => h hq0)]; simp; omega
          have hfin := hbad.out hR
          rw [decide_eq_true hq0] at k0
          clear hr hbad hgood hc hq0
          go_wp2_with fail
          go_ret
          exact ⟨ret_bool hfin.symm, rfl⟩
        · rw [decide_eq_false hq0] at k0
          have hR : rnOk s q = true := by rw [hr.out]; simp; omega
          clear hr hbad hc hq0
          go_wp2_with fail
          go_roundw
          case rel => exact ⟨q + 1, by omega, by simp, by simp, hid_of (hgood.out hR)⟩
          case measure => simp [intOf]; omega
      · have g1 : decide ((97 : Int) ≤ ((byteAt s q).toNat : Int)) = false := by simp; omega
        have g2 : decide (((byteAt s q).toNat : Int) ≤ 122) = true := by simp; omega
        have g3 : decide ((48 : Int) ≤ ((byteAt s q).toNat : Int)) = false := by simp; omega
        have g4 : decide (((byteAt s q).toNat : Int) ≤ 57) = true := by simp; omega
        have g5 : (((byteAt s q).toNat : Int) == 45) = false := by rw [k1]; simp; omega
        have g6 : (((byteAt s q).toNat : Int) == 95) = false := by rw [k2]; simp; omega
        have g7 : (((byteAt s q).toNat : Int) == 46) = true := by rw [k3]; simp; omega
        clear k1 k2 k3
        by_cases hq0 : q = 0
        · have hR : rnOk s q = false := by rw [hr.out, decide_eq_false (show ¬ (q ≠ 0) from fun h => h hq0)]; simp; omega
          have hfin := hbad.out hR
          rw [decide_eq_true hq0] at k0
          clear hr hbad hgood hc hq0
          go_wp2_with fail
          go_ret
          exact ⟨ret_bool hfin.symm, rfl⟩
        · rw [decide_eq_false hq0] at k0
          have hR : rnOk s q = true := by rw [hr.out]; simp; omega
          clear hr hbad hc hq0
          go_wp2_with fail
          go_roundw
          case rel => exact ⟨q + 1, by omega, by simp, by simp, hid_of (hgood.out hR)⟩
          case measure => simp [intOf]; omega
      · have g1 : decide ((97 : Int) ≤ ((byteAt s q).toNat : Int)) = false := by simp; omega
        have g2 : decide (((byteAt s q).toNat : Int) ≤ 122) = true := by simp; omega
        have g3 : decide ((48 : Int) ≤ ((byteAt s q).toNat : Int)) = true := by simp; omega
        have g4 : decide (((byteAt s q).toNat : Int) ≤ 57) = false := by simp; omega
        have g5 : (((byteAt s q).toNat : Int) == 45) = false := by rw [k1]; simp; omega
        have g6 : (((byteAt s q).toNat : Int) == 95) = true := by rw [k2]; simp; omega
        have g7 : (((byteAt s q).toNat : Int) == 46) = false := by rw [k3]; simp; omega
        clear k1 k2 k3
        by_cases hq0 : q = 0
        · have hR : rnOk s q = false := by rw [hr.out, decide_eq_false (show ¬ (q ≠ 0) from fun h => h hq0)]; simp; omega
          have hfin := hbad.out hR
          rw [decide_eq_true hq0] at k0
          clear hr hbad hgood hc hq0
          go_wp2_with fail
          go_ret
          exact ⟨ret_bool hfin.symm, rfl⟩
        · rw [decide_eq_false hq0] at k0
          have hR : rnOk s q = true := by rw [hr.out]; simp; omega
          clear hr hbad hc hq0
          go_wp2_with fail
          go_roundw
          case rel => exact ⟨q + 1, by omega, by simp, by simp, hid_of (hgood.out hR)⟩
          case measure => simp [intOf]; omega
      · have g1 : decide ((97 : Int) ≤ ((byteAt s q).toNat : Int)) = false := by simp; omega
        have g2 : decide (((byteAt s q).toNat : Int) ≤ 122) = true := by simp; omega
        have g3 : decide ((48 : Int) ≤ ((byteAt s q).toNat : Int)) = false := by simp; omega
        have g4 : decide (((byteAt s q).toNat : Int) ≤ 57) = true := by simp; omega
        have g5 : (((byteAt s q).toNat : Int) == 45) = false := by rw [k1]; simp; omega
        have g6 : (((byteAt s q).toNat : Int) == 95) = false := by rw [k2]; simp; omega
        have g7 : (((byteAt s q).toNat : Int) == 46) = false := by rw [k3]; simp; omega
        clear k1 k2 k3
        by_cases hq0 : q = 0
        · have hR : rnOk s q = false := by rw [hr.out, decide_eq_false (show ¬ (q ≠ 0) from fun h => h hq0)]; simp; omega
          have hfin := hbad.out hR
          rw [decide_eq_true hq0] at k0
          clear hr hbad hgood hc hq0
          go_wp2_with fail
          go_ret
          exact ⟨ret_bool hfin.symm, rfl⟩
        · rw [decide_eq_false hq0] at k0
          have hR : rnOk s q = false := by rw [hr.out]; simp; omega
          have hfin := hbad.out hR
          clear hr hbad hgood hc hq0
          go_wp2_with fail
          go_ret
          exact ⟨ret_bool hfin.symm, rfl⟩
      · have g1 : decide ((97 : Int) ≤ ((byteAt s q).toNat : Int)) = false := by simp; omega
        have g2 : decide (((byteAt s q).toNat : Int) ≤ 122) = true := by simp; omega
        have g3 : decide ((48 : Int) ≤ ((byteAt s q).toNat : Int)) = true := by simp; omega
        have g4 : decide (((byteAt s q).toNat : Int) ≤ 57) = false := by simp; omega
        have g5 : (((byteAt s q).toNat : Int) == 45) = false := by rw [k1]; simp; omega
        have g6 : (((byteAt s q).toNat : Int) == 95) = false := by rw [k2]; simp; omega
        have g7 : (((byteAt s q).toNat : Int) == 46) = false := by rw [k3]; simp; omega
        clear k1 k2 k3
        by_cases hq0 : q = 0
        · have hR : rnOk s q = false := by rw [hr.out, decide_eq_false (show ¬ (q ≠ 0) from fun h => h hq0)]; simp; omega
          have hfin := hbad.out hR
          rw [decide_eq_true hq0] at k0
          clear hr hbad hgood hc hq0
          go_wp2_with fail
          go_ret
          exact ⟨ret_bool hfin.symm, rfl⟩
        · rw [decide_eq_false hq0] at k0
          have hR : rnOk s q = false := by rw [hr.out]; simp; omega
          have hfin := hbad.out hR
          clear hr hbad hgood hc hq0
          go_wp2_with fail
          go_ret
          exact ⟨ret_bool hfin.symm, rfl⟩
      · have g1 : decide ((97 : Int) ≤ ((byteAt s q).toNat : Int)) = true := by simp; omega
        have g2 : decide (((byteAt s q).toNat : Int) ≤ 122) = false := by simp; omega
        have g3 : decide ((48 : Int) ≤ ((byteAt s q).toNat : Int)) = true := by simp; omega
        have g4 : decide (((byteAt s q).toNat : Int) ≤ 57) = false := by simp; omega
        have g5 : (((byteAt s q).toNat : Int) == 45) = false := by rw [k1]; simp; omega
        have g6 : (((byteAt s q).toNat : Int) == 95) = false := by rw [k2]; simp; omega
        have g7 : (((byteAt s q).toNat : Int) == 46) = false := by rw [k3]; simp; omega
        clear k1 k2 k3
        by_cases hq0 : q = 0
        · have hR : rnOk s q = false := by rw [hr.out, decide_eq_false (show ¬ (q ≠ 0) from fun h => h hq0)]; simp; omega
          have hfin := hbad.out hR
          rw [decide_eq_true hq0] at k0
          clear hr hbad hgood hc hq0
          go_wp2_with fail
          go_ret
          exact ⟨ret_bool hfin.symm, rfl⟩
        · rw [decide_eq_false hq0] at k0
          have hR : rnOk s q = false := by rw [hr.out]; simp; omega
          have hfin := hbad.out hR
          clear hr hbad hgood hc hq0
          go_wp2_with fail
          go_ret
          exact ⟨ret_bool hfin.symm, rfl⟩
    · have hd : decide ((q : Int) < (s.size : Int)) = false := by simp; omega
      have hfin : nameOk s = (decide (1 ≤ s.size) && decide (s.size ≤ 32)) := by
        unfold nameOk
        rw [all_true (fun j h => rn_name (hB.out j (by omega))), Bool.and_true]
        by_cases h1 : 1 ≤ s.size
        · have := hB.out 0 (by omega)
          unfold rnOk at this
          simp at this
          rw [this, Bool.and_true]
        · simp [h1]
      clear hB
      by_cases h1 : 1 ≤ s.size
      · have d1 : decide ((1 : Int) ≤ (s.size : Int)) = true := by simp; omega
        go_wp2
        go_ret
        exact ⟨ret_bool (by rw [hfin, Bool.eq_iff_iff]; simp; omega), rfl⟩
      · have d1 : decide ((1 : Int) ≤ (s.size : Int)) = false := by simp; omega
        go_wp2
        go_ret
        exact ⟨ret_bool (by rw [hfin]; simp; omega), rfl⟩
end Go.Proofs.YtnlljodmkacmlaaGreatDoor
/-! The document's Parse of a path. -/
namespace Go.Proofs.YtnlljodmkacmlaaGreatDoor
open Go Go.RowKit

set_option maxHeartbeats 1000000 in
theorem segment_any (s : ByteArray) (hs : s.size ≤ 9223372036854775806) (w : World) : Calls Tryz.prog 68 #[.string s] w fun e w' => e = .returned (.bool (seg s)) ∧ w' = w := by
  go_enter Tryz.func68, Tryz.ntmps68
  go_wp2
  go_loopw [3] (fun i wr => ∃ q : Nat, q ≤ s.size ∧ i = .int .i64 q ∧ wr = w ∧ Hid (∀ j, j < q → byteAt s j ≠ 46)) (fun i _ => s.size - (intOf i).toNat)
  case atStart => exact ⟨0, Nat.zero_le _, rfl, rfl, fun j h => by omega⟩
  case round =>
    obtain ⟨q, hq, rfl, rfl, hB⟩ := hrel
    by_cases hlt : q < s.size
    · have hd : decide ((q : Int) < (s.size : Int)) = true := by simp; omega
      have he := byteAt_eq hlt
      by_cases hb : byteAt s q = 46
      · have hb' : (((byteAt s q).toNat : Int) == 46) = true := by rw [hb]; rfl
        have hfin := seg_false_dot (noDot_false hlt hb)
        clear hb
        go_wp2
        go_ret
        exact ⟨ret_bool hfin.symm, rfl⟩
      · have hb' : (((byteAt s q).toNat : Int) == 46) = false := by
          have := u8_beq (byteAt s q) 46
          rw [show ((46 : UInt8).toNat : Int) = 46 from rfl] at this
          rw [this]; simpa using hb
        go_wp2
        go_roundw
        case rel => exact ⟨q + 1, by omega, by simp, by simp, fun j h => by
          by_cases e : j = q
          · subst e; exact hb
          · exact hB.out j (by omega)⟩
        case measure => simp [intOf]; omega
    · have hd : decide ((q : Int) < (s.size : Int)) = false := by simp; omega
      have hnd : noDot s = true := noDot_true (fun j h => hB.out j (by omega))
      clear hB
      by_cases h1 : 1 ≤ s.size
      · have e0 := byteAt_eq (show 0 < s.size by omega)
        have hc := u8_beq (byteAt s 0) 36
        rw [show ((36 : UInt8).toNat : Int) = 36 from rfl] at hc
        go_wp2
        all_goals (go_ret; exact ⟨ret_bool (by simp [seg, hnd, bne, ← hc]; try simp [*]; try omega), rfl⟩)
      · go_wp2
        all_goals (go_ret; exact ⟨ret_bool (by simp [seg, hnd]; try omega), rfl⟩)
set_option maxHeartbeats 2000000 in
set_option maxRecDepth 100000 in
theorem rparse_any (T : ByteArray) (hT : T.size ≤ 140737488355328) (w : World) : Calls Tryz.prog 36 #[.string T] w (Parsed w (parseR T 0 [])) := by
  obtain ⟨i9, hi9, hz90, hz91, hz92⟩ := info_parts A9
  go_enter Tryz.func36, Tryz.ntmps36
  go_wp2
  go_loopw [5, 6, 7] (fun p r m wr => ∃ (l : List ByteArray) (n k : Nat), wr.ownsRow w.heap.size 9 1 p l.length (strs l) ∧ l.length ≤ 16 ∧ Below w.heap.size w wr ∧ r = .int .i64 (n : Int) ∧ m = .int .i64 (k : Int) ∧
      ((n ≤ k ∧ k ≤ T.size ∧ Hid (∀ j, n ≤ j → j < k → byteAt T j ≠ 46) ∧ Hid (parseR T 0 [] = parseR T n l)) ∨ (n = T.size + 1 ∧ k = T.size + 1 ∧ Hid (parseR T 0 [] = (l, 0, 0))))) (fun _ _ m _ => T.size + 1 - (intOf m).toNat)
  case atStart => exact ⟨[], 0, 0, World.ownsRow_nil _ _ _ _, by simp, Below.refl _ _, rfl, rfl, .inl ⟨Nat.le_refl _, Nat.zero_le _, fun j h1 h2 => by omega, rfl⟩⟩
  case round =>
    obtain ⟨l, n, k, hown, hl, hbel, rfl, rfl, ⟨hnk, hk, hno, hP⟩ | ⟨rfl, rfl, hP⟩⟩ := hrel
    · obtain ⟨a5, c5, rfl⟩ := ownsRow_slice hown
      have hn : n ≤ T.size := by omega
      have hle : decide ((k : Int) ≤ (T.size : Int)) = true := by simp; omega
      have hgo : (k < T.size ∧ byteAt T k ≠ 46) ∨ (Hid (next T n = k) ∧ ((k < T.size ∧ byteAt T k = 46) ∨ k = T.size)) := by
        by_cases h1 : k < T.size
        · by_cases h2 : byteAt T k = 46
          · exact .inr ⟨next_eq hnk hk hno.out (.inr h2), .inl ⟨h1, h2⟩⟩
          · exact .inl ⟨h1, h2⟩
        · exact .inr ⟨next_eq hnk hk hno.out (.inl (by omega)), .inr (by omega)⟩
      rcases hgo with ⟨hlt, hdot⟩ | ⟨hnx, hgo⟩
      · have hd : decide ((k : Int) < (T.size : Int)) = true := by simp; omega
        have he := byteAt_eq hlt
        have hb' : (((byteAt T k).toNat : Int) == 46) = false := by
          have := u8_beq (byteAt T k) 46
          rw [show ((46 : UInt8).toNat : Int) = 46 from rfl] at this
          rw [this]; simpa using hdot
        go_wp2
        go_roundw
        case rel => exact ⟨l, n, k + 1, hown, hl, hbel, rfl, by simp, .inl ⟨by omega, by omega, fun j h1 h2 => by
          by_cases e : j = k
          · subst e; exact hdot
          · exact hno.out j h1 (by omega), hP⟩⟩
        case measure => simp [intOf]; omega
      · have hbad : Hid (l.length = 16 ∨ seg (T.extract n k) = false → parseR T n l = ([], 20, n)) := fun h => parseR_bad hn (by rw [hnx.out]; exact h)
        have hmore : Hid (¬ l.length = 16 → seg (T.extract n k) = true → k < T.size → parseR T n l = parseR T (k + 1) (l ++ [T.extract n k])) := fun h1 h2 h3 => by
          have := parseR_more hn h1 (by rw [hnx.out]; exact h2) (by rw [hnx.out]; exact h3)
          rw [hnx.out] at this; exact this
        have hend : Hid (¬ l.length = 16 → seg (T.extract n k) = true → ¬ k < T.size → parseR T n l = (l ++ [T.extract n k], 0, 0)) := fun h1 h2 h3 => by
          have := parseR_end hn h1 (by rw [hnx.out]; exact h2) (by rw [hnx.out]; exact h3)
          rw [hnx.out] at this; exact this
        have hszs : (T.extract n k).size ≤ 281474976710656 := by rw [ByteArray.size_extract]; omega
        clear hno hnx
        rcases hgo with ⟨hlt, hdot⟩ | rfl
        · have hd : decide ((k : Int) < (T.size : Int)) = true := by simp; omega
          have he := byteAt_eq hlt
          have hb' : (((byteAt T k).toNat : Int) == 46) = true := by rw [hdot]; rfl
          clear hdot
          generalize hsg : T.extract n k = sg at *
          by_cases h16 : l.length = 16
          · have hd16 : ((l.length : Int) == 16) = true := by simp; omega
            go_wp2_with fail
            go_ret3
            refine ⟨.slice none 0 0, ?_, ?_, ?_⟩
            · rw [hP.out, hbad.out (.inl h16)]; rfl
            · rw [hP.out, hbad.out (.inl h16)]; exact World.ownsRow_nil _ _ _ _
            · exact hbel
          · have hd16 : ((l.length : Int) == 16) = false := by simp; omega
            go_wp2_with fail
            refine (segment_any sg (by omega) _).mono ?_
            rintro e w2 ⟨rfl, rfl⟩
            cases hs : seg sg
            · go_wp2_with fail
              go_ret3
              refine ⟨.slice none 0 0, ?_, ?_, ?_⟩
              · rw [hP.out, hbad.out (.inr hs)]; rfl
              · rw [hP.out, hbad.out (.inr hs)]; exact World.ownsRow_nil _ _ _ _
              · exact hbel
            · go_wp2_with (at_builtin; refine wpList_append_lies _ rfl _ _ 25 rfl w.heap.size 9 i9 _ 1 16 Tryz.underlying25 hi9 hz90 hz91 hz92 rfl (by decide) _ l.length (strs l) rfl (hown.alloc _) _ 1 1 [.string sg] rfl rfl (World.news_of_block (heap_alloc_new w2 _)) (one_string sg) (by decide) (by unfold maxLen; omega) (by omega) (by have := hbel.size; simp only [World.size_alloc]; omega) _ rfl ?_; intro g cap w4 hown4 hgrow4 hat4 hlt4)
              have hbel4 : Below w.heap.size w w4 := (hbel.alloc (by have := hbel.size; omega) _).trans (grown_below hgrow4 (by have := hbel.size; simp; omega) (fun g hg => (ownsRow_ge hown hg).1))
              go_roundw
              case rel =>
                refine ⟨l ++ [sg], k + 1, k + 1, by simpa [strs_snoc] using hown4, by simp; omega, hbel4, by simp, by simp, ?_⟩
                exact .inl ⟨by omega, by omega, fun j h1 h2 => by omega, hP.out.trans (hmore.out h16 hs hlt)⟩
              case measure => simp [intOf]; omega
        · have hd : decide ((T.size : Int) < (T.size : Int)) = false := by simp
          generalize hsg : T.extract n T.size = sg at *
          by_cases h16 : l.length = 16
          · have hd16 : ((l.length : Int) == 16) = true := by simp; omega
            go_wp2_with fail
            go_ret3
            refine ⟨.slice none 0 0, ?_, ?_, ?_⟩
            · rw [hP.out, hbad.out (.inl h16)]; rfl
            · rw [hP.out, hbad.out (.inl h16)]; exact World.ownsRow_nil _ _ _ _
            · exact hbel
          · have hd16 : ((l.length : Int) == 16) = false := by simp; omega
            go_wp2_with fail
            refine (segment_any sg (by omega) _).mono ?_
            rintro e w2 ⟨rfl, rfl⟩
            cases hs : seg sg
            · go_wp2_with fail
              go_ret3
              refine ⟨.slice none 0 0, ?_, ?_, ?_⟩
              · rw [hP.out, hbad.out (.inr hs)]; rfl
              · rw [hP.out, hbad.out (.inr hs)]; exact World.ownsRow_nil _ _ _ _
              · exact hbel
            · go_wp2_with (at_builtin; refine wpList_append_lies _ rfl _ _ 25 rfl w.heap.size 9 i9 _ 1 16 Tryz.underlying25 hi9 hz90 hz91 hz92 rfl (by decide) _ l.length (strs l) rfl (hown.alloc _) _ 1 1 [.string sg] rfl rfl (World.news_of_block (heap_alloc_new w2 _)) (one_string sg) (by decide) (by unfold maxLen; omega) (by omega) (by have := hbel.size; simp only [World.size_alloc]; omega) _ rfl ?_; intro g cap w4 hown4 hgrow4 hat4 hlt4)
              have hbel4 : Below w.heap.size w w4 := (hbel.alloc (by have := hbel.size; omega) _).trans (grown_below hgrow4 (by have := hbel.size; simp; omega) (fun g hg => (ownsRow_ge hown hg).1))
              go_roundw
              case rel =>
                refine ⟨l ++ [sg], T.size + 1, T.size + 1, by simpa [strs_snoc] using hown4, by simp; omega, hbel4, by simp, by simp, ?_⟩
                exact .inr ⟨rfl, rfl, hP.out.trans (hend.out h16 hs (by omega))⟩
              case measure => simp [intOf]
    · obtain ⟨a5, c5, rfl⟩ := ownsRow_slice hown
      have hle : decide (((T.size + 1 : Nat) : Int) ≤ (T.size : Int)) = false := by simp; omega
      go_wp2_with fail
      go_ret3
      rw [hP.out]
      exact ⟨_, rfl, hown, hbel⟩
end Go.Proofs.YtnlljodmkacmlaaGreatDoor
