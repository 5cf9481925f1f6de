import Derived.Test.YtccfpbnkeaoicaaDoorN8
/-! The document's Made. -/
namespace Go.Proofs.YtccfpbnkeaoicaaDoor
open Go Go.RowKit
theorem hex_all : ∀ c, c < 256 → ∀ k, k < 16 → (decide (hexB k = UInt8.ofNat c) = decide (hexI (UInt8.ofNat c) = (k : Int))) := by decide +kernel
theorem hexB_is (c : UInt8) (k : Nat) (hk : k < 16) : (((hexB k).toNat : Int) == (c.toNat : Int)) = decide (hexI c = (k : Int)) := by
  have h := hex_all c.toNat (UInt8.toNat_lt c) k hk
  rw [UInt8.ofNat_toNat] at h
  rw [← h, nat_beq, Bool.eq_iff_iff, decide_eq_true_iff, decide_eq_true_iff]
  exact UInt8.toNat_inj
theorem hexI_ge (c : UInt8) : -1 ≤ hexI c := Lib.indexByte_ge _ _
/-- What the inner loop has found so far. -/
def foundD (c : UInt8) (k : Nat) : Int := if hexI c < k then hexI c else -1
theorem found_zero (c : UInt8) : foundD c 0 = -1 := by
  have := hexI_ge c
  unfold foundD
  split <;> omega
theorem found_hit {c : UInt8} {k : Nat} (h : hexI c = k) : foundD c (k + 1) = k := by
  unfold foundD
  rw [if_pos (by omega), h]
theorem found_miss {c : UInt8} {k : Nat} (h : hexI c ≠ k) : foundD c (k + 1) = foundD c k := by
  unfold foundD
  by_cases h1 : hexI c < k
  · rw [if_pos h1, if_pos (by omega)]
  · rw [if_neg h1, if_neg (by omega)]
theorem found_all (c : UInt8) : foundD c 16 = hexI c := by
  unfold foundD
  exact if_pos (hexI_le c)
theorem tail_at {s : ByteArray} (h : begG s = true) {j : Nat} (hj : j + 1 < s.size) : byteAt (tailG s) j = byteAt s (j + 1) := by
  unfold tailG
  rw [if_pos h]
  have h1 : j < (s.extract 1 s.size).size := by simp [ByteArray.size_extract]; omega
  rw [← byteAt_eq h1, ← byteAt_eq hj, ByteArray.getElem_extract]
  simp [Nat.add_comm]
theorem tail_size {s : ByteArray} (h : begG s = true) : (tailG s).size = s.size - 1 := by
  unfold tailG
  rw [if_pos h]
  simp [ByteArray.size_extract]
def Drew (w wr : World) : Prop := ∃ m, wr = w.drewN m
theorem Drew.more {w wr : World} (h : Drew w wr) (n : Nat) : Drew w (wr.drewN n) := by
  obtain ⟨m, rfl⟩ := h
  exact ⟨m + n, by rw [World.drewN_drewN]⟩
set_option maxHeartbeats 4000000 in
theorem rmade_any (s : ByteArray) (seed : Nat) (hs : s.size ≤ 9223372036854775806) (w : World) : Calls Tryd.prog 29 #[.string s, .int .u64 seed] w fun e w' => e = .returned (.tuple #[.int .u64 (madeN s seed), .bool (madeOk s seed)]) ∧ ∃ q, w' = w.drewN q := by
  have hok : Hid (madeOk s seed = (begG s && areHex (tailG s) && decide (counterN s seed ≠ last64))) := rfl
  have hN : Hid (madeN s seed = if madeOk s seed then counterN s seed else 0) := rfl
  by_cases h17 : s.size = 17
  · have d17 : ((s.size : Int) != 17) = false := by rw [h17]; rfl
    have e0 := byteAt_eq (show 0 < s.size by omega)
    by_cases hg : byteAt s 0 = 103
    · have g0 : (((byteAt s 0).toNat : Int) != 103) = false := by rw [hg]; rfl
      have hbeg : begG s = true := by unfold begG; rw [hg, h17]; rfl
      clear hg
      go_enter Tryd.func29, Tryd.ntmps29
      go_wp2_with fail
      go_loopw [6, 7] (fun x i wr => ∃ q : Nat, q ≤ 16 ∧ x = .int .u64 (readTo (tailG s) q : Nat) ∧ i = .int .i64 ((q + 1 : Nat) : Int) ∧ Hid (Drew w wr) ∧ Hid (∀ j, j < q → hexOk (byteAt (tailG s) j) = true)) (fun _ i _ => 17 - (intOf i).toNat)
      case atStart => exact ⟨0, by decide, rfl, rfl, ⟨0, rfl⟩, fun j h => by omega⟩
      case round =>
        obtain ⟨q, hq, rfl, rfl, hW, hB⟩ := hrel
        clear e0 g0
        by_cases hlt : q < 16
        · have hd : decide ((q : Int) + 1 < (s.size : Int)) = true := by simp; omega
          have he := byteAt_eq (show q + 1 < s.size by omega)
          have ht := hid_of (tail_at hbeg (j := q) (by omega))
          have hrs := hid_of (readTo_succ (tailG s) q)
          rw [ht.out] at hrs
          generalize readTo (tailG s) q = R at *
          have hci := hid_of (hexI_ge (byteAt s (q + 1)))
          have hcl := hid_of (hexI_le (byteAt s (q + 1)))
          have hbad : Hid (hexI (byteAt s (q + 1)) < 0 → areHex (tailG s) = false) := fun h => by
            unfold areHex
            rw [all_false (j := q) (by rw [tail_size hbeg]; omega) (by rw [ht.out]; unfold hexOk; simpa using h)]
            simp
          have hgood : Hid (0 ≤ hexI (byteAt s (q + 1)) → ∀ j, j < q + 1 → hexOk (byteAt (tailG s) j) = true) := fun h j hj => by
            by_cases e : j = q
            · subst e
              rw [ht.out]
              unfold hexOk
              simpa using h
            · exact hB.out j (by omega)
          have hV : Hid (hexV (byteAt s (q + 1)) = (hexI (byteAt s (q + 1))).toNat) := rfl
          clear hB ht
          go_wp2_with fail
          go_loopw [8, 9] (fun d k wr => ∃ p : Nat, p ≤ 16 ∧ d = .int .i64 (foundD (byteAt s (q + 1)) p) ∧ k = .int .i64 p ∧ Hid (Drew w wr)) (fun _ k _ => 16 - (intOf k).toNat)
          case atStart => exact ⟨0, by decide, by rw [found_zero], rfl, hW⟩
          case round =>
            obtain ⟨p, hp, rfl, rfl, hW2⟩ := hrel
            clear hW
            by_cases hpl : p < 16
            · have hd2 : decide ((p : Int) < 16) = true := by simp; omega
              have h16 : p < hexes.size := hpl
              have hx : (⟨#[48, 49, 50, 51, 52, 53, 54, 55, 56, 57, 97, 98, 99, 100, 101, 102]⟩ : ByteArray)[p] = hexB p := byteAt_eq h16
              have hp2 : (p : Int) < 16 := by omega
              have hq2 : (q : Int) + 1 < (s.size : Int) := by omega
              have heq := hexB_is (byteAt s (q + 1)) p hpl
              by_cases hh : hexI (byteAt s (q + 1)) = (p : Int)
              · rw [decide_eq_true hh] at heq
                have heq' : (((⟨#[48, 49, 50, 51, 52, 53, 54, 55, 56, 57, 97, 98, 99, 100, 101, 102]⟩ : ByteArray)[p].toNat : Int) == ((byteAt s (q + 1)).toNat : Int)) = true := (congrArg (fun b : UInt8 => ((b.toNat : Int) == ((byteAt s (q + 1)).toNat : Int))) hx).trans heq
                clear hx heq
                have hfd := hid_of (found_hit hh)
                clear hh
                go_wp2_with fail
                go_quiet (fail)
                replace hW2 := hid_of (hW2.out.more nq)
                go_wp2_with fail
                go_roundw
                case rel => exact ⟨p + 1, by omega, by rw [hfd.out], by simp, hW2⟩
                case measure => simp [intOf]; omega
              · rw [decide_eq_false hh] at heq
                have heq' : (((⟨#[48, 49, 50, 51, 52, 53, 54, 55, 56, 57, 97, 98, 99, 100, 101, 102]⟩ : ByteArray)[p].toNat : Int) == ((byteAt s (q + 1)).toNat : Int)) = false := (congrArg (fun b : UInt8 => ((b.toNat : Int) == ((byteAt s (q + 1)).toNat : Int))) hx).trans heq
                clear hx heq
                have hfd := hid_of (found_miss hh)
                clear hh
                go_wp2_with fail
                go_quiet (fail)
                replace hW2 := hid_of (hW2.out.more nq)
                go_wp2_with fail
                go_roundw
                case rel => exact ⟨p + 1, by omega, by rw [hfd.out], by simp, hW2⟩
                case measure => simp [intOf]; omega
            · have hd2 : decide ((p : Int) < 16) = false := by simp; omega
              obtain rfl : p = 16 := by omega
              rw [found_all]
              by_cases hneg : hexI (byteAt s (q + 1)) < 0
              · have hdn : decide (hexI (byteAt s (q + 1)) < 0) = true := by simpa using hneg
                have e1 : madeOk s seed = false := by rw [hok.out, hbad.out hneg, Bool.and_false, Bool.false_and]
                have e2 : madeN s seed = 0 := by rw [hN.out, e1]; rfl
                clear hok hN hbad hgood hneg hrs
                go_wp2_with fail
                go_ret2
                exact ⟨by rw [e1, e2]; rfl, hW2.out⟩
              · have hdn : decide (hexI (byteAt s (q + 1)) < 0) = false := by simpa using hneg
                have hVi : hexI (byteAt s (q + 1)) = ((hexV (byteAt s (q + 1)) : Nat) : Int) := by rw [hV.out]; omega
                have hVl : Hid (hexV (byteAt s (q + 1)) < M64) := by
                  have := hcl.out
                  unfold Hid M64
                  omega
                have hg2 := hid_of (hgood.out (by omega))
                clear hbad hgood hneg hci hcl hV he
                generalize hexI (byteAt s (q + 1)) = I at *
                generalize hexV (byteAt s (q + 1)) = V at *
                subst hVi
                go_wp2_with fail
                go_roundw
                case rel => exact ⟨q + 1, by omega, int_val (by
                  rw [show (16 : Int) = ((16 : Nat) : Int) from rfl, w_mul, wrap_small hVl.out, w_add, Nat.mod_add_mod, hrs.out, Nat.mul_comm]), by simp, hW2, hg2⟩
                case measure => simp [intOf]; omega
        · have hd : decide ((q : Int) + 1 < (s.size : Int)) = false := by simp; omega
          obtain rfl : q = 16 := by omega
          have hare : areHex (tailG s) = true := by
            unfold areHex
            rw [tail_size hbeg, all_true (fun j h => hB.out j (by rw [tail_size hbeg] at h; omega)), h17]
            rfl
          have hrd : readTo (tailG s) 16 = readN (tailG s) := by unfold readN; rw [if_pos hare]
          rw [hrd]
          have hx := hid_of (bx (unmix_lt (readN (tailG s))) (mix_lt seed))
          have h1 := hid_of (runmix_any (readN (tailG s)) (readN_lt _))
          have h2 := hid_of (rmix_any seed)
          have hx' : bits .xor .u64 ((unmixN (readN (tailG s)) : Nat) : Int) ((mixN seed : Nat) : Int) = ((counterN s seed : Nat) : Int) := hx.out
          rw [hbeg, hare, Bool.true_and, Bool.true_and] at hok
          have hb := nat_beq (counterN s seed) last64
          rw [show ((last64 : Nat) : Int) = 18446744073709551615 from rfl] at hb
          clear hB hare hrd hx
          generalize counterN s seed = C at *
          generalize unmixN (readN (tailG s)) = U at *
          generalize readN (tailG s) = R at *
          generalize mixN seed = Mx at *
          go_wp2_with fail
          refine (h1.out _).mono ?_
          rintro e w' ⟨rfl, rfl⟩
          go_wp2_with fail
          refine (h2.out _).mono ?_
          rintro e w' ⟨rfl, rfl⟩
          by_cases hc : C = last64
          · have e1 : madeOk s seed = false := by rw [hok.out, hc]; rfl
            have e2 : madeN s seed = 0 := by rw [hN.out, e1]; rfl
            rw [decide_eq_true hc] at hb
            clear hok hN hc h1 h2
            go_wp2_with fail
            go_ret2
            exact ⟨by rw [e1, e2]; rfl, hW.out⟩
          · have e1 : madeOk s seed = true := by rw [hok.out]; simpa using hc
            have e2 : madeN s seed = C := by rw [hN.out, if_pos e1]
            rw [decide_eq_false hc] at hb
            clear hok hN hc h1 h2
            go_wp2_with fail
            go_ret2
            exact ⟨by rw [e1, e2]; rfl, hW.out⟩
    · have g0 : (((byteAt s 0).toNat : Int) != 103) = true := by
        rw [bne, show (103 : Int) = ((103 : Nat) : Int) from rfl, nat_beq, Bool.not_eq_true', decide_eq_false_iff_not]
        intro h
        exact hg (UInt8.toNat_inj.1 h)
      have e1 : madeOk s seed = false := by rw [hok.out]; unfold begG; rw [decide_eq_false hg, Bool.and_false, Bool.false_and, Bool.false_and]
      have e2 : madeN s seed = 0 := by rw [hN.out, e1]; rfl
      clear hok hN hg
      rw [e1, e2]
      go_enter Tryd.func29, Tryd.ntmps29
      go_wp2_with fail
      go_ret2
      exact ⟨rfl, 0, rfl⟩
  · have d17 : ((s.size : Int) != 17) = true := by
      rw [bne, show (17 : Int) = ((17 : Nat) : Int) from rfl, nat_beq, decide_eq_false h17]
      rfl
    have e1 : madeOk s seed = false := by
      rw [hok.out]
      cases hb : begG s
      · rfl
      · have h1 : 1 ≤ s.size := by unfold begG at hb; simp at hb; omega
        have : areHex (tailG s) = false := by unfold areHex; rw [tail_size hb, decide_eq_false (by omega)]; rfl
        rw [this]
        rfl
    have e2 : madeN s seed = 0 := by rw [hN.out, e1]; rfl
    clear hok hN
    rw [e1, e2]
    go_enter Tryd.func29, Tryd.ntmps29
    go_wp2_with fail
    go_ret2
    exact ⟨rfl, 0, rfl⟩
end Go.Proofs.YtccfpbnkeaoicaaDoor
