import Derived.Test.YtccfpbnkeaoicaaDoorIB
import Derived.Test.YtccfpbnkeaoicaaDoorID
/-! The law IdentSums. -/
namespace Go.Proofs.YtccfpbnkeaoicaaDoor
open Go Go.RowKit
set_option maxHeartbeats 1000000 in
theorem rhashOn_any (h : Nat) (hh : h < M64) (s : ByteArray) (hs : s.size ≤ 9223372036854775806) (w : World) : Calls Tryd.prog 23 #[.int .u64 h, .string s] w fun e w' => e = .returned (.int .u64 (hashN h s.data.toList)) ∧ w' = w := by
  go_enter Tryd.func23, Tryd.ntmps23
  go_wp2
  go_loopw [0, 5] (fun x i wr => ∃ q : Nat, q ≤ s.size ∧ x = .int .u64 (hashN h (s.data.toList.take q) : Nat) ∧ i = .int .i64 q ∧ wr = w) (fun _ i _ => s.size - (intOf i).toNat)
  case atStart => exact ⟨0, Nat.zero_le _, rfl, rfl, rfl⟩
  case round =>
    obtain ⟨q, hq, rfl, rfl, rfl⟩ := hrel
    by_cases hlt : q < s.size
    · have hd : decide ((q : Int) < (s.size : Int)) = true := by simp; omega
      have he := byteAt_eq hlt
      go_wp2
      go_roundw
      case rel => exact ⟨q + 1, by omega, int_val (by
        rw [wrap_small (u8_lt _), bx (hash_lt hh _) (u8_lt _), show (1099511628211 : Int) = ((1099511628211 : Nat) : Int) from rfl, w_mul, take_more hlt, hash_append, hash_one]), by simp, by simp⟩
      case measure => simp [intOf]; omega
    · have hd : decide ((q : Int) < (s.size : Int)) = false := by simp; omega
      obtain rfl : q = s.size := by omega
      go_wp2
      go_ret
      exact ⟨ret_int (by rw [take_all]), rfl⟩
theorem rhash_any (s : ByteArray) (hs : s.size ≤ 9223372036854775806) (w : World) : Calls Tryd.prog 21 #[.string s] w fun e w' => e = .returned (.int .u64 (hashN fnv s.data.toList)) ∧ w' = w := by
  have h := hid_of (rhashOn_any fnv (by decide) s hs w)
  go_enter Tryd.func21, Tryd.ntmps21
  go_wp2_with fail
  refine h.out.mono ?_
  rintro e w' ⟨rfl, rfl⟩
  go_wp2_with fail
  go_ret
  exact ⟨rfl, rfl⟩
/-- The document's digit: so many times a sixteenth. -/
theorem div_more (h q : Nat) : h / 16 ^ q / 16 = h / 16 ^ (q + 1) := by rw [Nat.div_div_eq_div_mul, Nat.pow_succ]
set_option maxHeartbeats 2000000 in
theorem rdigit_any (h : Nat) (hh : h < M64) (l : Int) (w : World) : Calls Tryd.prog 27 #[.int .u64 h, .int .i64 l] w fun e w' => e = .returned (.int .i64 (digitOf h l)) ∧ w' = w := by
  by_cases h1 : 0 ≤ l
  · have d1 : decide (l < 0) = false := by simp; omega
    by_cases h2 : l < 16
    · have d2 : decide (16 ≤ l) = false := by simp; omega
      obtain ⟨n, rfl⟩ := Int.eq_ofNat_of_zero_le h1
      have e3 : digitOf h n = h / 16 ^ n % 16 := by
        unfold digitOf
        rw [if_pos ⟨h1, h2⟩]
        rfl
      rw [e3]
      go_enter Tryd.func27, Tryd.ntmps27
      go_wp2_with fail
      go_loopw [0, 5] (fun x i wr => ∃ q : Nat, q ≤ n ∧ x = .int .u64 (h / 16 ^ q : Nat) ∧ i = .int .i64 q ∧ wr = w) (fun _ i _ => n - (intOf i).toNat)
      case atStart => exact ⟨0, Nat.zero_le _, by simp, rfl, rfl⟩
      case round =>
        obtain ⟨q, hq, rfl, rfl, rfl⟩ := hrel
        have hlt64 : Hid (h / 16 ^ q < M64) := div_lt hh
        have hdv := div_more h q
        generalize hX : h / 16 ^ q = X at *
        replace hX := hid_of hX
        by_cases hlt : q < n
        · have hd : decide ((q : Int) < (n : Int)) = true := by simp; omega
          go_wp2_with fail
          go_roundw
          case rel => exact ⟨q + 1, by omega, int_val (by
            rw [← hdv, show (X : Int) / 16 = ((X / 16 : Nat) : Int) from rfl]
            exact wrap_small (div_lt hlt64.out)), by simp, by simp⟩
          case measure => simp [intOf]; omega
        · have hd : decide ((q : Int) < (n : Int)) = false := by simp; omega
          obtain rfl : q = n := by omega
          go_wp2_with fail
          go_ret
          exact ⟨ret_int (by
            rw [hX.out]
            exact (Int.natCast_emod X 16).symm), rfl⟩
    · have d2 : decide (16 ≤ l) = true := by simp; omega
      have e : digitOf h l = 0 := by unfold digitOf; rw [if_neg (by omega)]
      rw [e]
      go_enter Tryd.func27, Tryd.ntmps27
      go_wp2_with fail
      go_ret
      exact ⟨rfl, rfl⟩
  · have d1 : decide (l < 0) = true := by simp; omega
    have e : digitOf h l = 0 := by unfold digitOf; rw [if_neg (by omega)]
    rw [e]
    go_enter Tryd.func27, Tryd.ntmps27
    go_wp2_with fail
    go_ret
    exact ⟨rfl, rfl⟩
def stripeN (s : ByteArray) (n : Int) : Int := if 1 ≤ n ∧ n ≤ 64 then (hashN fnv s.data.toList : Int) % n else 0
set_option maxHeartbeats 2000000 in
theorem stripe_any (s : ByteArray) (hs : s.size ≤ 9223372036854775806) (n : Int) (w : World) : Calls Tryd.prog 24 #[.string s, .int .i64 n] w fun e w' => e = .returned (.int .i64 (stripeN s n)) ∧ w' = w := by
  have hh := hid_of (hash_any s hs w)
  have hlt : Hid (hashN fnv s.data.toList < M64) := hash_lt (by decide) _
  have es : Hid (stripeN s n = if 1 ≤ n ∧ n ≤ 64 then (hashN fnv s.data.toList : Int) % n else 0) := rfl
  generalize hashN fnv s.data.toList = X at *
  by_cases h1 : 1 ≤ n
  · have d1 : decide (n < 1) = false := by simp; omega
    by_cases h2 : n ≤ 64
    · have d2 : decide (64 < n) = false := by simp; omega
      rw [if_pos ⟨h1, h2⟩] at es
      have hw : IntKind.u64.wrap n = n := by rw [IntKind.wrap_u64]; omega
      have hn0 : (n == 0) = false := by rw [beq_eq_false_iff_ne]; omega
      go_enter Tryd.func24, Tryd.ntmps24
      go_wp2_with fail
      refine hh.out.mono ?_
      rintro e w' ⟨rfl, rfl⟩
      go_wp2_with fail
      go_ret
      exact ⟨ret_int (by
        rw [es.out]
        have g1 := Int.emod_nonneg (X : Int) (show n ≠ 0 by omega)
        have g2 := Int.emod_lt_of_pos (X : Int) (show 0 < n by omega)
        generalize (X : Int) % n = Y at *
        unfold wrap64
        omega), rfl⟩
    · have d2 : decide (64 < n) = true := by simp; omega
      rw [if_neg (by omega)] at es
      rw [es.out]
      go_enter Tryd.func24, Tryd.ntmps24
      go_wp2_with fail
      go_ret
      exact ⟨rfl, rfl⟩
  · have d1 : decide (n < 1) = true := by simp; omega
    rw [if_neg (by omega)] at es
    rw [es.out]
    go_enter Tryd.func24, Tryd.ntmps24
    go_wp2_with fail
    go_ret
    exact ⟨rfl, rfl⟩
set_option maxHeartbeats 2000000 in
theorem rstripe_any (s : ByteArray) (hs : s.size ≤ 9223372036854775806) (n : Int) (w : World) : Calls Tryd.prog 25 #[.string s, .int .i64 n] w fun e w' => e = .returned (.int .i64 (stripeN s n)) ∧ w' = w := by
  have hh := hid_of (rhash_any s hs w)
  have hlt : Hid (hashN fnv s.data.toList < M64) := hash_lt (by decide) _
  have es : Hid (stripeN s n = if 1 ≤ n ∧ n ≤ 64 then (hashN fnv s.data.toList : Int) % n else 0) := rfl
  generalize hashN fnv s.data.toList = X at *
  by_cases h1 : 1 ≤ n
  · have d1 : decide (n < 1) = false := by simp; omega
    by_cases h2 : n ≤ 64
    · have d2 : decide (64 < n) = false := by simp; omega
      rw [if_pos ⟨h1, h2⟩] at es
      have hw : IntKind.u64.wrap n = n := by rw [IntKind.wrap_u64]; omega
      have hn0 : (n == 0) = false := by rw [beq_eq_false_iff_ne]; omega
      go_enter Tryd.func25, Tryd.ntmps25
      go_wp2_with fail
      refine hh.out.mono ?_
      rintro e w' ⟨rfl, rfl⟩
      go_wp2_with fail
      go_ret
      exact ⟨ret_int (by
        rw [es.out]
        have g1 := Int.emod_nonneg (X : Int) (show n ≠ 0 by omega)
        have g2 := Int.emod_lt_of_pos (X : Int) (show 0 < n by omega)
        generalize (X : Int) % n = Y at *
        unfold wrap64
        omega), rfl⟩
    · have d2 : decide (64 < n) = true := by simp; omega
      rw [if_neg (by omega)] at es
      rw [es.out]
      go_enter Tryd.func25, Tryd.ntmps25
      go_wp2_with fail
      go_ret
      exact ⟨rfl, rfl⟩
  · have d1 : decide (n < 1) = true := by simp; omega
    rw [if_neg (by omega)] at es
    rw [es.out]
    go_enter Tryd.func25, Tryd.ntmps25
    go_wp2_with fail
    go_ret
    exact ⟨rfl, rfl⟩
set_option maxHeartbeats 4000000 in
theorem sums_true (a b : ByteArray) (n : Int) (h : Nat) (l : Int) (ha : a.size ≤ 140737488355328) (hb : b.size ≤ 140737488355328) (hh : h < M64) (w : World) (hR : RoundsAt w) : Calls Tryd.prog 6 #[.agg #[.string a, .string b, .int .i64 n, .int .u64 h, .int .i64 l]] w fun e w' => e = .returned (.bool true) ∧ Below w.heap.size w w' := by
  have c1 := hid_of (fun w => hash_any a (by omega) w)
  have c2 := hid_of (fun w => rhash_any a (by omega) w)
  have c3 := hid_of (fun w => hashOn_any h hh a (by omega) w)
  have c4 := hid_of (fun w => rhashOn_any h hh a (by omega) w)
  have c5 := hid_of (fun w => stripe_any a (by omega) n w)
  have c6 := hid_of (fun w => rstripe_any a (by omega) n w)
  have c7 := hid_of (fun w => digit_any h hh l w)
  have c8 := hid_of (fun w => rdigit_any h hh l w)
  have c9 := hid_of (fun i w => digit_any h hh i w)
  have c10 := hid_of (fun w => hashOn_any (hashN fnv a.data.toList) (hash_lt (by decide) _) b (by omega) w)
  have zab : (a ++ b).size = a.size + b.size := by simp
  have c11 := hid_of (fun w => hash_any (a ++ b) (by omega) w)
  rw [show (a ++ b).data.toList = a.data.toList ++ b.data.toList by simp [ByteArray.data_append], hash_append] at c11
  generalize hashN (hashN fnv a.data.toList) b.data.toList = X2 at *
  generalize hashN fnv a.data.toList = X1 at *
  generalize hashN h a.data.toList = X3 at *
  generalize stripeN a n = X4 at *
  generalize digitOf h l = X5 at *
  clear zab
  replace hR := hid_of hR
  go_enter Tryd.func6, Tryd.ntmps6
  go_wp2_with fail
  go_quiet (fail)
  go_wp2_with fail
  have HB := below_one (Below.refl _ w) (Obj.cells #[.string a, .string b, .int .i64 n, .int .u64 (h : Nat), .int .i64 l] 38) nq
  generalize World.drewN (World.alloc w (Obj.cells #[.string a, .string b, .int .i64 n, .int .u64 (h : Nat), .int .i64 l] 38)) nq = w1 at *
  clear nq
  refine (c1.out _).mono ?_
  rintro e w' ⟨rfl, rfl⟩
  go_wp2_with fail
  refine (c2.out _).mono ?_
  rintro e w' ⟨rfl, rfl⟩
  go_wp2_with fail
  refine (c3.out _).mono ?_
  rintro e w' ⟨rfl, rfl⟩
  go_wp2_with fail
  refine (c4.out _).mono ?_
  rintro e w' ⟨rfl, rfl⟩
  go_wp2_with fail
  refine (c5.out _).mono ?_
  rintro e w' ⟨rfl, rfl⟩
  go_wp2_with fail
  refine (c6.out _).mono ?_
  rintro e w' ⟨rfl, rfl⟩
  go_wp2_with fail
  refine (c7.out _).mono ?_
  rintro e w' ⟨rfl, rfl⟩
  go_wp2_with fail
  refine (c8.out _).mono ?_
  rintro e w' ⟨rfl, rfl⟩
  clear c2 c3 c4 c5 c6 c7 c8
  go_wp2_with fail
  go_loopw [8, 9] (fun x i wr => ∃ q : Nat, q ≤ 16 ∧ x = .int .u64 (h / 16 ^ q : Nat) ∧ i = .int .i64 ((q : Int) - 1) ∧ wr = w') (fun _ i _ => (intOf i + 1).toNat)
  case atStart => exact ⟨16, Nat.le_refl _, by rw [digit_all hh]; rfl, rfl, rfl⟩
  case round =>
    obtain ⟨q, hq, rfl, rfl, rfl⟩ := hrel
    rcases q with _ | q
    · have e0 : h / 16 ^ 0 = h := by simp
      rw [e0]
      clear e0
      go_wp2_with fail
      refine (c1.out _).mono ?_
      rintro e w' ⟨rfl, rfl⟩
      go_wp2_with fail
      refine (c10.out _).mono ?_
      rintro e w' ⟨rfl, rfl⟩
      go_wp2_with fail
      refine (c11.out _).mono ?_
      rintro e w' ⟨rfl, rfl⟩
      have hl := hid_of (live_true w' (hR.out.keep HB))
      go_wp2_with fail
      refine hl.out.mono ?_
      rintro e w3 ⟨rfl, hb3⟩
      go_wp2_with fail
      go_ret
      exact ⟨rfl, HB.trans (hb3.mono HB.size)⟩
    · have hd : decide (0 ≤ ((q + 1 : Nat) : Int) - 1) = true := by simp
      have hdig := hid_of (c9.out (q : Int) wr)
      have e3 : digitOf h (q : Int) = digitN h q := by
        unfold digitOf
        rw [if_pos (by omega)]
        rfl
      rw [e3] at hdig
      have hup := hid_of (digit_up h q)
      have hlt := hid_of (digit_lt h q)
      have hX := hid_of (div_lt (k := 16 ^ q) hh)
      clear c1 c9 c10 c11 e3
      generalize h / 16 ^ (q + 1) = X at *
      generalize hY : h / 16 ^ q = Y at *
      generalize digitN h q = D at *
      replace hY := hid_of hY
      go_wp2_with fail
      refine hdig.out.mono ?_
      rintro e w' ⟨rfl, rfl⟩
      go_wp2_with fail
      go_roundw
      case rel => exact ⟨q, by omega, int_val (by
        rw [hY.out, show (16 : Int) = ((16 : Nat) : Int) from rfl, w_mul, wrap_small (Nat.lt_trans hlt.out (by decide)), w_add, Nat.mod_add_mod, hup.out, Nat.mod_eq_of_lt hX.out]), by simp, by simp⟩
      case measure => simp [intOf]
end Go.Proofs.YtccfpbnkeaoicaaDoor
