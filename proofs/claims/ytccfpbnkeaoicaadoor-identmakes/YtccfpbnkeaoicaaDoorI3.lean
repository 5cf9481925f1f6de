import Derived.Test.YtccfpbnkeaoicaaDoorI2
/-! ident: the document's Mix and Unmix. -/
namespace Go.Proofs.YtccfpbnkeaoicaaDoor
open Go Go.RowKit

set_option maxHeartbeats 1000000 in
theorem unshift30 (n : Nat) (hn : n < M64) (w : World) : Calls Tryd.prog 37 #[.int .u64 n, .int .i64 30] w fun e w' => e = .returned (.int .u64 (uncutN 30 n)) ∧ w' = w := by
  go_enter Tryd.func37, Tryd.ntmps37
  go_wp2
  go_loopw [5, 6] (fun x i wr => ∃ q : Nat, q ≤ 64 ∧ x = .int .u64 (unshiftN 30 n q : Nat) ∧ i = .int .i64 q ∧ wr = w) (fun _ i _ => 64 - (intOf i).toNat)
  case atStart => exact ⟨0, by decide, rfl, rfl, rfl⟩
  case round =>
    obtain ⟨q, hq, rfl, rfl, rfl⟩ := hrel
    by_cases hlt : q < 64
    · have hd : decide ((q : Int) < 64) = true := by simp; omega
      have hx := bx_div2 (k := 30) hn (unshift_lt (k := 30) hn q) rfl
      rw [show ((2 ^ 30 : Nat) : Int) = (1073741824 : Int) from rfl] at hx
      go_wp2
      go_roundw
      case rel => exact ⟨q + 1, by omega, int_val rfl, by simp, by simp⟩
      case measure => simp [intOf]; omega
    · have hd : decide ((q : Int) < 64) = false := by simp; omega
      have e : unshiftN 30 n q = uncutN 30 n := by
        obtain rfl : q = 64 := by omega
        exact unshift_more hn (by decide) 62
      go_wp2
      go_ret
      exact ⟨ret_int (by rw [e]), rfl⟩
set_option maxHeartbeats 1000000 in
theorem unshift27 (n : Nat) (hn : n < M64) (w : World) : Calls Tryd.prog 37 #[.int .u64 n, .int .i64 27] w fun e w' => e = .returned (.int .u64 (uncutN 27 n)) ∧ w' = w := by
  go_enter Tryd.func37, Tryd.ntmps37
  go_wp2
  go_loopw [5, 6] (fun x i wr => ∃ q : Nat, q ≤ 64 ∧ x = .int .u64 (unshiftN 27 n q : Nat) ∧ i = .int .i64 q ∧ wr = w) (fun _ i _ => 64 - (intOf i).toNat)
  case atStart => exact ⟨0, by decide, rfl, rfl, rfl⟩
  case round =>
    obtain ⟨q, hq, rfl, rfl, rfl⟩ := hrel
    by_cases hlt : q < 64
    · have hd : decide ((q : Int) < 64) = true := by simp; omega
      have hx := bx_div2 (k := 27) hn (unshift_lt (k := 27) hn q) rfl
      rw [show ((2 ^ 27 : Nat) : Int) = (134217728 : Int) from rfl] at hx
      go_wp2
      go_roundw
      case rel => exact ⟨q + 1, by omega, int_val rfl, by simp, by simp⟩
      case measure => simp [intOf]; omega
    · have hd : decide ((q : Int) < 64) = false := by simp; omega
      have e : unshiftN 27 n q = uncutN 27 n := by
        obtain rfl : q = 64 := by omega
        exact unshift_more hn (by decide) 62
      go_wp2
      go_ret
      exact ⟨ret_int (by rw [e]), rfl⟩
set_option maxHeartbeats 1000000 in
theorem unshift31 (n : Nat) (hn : n < M64) (w : World) : Calls Tryd.prog 37 #[.int .u64 n, .int .i64 31] w fun e w' => e = .returned (.int .u64 (uncutN 31 n)) ∧ w' = w := by
  go_enter Tryd.func37, Tryd.ntmps37
  go_wp2
  go_loopw [5, 6] (fun x i wr => ∃ q : Nat, q ≤ 64 ∧ x = .int .u64 (unshiftN 31 n q : Nat) ∧ i = .int .i64 q ∧ wr = w) (fun _ i _ => 64 - (intOf i).toNat)
  case atStart => exact ⟨0, by decide, rfl, rfl, rfl⟩
  case round =>
    obtain ⟨q, hq, rfl, rfl, rfl⟩ := hrel
    by_cases hlt : q < 64
    · have hd : decide ((q : Int) < 64) = true := by simp; omega
      have hx := bx_div2 (k := 31) hn (unshift_lt (k := 31) hn q) rfl
      rw [show ((2 ^ 31 : Nat) : Int) = (2147483648 : Int) from rfl] at hx
      go_wp2
      go_roundw
      case rel => exact ⟨q + 1, by omega, int_val rfl, by simp, by simp⟩
      case measure => simp [intOf]; omega
    · have hd : decide ((q : Int) < 64) = false := by simp; omega
      have e : unshiftN 31 n q = uncutN 31 n := by
        obtain rfl : q = 64 := by omega
        exact unshift_more hn (by decide) 62
      go_wp2
      go_ret
      exact ⟨ret_int (by rw [e]), rfl⟩
set_option maxHeartbeats 1000000 in
theorem inverse_any (n : Nat) (w : World) : Calls Tryd.prog 38 #[.int .u64 n] w fun e w' => e = .returned (.int .u64 (invN n 64)) ∧ w' = w := by
  go_enter Tryd.func38, Tryd.ntmps38
  go_wp2
  go_loopw [3, 4] (fun x i wr => ∃ q : Nat, q ≤ 64 ∧ x = .int .u64 (invN n q : Nat) ∧ i = .int .i64 q ∧ wr = w) (fun _ i _ => 64 - (intOf i).toNat)
  case atStart => exact ⟨0, by decide, rfl, rfl, rfl⟩
  case round =>
    obtain ⟨q, hq, rfl, rfl, rfl⟩ := hrel
    by_cases hlt : q < 64
    · have hd : decide ((q : Int) < 64) = true := by simp; omega
      go_wp2
      go_roundw
      case rel => exact ⟨q + 1, by omega, int_val (by
        rw [w_mul, show (2 : Int) = ((2 : Nat) : Int) from rfl, w_sub (Nat.le_of_lt (mod_lt64 _)), w_mul]
        rfl), by simp, by simp⟩
      case measure => simp [intOf]; omega
    · have hd : decide ((q : Int) < 64) = false := by simp; omega
      obtain rfl : q = 64 := by omega
      go_wp2
      go_ret
      exact ⟨rfl, rfl⟩
theorem mix_int (n : Nat) (x1 x2 x3 : Int) (h1 : x1 = IntKind.u64.wrap ((n : Int) + 11400714819323198485)) (h2 : x2 = IntKind.u64.wrap (bits .xor .u64 x1 (x1 / 1073741824) * 13787848793156543929)) (h3 : x3 = IntKind.u64.wrap (bits .xor .u64 x2 (x2 / 134217728) * 10723151780598845931)) :
    bits .xor .u64 x3 (x3 / 2147483648) = ((mixN n : Nat) : Int) := by
  rw [show (11400714819323198485 : Int) = ((mixP : Nat) : Int) from rfl, w_add] at h1
  subst h1
  rw [show (1073741824 : Int) = ((1073741824 : Nat) : Int) from rfl, bx_div (k := 30) (mod_lt64 _) rfl, show (13787848793156543929 : Int) = ((mixA : Nat) : Int) from rfl, w_mul] at h2
  subst h2
  rw [show (134217728 : Int) = ((134217728 : Nat) : Int) from rfl, bx_div (k := 27) (mod_lt64 _) rfl, show (10723151780598845931 : Int) = ((mixB : Nat) : Int) from rfl, w_mul] at h3
  subst h3
  rw [show (2147483648 : Int) = ((2147483648 : Nat) : Int) from rfl, bx_div (k := 31) (mod_lt64 _) rfl]
  rfl
set_option maxHeartbeats 1000000 in
theorem rmix_any (n : Nat) (w : World) : Calls Tryd.prog 17 #[.int .u64 n] w fun e w' => e = .returned (.int .u64 (mixN n)) ∧ w' = w := by
  go_enter Tryd.func17, Tryd.ntmps17
  go_wp2
  go_ret
  exact ⟨ret_int (mix_int n _ _ _ rfl rfl rfl), rfl⟩
set_option maxHeartbeats 1000000 in
theorem runmix_any (n : Nat) (hn : n < M64) (w : World) : Calls Tryd.prog 19 #[.int .u64 n] w fun e w' => e = .returned (.int .u64 (unmixN n)) ∧ w' = w := by
  have iB : (invN 10723151780598845931 64 : Int) = (mixB' : Nat) := by rw [← invB]; rfl
  have iA : (invN 13787848793156543929 64 : Int) = (mixA' : Nat) := by rw [← invA]; rfl
  have ha := hid_of (inverse_any 10723151780598845931 w)
  have hb := hid_of (inverse_any 13787848793156543929 w)
  rw [iB] at ha
  rw [iA] at hb
  clear iA iB
  have h1 := hid_of (unshift31 n hn w)
  have h2 := hid_of (unshift27 (uncutN 31 n * mixB' % M64) (mod_lt64 _) w)
  have h3 := hid_of (unshift30 (uncutN 27 (uncutN 31 n * mixB' % M64) * mixA' % M64) (mod_lt64 _) w)
  go_enter Tryd.func19, Tryd.ntmps19
  go_wp2_with fail
  refine h1.out.mono ?_
  rintro e w' ⟨rfl, rfl⟩
  go_wp2_with fail
  refine ha.out.mono ?_
  rintro e w' ⟨rfl, rfl⟩
  go_wp2_with fail
  rw [w_mul]
  refine h2.out.mono ?_
  rintro e w' ⟨rfl, rfl⟩
  go_wp2_with fail
  refine hb.out.mono ?_
  rintro e w' ⟨rfl, rfl⟩
  go_wp2_with fail
  rw [w_mul]
  refine h3.out.mono ?_
  rintro e w' ⟨rfl, rfl⟩
  go_wp2_with fail
  go_ret
  refine ⟨ret_int ?_, rfl⟩
  rw [show (11400714819323198485 : Int) = ((mixP : Nat) : Int) from rfl, w_sub (by decide)]
  unfold unmixN mixP M64
  omega
end Go.Proofs.YtccfpbnkeaoicaaDoor
