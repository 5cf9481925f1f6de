import Derived.Test.YteojoaceecncnaaCA
import Derived.Deep.RegionHeld3
/-! cursor: the place of a key; two places. -/
namespace Go.Proofs.Yteojoaceecncnaa
open Go Go.RowKit

theorem rank_wrap (h n : Nat) (hn : n < 16) : IntKind.u64.wrap (IntKind.u64.wrap ((rankTo h n : Int) * 16) + IntKind.u64.wrap ((digitOf h n : Nat) : Int)) = (rankTo h (n + 1) : Int) := by
  have h1 := rankTo_lt h n
  have h2 := rankTo_lt h (n + 1)
  have h3 : (16 : Nat) ^ (n + 1) ≤ 16 ^ 16 := Nat.pow_le_pow_right (by decide) (by omega)
  have e : digitOf h n = digitN h n := by
    unfold digitOf
    rw [if_pos (by omega)]
    rfl
  have h4 := digit_lt h n
  rw [e, show ((rankTo h n : Int) * 16) = ((rankTo h n * 16 : Nat) : Int) by simp]
  have e2 : rankTo h (n + 1) = rankTo h n * 16 + digitN h n := rfl
  rw [e2] at h2 ⊢
  rw [IntKind.wrap_u64, IntKind.wrap_u64, IntKind.wrap_u64]
  have : (16 : Nat) ^ 16 = 18446744073709551616 := by decide
  omega
set_option maxHeartbeats 2000000 in
theorem placeOf_any (s : ByteArray) (hs : s.size ≤ 9223372036854775806) (w : World) : Calls Try.prog 27 #[.string s] w fun e w' => e = .returned (.agg #[.int .u64 (rankK s), .string s]) ∧ Below w.heap.size w w' := by
  have hh := fun W => hid_of (hash_any s hs W)
  have hl : sumK s < M64 := hash_lt (by decide) _
  have hd := fun (n : Nat) W => hid_of (digit_any (sumK s) hl n W)
  go_enter Try.func27, Try.ntmps27
  go_wp2_with fail
  refine (hh _).out.mono ?_
  rintro e X1 ⟨rfl, hX⟩
  have hX := hX.symm; subst hX
  rw [show hashN fnv s.data.toList = sumK s from rfl]
  clear hh
  go_wp2_with fail
  go_loopw [4, 8] (fun r i wr => ∃ q : Nat, q ≤ 16 ∧ r = .int .u64 (rankTo (sumK s) q : Nat) ∧ i = .int .i64 q ∧ wr = w.alloc (.cells #[.int .u64 0, .string ⟨#[]⟩] 60)) (fun _ i _ => 16 - (intOf i).toNat)
  case atStart => exact ⟨0, Nat.zero_le _, rfl, rfl, rfl⟩
  case round =>
    obtain ⟨q, hq, rfl, rfl, rfl⟩ := hrel
    by_cases hlt : q < 16
    · have hd1 : decide ((q : Int) < 16) = true := by simp; omega
      go_wp2_with fail
      refine (hd q _).out.mono ?_
      rintro e X1 ⟨rfl, hX⟩
      have hX := hX.symm; subst hX
      go_wp2_with fail
      go_roundw
      case rel => exact ⟨q + 1, by omega, int_val (rank_wrap _ _ hlt), by simp, trivial⟩
      case measure => simp [intOf]; omega
    · obtain rfl : q = 16 := by omega
      go_wp2_with fail
      go_returns
      exact ⟨rfl, (Below.refl _ w).alloc (Nat.le_refl _) _⟩
/-- Two places: by their ranks, then by their keys. -/
def cmpP (r1 : Nat) (k1 : ByteArray) (r2 : Nat) (k2 : ByteArray) : Int := if (r1 : Int) = r2 then cmpS k1 k2 else cmpI r1 r2
theorem cmpI_ne {x y : Int} (h : ¬ x = y) : (cmpI x y != 0) = true := by
  rcases Int.lt_trichotomy x y with g | g | g
  · rw [cmpI_lt g]; rfl
  · exact absurd g h
  · rw [cmpI_gt g]; rfl
set_option maxHeartbeats 2000000 in
theorem pcompare_any (r1 : Nat) (k1 : ByteArray) (r2 : Nat) (k2 : ByteArray) (w : World) : Calls Try.prog 23 #[.agg #[.int .u64 r1, .string k1], .agg #[.int .u64 r2, .string k2]] w fun e w' => e = .returned (.int .i64 (cmpP r1 k1 r2 k2)) ∧ Below w.heap.size w w' := by
  have hu := fun W => hid_of (cmpU r1 r2 W)
  have hs := fun W => hid_of (cmpStr k1 k2 W)
  have HB := fun a b => hid_of (((Below.refl _ w).alloc (Nat.le_refl _) (.cells #[.int .u64 r1, .string k1] a)).alloc (by simp) (.cells #[.int .u64 r2, .string k2] b))
  by_cases h : (r1 : Int) = r2
  · have e1 : cmpI r1 r2 = 0 := by rw [h]; exact cmpI_eq _
    have e2 : cmpP r1 k1 r2 k2 = cmpS k1 k2 := by unfold cmpP; rw [if_pos h]
    rw [e2]
    simp only [e1] at hu
    clear h e1 e2
    go_enter Try.func23, Try.ntmps23
    go_wp2_with fail
    refine (hu _).out.mono ?_
    rintro e X1 ⟨rfl, hX⟩
    have hX := hX.symm; subst hX
    go_wp2_with fail
    refine (hs _).out.mono ?_
    rintro e X1 ⟨rfl, hX⟩
    have hX := hX.symm; subst hX
    go_wp2_with fail
    go_ret
    exact ⟨rfl, (HB _ _).out⟩
  · have e1 := cmpI_ne h
    have e2 : cmpP r1 k1 r2 k2 = cmpI r1 r2 := by unfold cmpP; rw [if_neg h]
    rw [e2]
    clear h e2
    generalize cmpI r1 r2 = z at hu e1 ⊢
    go_enter Try.func23, Try.ntmps23
    go_wp2_with fail
    refine (hu _).out.mono ?_
    rintro e X1 ⟨rfl, hX⟩
    have hX := hX.symm; subst hX
    go_wp2_with fail
    go_ret
    exact ⟨rfl, (HB _ _).out⟩
end Go.Proofs.Yteojoaceecncnaa
