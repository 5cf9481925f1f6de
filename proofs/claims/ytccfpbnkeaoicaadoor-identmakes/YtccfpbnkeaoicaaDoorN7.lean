import Derived.Test.YtccfpbnkeaoicaaDoorIB
import Derived.Test.YtccfpbnkeaoicaaDoorIE
import Derived.Test.YtccfpbnkeaoicaaDoorI3
/-! The document's makers: Of, Next. -/
namespace Go.Proofs.YtccfpbnkeaoicaaDoor
open Go Go.RowKit
/-- The last q digits. -/
def tailL (n q : Nat) : List UInt8 := (hexL n).drop (16 - q)
theorem tail_more {n q : Nat} (hq : q < 16) : tailL n (q + 1) = hexB (digitN n q) :: tailL n q := by
  unfold tailL
  have h := hexL_at n (16 - (q + 1)) (by omega)
  rw [show 16 - q = 16 - (q + 1) + 1 by omega]
  have hl : 16 - (q + 1) < (hexL n).length := by rw [show (hexL n).length = 16 by simp [hexL]]; omega
  rw [List.drop_eq_getElem_cons hl]
  rw [List.getElem?_eq_getElem hl] at h
  rw [Option.some.inj h]
  unfold hexAt
  rw [show 15 - (16 - (q + 1)) = q by omega]
def tailT (n q : Nat) : ByteArray := ⟨(tailL n q).toArray⟩
theorem tailT_size (n q : Nat) : (tailT n q).size ≤ 16 := by
  show (tailL n q).toArray.size ≤ 16
  simp [tailL, hexL]
theorem tailT_more {n q : Nat} (hq : q < 16) : tailT n (q + 1) = ⟨#[hexB (digitN n q)]⟩ ++ tailT n q := by
  refine ByteArray.ext (Array.toList_inj.1 ?_)
  rw [ByteArray.data_append, Array.toList_append]
  show tailL n (q + 1) = [hexB (digitN n q)] ++ tailL n q
  rw [tail_more hq]
  rfl
theorem enc_hex (d : Nat) (hd : d < 16) : Utf8.encode ((hexB d).toNat : Int) = ⟨#[hexB d]⟩ := by
  have h : ∀ d, d < 16 → Utf8.encode ((hexB d).toNat : Int) = ⟨#[hexB d]⟩ := by decide +kernel
  exact h d hd
set_option maxHeartbeats 2000000 in
set_option maxRecDepth 100000 in
theorem of_any (seed c : Nat) (hc : c < M64) (w : World) : Calls Tryd.prog 39 #[.int .u64 seed, .int .u64 c] w fun e w' => e = .returned (.string (madeText seed c)) ∧ w' = w := by
  have h1 := hid_of (rmix_any seed w)
  have h2 := hid_of (rmix_any (mixN seed ^^^ c) w)
  have hx := bx (mix_lt seed) hc
  have htx : Hid (madeText seed c = ⟨#[103]⟩ ++ ⟨(hexL (mixN (mixN seed ^^^ c))).toArray⟩) := rfl
  have hlt : Hid (mixN (mixN seed ^^^ c) < M64) := mix_lt _
  generalize mixN (mixN seed ^^^ c) = X at *
  generalize mixN seed ^^^ c = Y at *
  generalize mixN seed = Z at *
  go_enter Tryd.func39, Tryd.ntmps39
  go_wp2_with fail
  refine h1.out.mono ?_
  rintro e w' ⟨rfl, rfl⟩
  go_wp2_with fail
  refine h2.out.mono ?_
  rintro e w' ⟨rfl, rfl⟩
  clear h1 h2 hx
  go_wp2_with fail
  go_loopw [5, 6, 7] (fun x s i wr => ∃ q : Nat, q ≤ 16 ∧ x = .int .u64 (X / 16 ^ q : Nat) ∧ s = .string (tailT X q) ∧ i = .int .i64 q ∧ wr = w') (fun _ _ i _ => 16 - (intOf i).toNat)
  case atStart => exact ⟨0, by decide, by simp, by simp [tailT, tailL, hexL], rfl, rfl⟩
  case round =>
    obtain ⟨q, hq, rfl, rfl, rfl, rfl⟩ := hrel
    by_cases hl : q < 16
    · have hd : decide ((q : Int) < 16) = true := by simp; omega
      have hdv : X / 16 ^ q / 16 = X / 16 ^ (q + 1) := by rw [Nat.div_div_eq_div_mul, Nat.pow_succ]
      have h64 := hid_of (div_lt (k := 16 ^ q) hlt.out)
      have hdg : X / 16 ^ q % 16 = digitN X q := rfl
      have ht := hid_of (tailT_more (n := X) hl)
      have hd2 : ((digitN X q : Nat) : Int) < 16 := by have := digit_lt X q; omega
      replace hdv := hid_of hdv
      generalize X / 16 ^ q = V at *
      go_wp2_with fail
      all_goals
        have h16 : digitN X q < hexes.size := digit_lt X q
        have hx : (⟨#[48, 49, 50, 51, 52, 53, 54, 55, 56, 57, 97, 98, 99, 100, 101, 102]⟩ : ByteArray)[digitN X q] = hexB (digitN X q) := byteAt_eq h16
        have henc := enc_hex (digitN X q) h16
      · rename_i hbig
        exfalso
        have hs1 := (congrArg (fun b : UInt8 => (Utf8.encode (b.toNat : Int)).size) hx).trans (congrArg ByteArray.size henc)
        have hs2 : (⟨#[hexB (digitN X q)]⟩ : ByteArray).size = 1 := rfl
        have hsz := tailT_size X q
        omega
      · go_roundw
        case rel => exact ⟨q + 1, by omega, int_val (by
          rw [← hdv.out, show (V : Int) / 16 = ((V / 16 : Nat) : Int) from rfl]
          exact wrap_small (div_lt h64.out)), by
            rw [ht.out, ← henc]
            exact congrArg (fun b : UInt8 => Value.string (Utf8.encode (b.toNat : Int) ++ tailT X q)) hx, by simp, by simp⟩
        case measure => simp [intOf]; omega
    · have hd : decide ((q : Int) < 16) = false := by simp; omega
      obtain rfl : q = 16 := by omega
      have e : Hid (⟨(hexL X).toArray⟩ = tailT X 16) := by unfold Hid tailT tailL; simp
      have hsz := tailT_size X 16
      rw [e.out] at htx
      clear e
      generalize tailT X 16 = S at *
      go_wp2_with fail
      go_ret
      exact ⟨by rw [htx.out]; rfl, rfl⟩
end Go.Proofs.YtccfpbnkeaoicaaDoor
