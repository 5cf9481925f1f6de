import Derived.Test.YtccfpbnkeaoicaaDoorI6
import Derived.Deep.OwnRows
import Derived.Lib.ConvBytes
/-! ident: written, read. -/
namespace Go.Proofs.YtccfpbnkeaoicaaDoor
open Go Go.RowKit
def hexes : ByteArray := ⟨#[48, 49, 50, 51, 52, 53, 54, 55, 56, 57, 97, 98, 99, 100, 101, 102]⟩
def hexB (d : Nat) : UInt8 := byteAt hexes d
def hexAt (n i : Nat) : UInt8 := hexB (digitN n (15 - i))
/-- The digits, the highest first. -/
def hexL (n : Nat) : List UInt8 := (List.range 16).map (hexAt n)
def hexRow (n q i : Nat) : Value := if i < q then .int .u8 (hexAt n i).toNat else .int .u8 0
theorem digitOf_nat {n q : Nat} (hq : q < 16) : digitOf n (15 - (q : Int)) = digitN n (15 - q) := by
  unfold digitOf
  rw [if_pos (by omega), show (15 - (q : Int)).toNat = 15 - q by omega]
theorem hexL_at (n j : Nat) (hj : j < 16) : (hexL n)[j]? = some (hexAt n j) := by
  unfold hexL
  rw [List.getElem?_map, List.getElem?_range hj]
  rfl
theorem add_off (b o j : Nat) : (⟨b, o, none⟩ : Addr).add j = ⟨b, o + j, none⟩ := by unfold Addr.add; split <;> simp_all
theorem conv_hex {n b : Nat} {w : World} (h : w.rowIs b 73 16 (hexRow n 16)) : (convert 74 9 (.slice (some ⟨b, 0, none⟩) 16 16)).run Tryd.prog w = .ok (.string ⟨(hexL n).toArray⟩) w := by
  have hl : (hexL n).length = 16 := by simp [hexL]
  have := run_convert_bytes_back w 74 9 5 ⟨b, 0, none⟩ 16 (hexL n) Tryd.underlying74 Tryd.underlying5 Tryd.underlying9 (fun j hj => by
    have hj' := hj
    rw [hl] at hj'
    rw [add_off, Nat.zero_add, h.cell hj']
    unfold hexRow
    rw [if_pos hj']
    simp [hexL])
  rw [hl] at this
  exact this
set_option maxHeartbeats 2000000 in
theorem written_any (n : Nat) (hn : n < M64) (w : World) : Calls Tryd.prog 33 #[.int .u64 n] w fun e w' => e = .returned (.string ⟨(hexL n).toArray⟩) ∧ Below w.heap.size w w' := by
  go_enter Tryd.func33, Tryd.ntmps33
  go_wp2_with fail
  go_loopw [5] (fun i wr => ∃ q : Nat, q ≤ 16 ∧ i = .int .i64 q ∧ Below w.heap.size w wr ∧ Hid (wr.rowIs w.heap.size 73 16 (hexRow n q))) (fun i _ => 16 - (intOf i).toNat)
  case atStart =>
    refine ⟨0, by decide, rfl, (Below.refl _ w).alloc (Nat.le_refl _) _, ?_⟩
    refine World.rowIs_alloc w _ _ _ fun i hi => ?_
    have hi' : i < 16 := hi
    have : hexRow n 0 i = .int .u8 0 := by unfold hexRow; rw [if_neg (by omega)]
    rw [this]
    clear this hi
    iterate 16 (rcases i with _ | i; · rfl)
    omega
  case round =>
    obtain ⟨q, hq, rfl, HB, hO⟩ := hrel
    by_cases hlt : q < 16
    · have hd : decide ((q : Int) < 16) = true := by simp; omega
      have hdig := hid_of (digit_any n hn (15 - q) wr)
      have h16 : digitN n (15 - q) < hexes.size := digit_lt n (15 - q)
      have hx : (⟨#[48, 49, 50, 51, 52, 53, 54, 55, 56, 57, 97, 98, 99, 100, 101, 102]⟩ : ByteArray)[digitN n (15 - q)] = hexAt n q := byteAt_eq h16
      have hfr := hO.out.frozen q
      have hc := hO.out.cell hlt
      have hd2 : ((digitN n (15 - q) : Nat) : Int) < 16 := by have := digit_lt n (15 - q); omega
      go_wp2_with fail
      refine hdig.out.mono ?_
      rw [digitOf_nat hlt]
      rintro e w' ⟨rfl, rfl⟩
      clear hdig
      go_wp2_with fail
      go_roundw
      case rel =>
        refine ⟨q + 1, by omega, by simp, HB.setCell (Nat.le_refl _) _, ?_⟩
        refine (hO.out.set q _).congr fun i hi => ?_
        unfold hexRow
        by_cases e : i = q
        · subst e
          simp
          exact congrArg (fun b : UInt8 => (b.toNat : Int)) hx
        · simp [e]; split <;> split <;> first | rfl | omega
      case measure => simp [intOf]; omega
    · have hd : decide ((q : Int) < 16) = false := by simp; omega
      obtain rfl : q = 16 := by omega
      have hcv := conv_hex hO.out
      go_wp2_with fail
      go_ret
      exact ⟨rfl, HB⟩
end Go.Proofs.YtccfpbnkeaoicaaDoor
