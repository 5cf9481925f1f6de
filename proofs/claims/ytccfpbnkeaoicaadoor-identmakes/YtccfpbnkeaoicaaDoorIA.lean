import Derived.Test.YtccfpbnkeaoicaaDoorI9
/-! ident: what was made is known again. -/
namespace Go.Proofs.YtccfpbnkeaoicaaDoor
open Go Go.RowKit
def hexT (n : Nat) : ByteArray := ⟨(hexL n).toArray⟩
theorem hexT_size (n : Nat) : (hexT n).size = 16 := by
  show (hexL n).toArray.size = 16
  simp [hexL]
theorem hexT_at (n q : Nat) (hq : q < 16) : byteAt (hexT n) q = hexAt n q := by
  have h1 := toList_at (s := hexT n) (j := q) (by rw [hexT_size]; exact hq)
  have h2 : (hexT n).data.toList = hexL n := rfl
  rw [h2, hexL_at n q hq] at h1
  exact (Option.some.inj h1).symm
theorem hexV_B (d : Nat) (hd : d < 16) : hexV (hexB d) = d := by
  have h : ∀ d, d < 16 → hexV (hexB d) = d := by decide +kernel
  exact h d hd
theorem hexOk_B (d : Nat) (hd : d < 16) : hexOk (hexB d) = true := by
  have h : ∀ d, d < 16 → hexOk (hexB d) = true := by decide +kernel
  exact h d hd
theorem idByte_B (d : Nat) (hd : d < 16) : idByte (hexB d) = true := by
  have h : ∀ d, d < 16 → idByte (hexB d) = true := by decide +kernel
  exact h d hd
theorem hexT_are (n : Nat) : areHex (hexT n) = true := by
  unfold areHex
  rw [hexT_size, all_true (fun j hj => by
    rw [hexT_size] at hj
    rw [hexT_at n j hj]
    exact hexOk_B _ (digit_lt _ _))]
  rfl
theorem hexT_read {n : Nat} (hn : n < M64) : ∀ q, q ≤ 16 → readTo (hexT n) q = n / 16 ^ (16 - q)
  | 0, _ => by
    rw [show readTo (hexT n) 0 = 0 from rfl]
    exact (digit_all hn).symm
  | q + 1, hq => by
    rw [readTo_succ, hexT_read hn q (by omega), hexT_at n q (by omega)]
    unfold hexAt
    rw [hexV_B _ (digit_lt _ _), Nat.mul_comm, show 16 - q = (15 - q) + 1 by omega, digit_up, show 16 - (q + 1) = 15 - q by omega]
    exact Nat.mod_eq_of_lt (div_lt hn)
theorem hexT_back {n : Nat} (hn : n < M64) : readN (hexT n) = n := by
  unfold readN
  rw [if_pos (hexT_are n), hexT_read hn 16 (Nat.le_refl _)]
  simp
theorem made_data (seed c : Nat) : (madeText seed c).data.toList = 103 :: hexL (mixN (mixN seed ^^^ c)) := by
  unfold madeText
  simp [ByteArray.data_append]
theorem made_size (seed c : Nat) : (madeText seed c).size = 17 := by
  have : (madeText seed c).data.toList.length = 17 := by rw [made_data]; simp [hexL]
  rw [Array.length_toList] at this
  exact this
theorem made_zero (seed c : Nat) : byteAt (madeText seed c) 0 = 103 := by
  have h1 := toList_at (s := madeText seed c) (j := 0) (by rw [made_size]; decide)
  rw [made_data] at h1
  exact (Option.some.inj h1).symm
theorem made_beg (seed c : Nat) : begG (madeText seed c) = true := by
  unfold begG
  rw [made_size, made_zero]
  rfl
theorem made_tail (seed c : Nat) : tailG (madeText seed c) = hexT (mixN (mixN seed ^^^ c)) := by
  unfold tailG
  rw [if_pos (made_beg seed c)]
  refine ByteArray.ext (Array.toList_inj.1 ?_)
  rw [ByteArray.data_extract, Array.toList_extract, made_data, made_size]
  show List.extract _ _ _ = hexL _
  rw [List.extract_eq_take_drop]
  exact List.take_of_length_le (by simp [hexL])
theorem xor_back (a c : Nat) : unmixN (mixN (a ^^^ c)) = a ^^^ c → unmixN (mixN (a ^^^ c)) ^^^ a = c := by
  intro h
  rw [h, Nat.xor_comm a c, Nat.xor_assoc, Nat.xor_self, Nat.xor_zero]
theorem made_counter {seed c : Nat} (hc : c < M64) : counterN (madeText seed c) seed = c := by
  unfold counterN
  rw [made_tail, hexT_back (mix_lt _)]
  exact xor_back _ _ (unmix_mix (xor_lt (mix_lt seed) hc))
theorem made_ok {seed c : Nat} (hc : c < last64) : madeOk (madeText seed c) seed = true := by
  have h64 : c < M64 := Nat.lt_trans hc (by decide)
  unfold madeOk
  rw [made_beg, made_tail, hexT_are, made_counter h64]
  simp
  omega
theorem made_back {seed c : Nat} (hc : c < last64) : madeN (madeText seed c) seed = c := by
  unfold madeN
  rw [if_pos (made_ok hc)]
  exact made_counter (Nat.lt_trans hc (by decide))
theorem made_id (seed c : Nat) : idOk (madeText seed c) = true := by
  unfold idOk
  rw [made_size, made_data]
  have h : (hexL (mixN (mixN seed ^^^ c))).all idByte = true := by
    rw [List.all_eq_true]
    intro x hx
    unfold hexL at hx
    obtain ⟨i, _, rfl⟩ := List.mem_map.1 hx
    exact idByte_B _ (digit_lt _ _)
  rw [List.all_cons, h]
  rfl
theorem made_same {seed a c : Nat} (ha : a < M64) (hc : c < M64) (h : madeText seed a = madeText seed c) : a = c := by
  rw [← made_counter (seed := seed) ha, ← made_counter (seed := seed) hc, h]
theorem num_any (e : Int) (w : World) : Calls Tryd.prog 11 #[.int .i64 e] w fun r w' => r = .returned (.int .i64 e) ∧ w' = w := by
  go_enter Tryd.func11, Tryd.ntmps11
  go_wp2
  go_ret
  exact ⟨rfl, rfl⟩
end Go.Proofs.YtccfpbnkeaoicaaDoor
