import Derived.Test.YtlkomknjgfjnlaaGreatDoorPB
import Derived.Test.YtlkomknjgfjnlaaGreatDoorZ1
import Derived.Lib.QuoteBits
/-! The document's reader of texts: a number. -/
namespace Go.Proofs.YtlkomknjgfjnlaaGreatDoor.Tree
open Go Go.RowKit

def dv (acc : Nat) (l : List UInt8) : Nat := l.foldl (fun a b => a * 10 + (b.toNat - 48)) acc
theorem dv_ge : (l : List UInt8) → (acc : Nat) → acc ≤ dv acc l
  | [], acc => Nat.le_refl _
  | b :: l, acc => by
    have := dv_ge l (acc * 10 + (b.toNat - 48))
    show acc ≤ dv (acc * 10 + (b.toNat - 48)) l
    omega
theorem pu_val : (l : List UInt8) → (acc : Nat) → (∀ b ∈ l, 48 ≤ b.toNat ∧ b.toNat ≤ 57) → acc ≤ 18446744073709551615 → Lib.parseUintM 18446744073709551615 acc l = if dv acc l ≤ 18446744073709551615 then .ok (dv acc l) else .range
  | [], acc, _, ha => by rw [Lib.parseUintM]; show _ = if acc ≤ _ then _ else _; rw [if_pos ha]; rfl
  | b :: l, acc, hd, ha => by
    have h1 := dv_ge l (acc * 10 + (b.toNat - 48))
    have e : dv acc (b :: l) = dv (acc * 10 + (b.toNat - 48)) l := rfl
    rw [Lib.parseUintM, if_pos (hd b (.head _)), e]
    split
    · rw [if_neg (by omega)]
    · split
      · rw [if_neg (by omega)]
      · exact pu_val l _ (fun c hc => hd c (.tail _ hc)) (by omega)
theorem dig_iff (b : UInt8) : digit b = true ↔ 48 ≤ b.toNat ∧ b.toNat ≤ 57 := by
  unfold digit
  rw [Bool.and_eq_true, decide_eq_true_eq, decide_eq_true_eq, UInt8.le_iff_toNat_le, UInt8.le_iff_toNat_le]
  exact Iff.rfl
/-- What a number is worth. -/
def numZ (T : ByteArray) (n m : Nat) (mi : Bool) (V : Nat) : Res Int :=
  if (mi = false ∧ 9223372036854775808 ≤ V) ∨ 9223372036854775808 < V then .bad 15 n
  else if m < T.size ∧ frac (byteAt T m) = true then .bad 14 m else .ok (if mi = true then -(V : Int) else (V : Int)) m
theorem bytes_one {T : ByteArray} {n : Nat} (h : n < T.size) : bytesOf T n (n + 1) = [byteAt T n] := by
  have ht : tl T n = byteAt T n :: tl T (n + 1) := lit_get h
  exact bytesOf_tl (l := [byteAt T n]) (r := tl T (n + 1)) ht
theorem bytes_snoc {T : ByteArray} {k m : Nat} (hk : k ≤ m) (hm : m < T.size) : bytesOf T k (m + 1) = bytesOf T k m ++ [byteAt T m] := by
  rw [bytesOf_join T hk (Nat.le_succ m), bytes_one hm]
theorem bytes_cons {T : ByteArray} {k m : Nat} (hk : k < m) (hm : m ≤ T.size) : bytesOf T k m = byteAt T k :: bytesOf T (k + 1) m := by
  rw [bytesOf_join T (Nat.le_succ k) hk, bytes_one (by omega)]
  rfl
theorem bytes_none (T : ByteArray) (k : Nat) : bytesOf T k k = [] := by unfold bytesOf; rw [ByteArray.data_extract]; simp
theorem dv_snoc (l : List UInt8) (b : UInt8) : dv 0 (l ++ [b]) = dv 0 l * 10 + (b.toNat - 48) := by unfold dv; rw [List.foldl_append]; rfl
theorem bytes_digits {T : ByteArray} {k : Nat} : (m : Nat) → k ≤ m → m ≤ T.size → (∀ i, k ≤ i → i < m → digit (byteAt T i) = true) → ∀ b ∈ bytesOf T k m, 48 ≤ b.toNat ∧ b.toNat ≤ 57
  | 0, hk, hm, h => by
    obtain rfl : k = 0 := by omega
    rw [bytes_none]
    intro b hb
    cases hb
  | m + 1, hk, hm, h => by
    by_cases e : k = m + 1
    · subst e
      rw [bytes_none]
      intro b hb
      cases hb
    · rw [bytes_snoc (by omega) (by omega)]
      intro b hb
      rcases List.mem_append.1 hb with hb | hb
      · exact bytes_digits m (by omega) (by omega) (fun i h1 h2 => h i h1 (by omega)) b hb
      · rw [List.mem_singleton.1 hb]
        exact (dig_iff _).1 (h m (by omega) (by omega))
theorem num_fin {T : ByteArray} {n k m : Nat} {mi : Bool} (hk : k < m) (hm : m ≤ T.size) (hd : ∀ i, k ≤ i → i < m → digit (byteAt T i) = true) (hmi : (mi = true ∧ byteAt T n = 45 ∧ k = n + 1) ∨ (mi = false ∧ k = n)) :
    numFin T n m (Lib.parseIntB 64 (T.extract n m).data.toList) = numZ T n m mi (dv 0 (bytesOf T k m)) := by
  have hds := bytes_digits m (by omega) hm hd
  have hv := pu_val (bytesOf T k m) 0 hds (by omega)
  have hc := bytes_cons hk hm
  have hk0 := (dig_iff _).1 (hd k (Nat.le_refl _) hk)
  have hne : bytesOf T k m ≠ [] := by rw [hc]; simp
  have hpu : Lib.parseUintB 64 (bytesOf T k m) = if dv 0 (bytesOf T k m) ≤ 18446744073709551615 then .ok (dv 0 (bytesOf T k m)) else .range := by
    unfold Lib.parseUintB
    rw [if_neg hne]
    exact hv
  show numFin T n m (Lib.parseIntB 64 (bytesOf T n m)) = _
  generalize hV : dv 0 (bytesOf T k m) = V at *
  rcases hmi with ⟨rfl, h45, rfl⟩ | ⟨rfl, rfl⟩
  · rw [bytes_cons (by omega) hm, h45]
    have hpi : Lib.parseIntB 64 (45 :: bytesOf T (n + 1) m) = if V ≤ 9223372036854775808 then .ok (-(V : Int)) else .range := by
      unfold Lib.parseIntB
      simp only
      rw [if_pos (.inr (by rfl)), hpu]
      by_cases h1 : V ≤ 18446744073709551615
      · rw [if_pos h1]
        simp only
        rw [if_neg (by simp)]
        by_cases h2 : V ≤ 9223372036854775808
        · rw [if_neg (by intro h; have := h.2; omega), if_pos h2]
          rfl
        · rw [if_pos ⟨by rfl, by omega⟩, if_neg h2]
      · rw [if_neg h1, if_neg (by omega)]
    rw [hpi]
    unfold numZ
    by_cases h2 : V ≤ 9223372036854775808
    · rw [if_pos h2, if_neg (by simp; omega)]
      rfl
    · rw [if_neg h2, if_pos (.inr (by omega))]
      rfl
  · have hn43 : ¬ ((byteAt T k).toNat = 43 ∨ (byteAt T k).toNat = 45) := by omega
    have hpi : Lib.parseIntB 64 (bytesOf T k m) = if V < 9223372036854775808 then .ok (V : Int) else .range := by
      rw [hc] at hpu ⊢
      unfold Lib.parseIntB
      simp only
      rw [if_neg hn43, hpu]
      by_cases h1 : V ≤ 18446744073709551615
      · rw [if_pos h1]
        simp only
        by_cases h2 : V < 9223372036854775808
        · rw [if_neg (by intro h; have := h.2; omega), if_neg (by intro h; have := h.1; omega), if_pos h2, if_neg (by omega)]
        · rw [if_pos ⟨by omega, by omega⟩, if_neg h2]
      · rw [if_neg h1, if_neg (by omega)]
    rw [hpi]
    unfold numZ
    by_cases h2 : V < 9223372036854775808
    · rw [if_pos h2, if_neg (by simp; omega)]
      rfl
    · rw [if_neg h2, if_pos (.inl ⟨rfl, by omega⟩)]
      rfl
end Go.Proofs.YtlkomknjgfjnlaaGreatDoor.Tree
