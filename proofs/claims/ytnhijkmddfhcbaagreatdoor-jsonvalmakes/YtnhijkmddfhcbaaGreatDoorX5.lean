import Derived.Test.YtnhijkmddfhcbaaGreatDoorX4
namespace Go.Proofs.YtnhijkmddfhcbaaGreatDoor
open Go Go.RowKit Go.Maps

theorem hexR_ok (T : ByteArray) : ∀ k x n v m, n ≤ T.size → hexR T k x n = .ok v m → m = n + k ∧ m ≤ T.size ∧ v < 16 ^ k * (x + 1)
  | 0, x, n, v, m, hn, h => by
    rw [hexR] at h; cases h; simp; omega
  | k + 1, x, n, v, m, hn, h => by
    rw [hexR] at h
    split at h
    · split at h
      · next d hd =>
        have hl := hexV_lt hd
        obtain ⟨h1, h2, h3⟩ := hexR_ok T k _ _ _ _ (by omega) h
        refine ⟨by omega, h2, ?_⟩
        have : 16 ^ k * (16 * x + d + 1) ≤ 16 ^ k * (16 * (x + 1)) := Nat.mul_le_mul_left _ (by omega)
        rw [Nat.pow_succ, Nat.mul_assoc]
        omega
      · cases h
    · cases h
theorem codedR_ok {T : ByteArray} {st n c m : Nat} (hn : n ≤ T.size) (h : codedR T st n = .ok c m) : n + 4 ≤ m ∧ m ≤ T.size ∧ c ≤ 1114111 := by
  unfold codedR at h
  cases hh : hexR T 4 0 n with
  | bad e p => rw [hh] at h; cases h
  | ok v m1 =>
    rw [hh, halfR] at h
    obtain ⟨h1, h2, h3⟩ := hexR_ok T 4 0 n v m1 hn hh
    have hv : v < 65536 := by simpa using h3
    split at h
    · cases h; omega
    · split at h
      · cases h
      · unfold pairR at h
        split at h
        · split at h
          · split at h
            · split at h
              · cases hl : hexR T 4 0 (m1 + 2) with
                | bad e p => rw [hl] at h; cases h
                | ok l m2 =>
                  rw [hl, lowR] at h
                  obtain ⟨g1, g2, g3⟩ := hexR_ok T 4 0 (m1 + 2) l m2 (by omega) hl
                  have hl' : l < 65536 := by simpa using g3
                  by_cases hc : l < 56320 ∨ 57344 ≤ l
                  · rw [if_pos hc] at h; cases h
                  · rw [if_neg hc] at h
                    simp only [Res.ok.injEq] at h
                    obtain ⟨h4, h5⟩ := h
                    have h6 : pairV v l ≤ 1114111 := by unfold pairV; omega
                    omega
              · cases h
            · cases h
          · cases h
        · cases h
theorem escR_ok {T : ByteArray} {n c m : Nat} (h : escR T n = .ok c m) : n + 2 ≤ m ∧ m ≤ T.size ∧ c ≤ 1114111 ∧ (c < 128 ∨ n + 6 ≤ m) := by
  unfold escR at h
  split at h
  · split at h
    · obtain ⟨h1, h2, h3⟩ := codedR_ok (by omega) h
      omega
    · cases hu : unescN (byteAt T (n + 1)).toNat with
      | none => rw [hu] at h; cases h
      | some d =>
        rw [hu] at h; cases h
        have := unescN_lt hu
        omega
  · cases h
theorem plTo_ok (T : ByteArray) : ∀ f n m, plTo T f n = .ok () m → n ≤ m ∧ m < T.size ∧ (byteAt T m = 34 ∨ byteAt T m = 92)
  | 0, n, m, h => by rw [plTo] at h; cases h
  | f + 1, n, m, h => by
    rw [plTo] at h
    split at h
    · split at h
      · next hq =>
        cases h
        refine ⟨Nat.le_refl _, by assumption, ?_⟩
        have hs := (dec_small T n (by omega)).1
        rcases hq with e | e
        · exact Or.inl (nat_of_u8 (hs.symm.trans e) (by decide))
        · exact Or.inr (nat_of_u8 (hs.symm.trans e) (by decide))
      · split at h
        · cases h
        · have key : plTo T f (n + (Utf8.decode T n).2) = .ok () m → n ≤ m ∧ m < T.size ∧ (byteAt T m = 34 ∨ byteAt T m = 92) := fun h => by
            have := plTo_ok T f _ m h; exact ⟨by omega, this.2⟩
          split at h
          · split at h
            · split at h
              · cases h
              · exact key h
            · cases h
          · exact key h
    · cases h
theorem plR_ok {T : ByteArray} {n m : Nat} (h : plR T n = .ok () m) : n ≤ m ∧ m < T.size ∧ (byteAt T m = 34 ∨ byteAt T m = 92) := plTo_ok T _ n m h

def bytesOf (T : ByteArray) (n m : Nat) : List UInt8 := (T.extract n m).data.toList
def encB (c : Nat) : List UInt8 := Lib.encodeRune (c : Int)
def txTo (T : ByteArray) : Nat → List UInt8 → Nat → Res ByteArray
  | 0, _, _ => .bad 3 T.size
  | f + 1, acc, n =>
    match plR T n with
    | .bad e p => .bad e p
    | .ok _ m =>
      if byteAt T m = 34 then .ok ⟨(acc ++ bytesOf T n m).toArray⟩ (m + 1)
      else match escR T m with
        | .bad e p => .bad e p
        | .ok c m' => txTo T f (acc ++ bytesOf T n m ++ encB c) m'
theorem txTo_more (T : ByteArray) : ∀ f g acc n, T.size + 1 - n ≤ f → T.size + 1 - n ≤ g → n ≤ T.size → txTo T f acc n = txTo T g acc n
  | 0, g, acc, n, hf, hg, hn => by omega
  | f + 1, 0, acc, n, hf, hg, hn => by omega
  | f + 1, g + 1, acc, n, hf, hg, hn => by
    rw [txTo, txTo]
    cases hp : plR T n with
    | bad e p => rfl
    | ok u m =>
      have h1 := plR_ok hp
      simp only
      split
      · rfl
      · cases he : escR T m with
        | bad e p => rfl
        | ok c m' =>
          have h2 := escR_ok he
          simp only
          exact txTo_more T f g _ m' (by omega) (by omega) (by omega)
def txR (T : ByteArray) (acc : List UInt8) (n : Nat) : Res ByteArray := txTo T (T.size + 1 - n) acc n
def textR (T : ByteArray) (n : Nat) : Res ByteArray := txR T [] (n + 1)
theorem txR_step (T : ByteArray) (acc : List UInt8) (n : Nat) (hn : n ≤ T.size) : txR T acc n =
    match plR T n with
    | .bad e p => .bad e p
    | .ok _ m =>
      if byteAt T m = 34 then .ok ⟨(acc ++ bytesOf T n m).toArray⟩ (m + 1)
      else match escR T m with
        | .bad e p => .bad e p
        | .ok c m' => txR T (acc ++ bytesOf T n m ++ encB c) m' := by
  unfold txR
  obtain ⟨f, hf⟩ : ∃ f, T.size + 1 - n = f + 1 := ⟨T.size - n, by omega⟩
  rw [hf, txTo]
  cases hp : plR T n with
  | bad e p => rfl
  | ok u m =>
    have h1 := plR_ok hp
    simp only
    split
    · rfl
    · cases he : escR T m with
      | bad e p => rfl
      | ok c m' =>
        have h2 := escR_ok he
        simp only
        exact txTo_more T _ _ _ m' (by omega) (by omega) (by omega)
end Go.Proofs.YtnhijkmddfhcbaaGreatDoor
