import Derived.Test.YtnccaidlcaeeaaaGreatDoorY1
import Derived.Lib.ValidLaws
import Derived.Lib.RuneBytes
import Derived.Lib.ItoaNum
namespace Go.Proofs.YtnccaidlcaeeaaaGreatDoor
open Go
/-! What is written is read as itself: texts and numbers. -/

/-- What lies from n on. -/
def tl (T : ByteArray) (n : Nat) : List UInt8 := T.data.toList.drop n
theorem tl_len (T : ByteArray) (n : Nat) : (tl T n).length = T.size - n := by
  unfold tl; rw [List.length_drop, Array.length_toList]; rfl
theorem tl_cons {T : ByteArray} {n : Nat} {a : UInt8} {t : List UInt8} (h : tl T n = a :: t) : n < T.size ∧ byteAt T n = a ∧ tl T (n + 1) = t := by
  have h1 := tl_len T n
  rw [h, List.length_cons] at h1
  refine ⟨by omega, ?_, ?_⟩
  · rw [byte_opt, ← Array.getElem?_toList]
    have : T.data.toList[n]? = (tl T n)[0]? := by unfold tl; rw [List.getElem?_drop]; rfl
    rw [this, h]; rfl
  · have : tl T (n + 1) = (tl T n).drop 1 := by unfold tl; rw [List.drop_drop]
    rw [this, h]; rfl
theorem tl_app {T : ByteArray} {n : Nat} {l r : List UInt8} (h : tl T n = l ++ r) : tl T (n + l.length) = r := by
  have : tl T (n + l.length) = (tl T n).drop l.length := by unfold tl; rw [List.drop_drop]
  rw [this, h, List.drop_left]
theorem tl_app_le {T : ByteArray} {n : Nat} {l r : List UInt8} (h : tl T n = l ++ r) (hn : n ≤ T.size) : n + l.length ≤ T.size := by
  have h1 := tl_len T n
  rw [h, List.length_append] at h1
  omega
theorem bytesOf_tl {T : ByteArray} {n : Nat} {l r : List UInt8} (h : tl T n = l ++ r) : bytesOf T n (n + l.length) = l := by
  unfold bytesOf
  rw [ByteArray.data_extract, Array.toList_extract, List.extract_eq_take_drop]
  have : (T.data.toList.drop n) = l ++ r := h
  rw [this, show n + l.length - n = l.length by omega, List.take_left]
theorem tl_byte (T : ByteArray) (n i : Nat) : byteAt T (n + i) = (tl T n).getD i 0 := by
  rw [byte_opt, ← Array.getElem?_toList, List.getD_eq_getElem?_getD]
  unfold tl
  rw [List.getElem?_drop]
theorem decL_tl (T : ByteArray) (n : Nat) : Lib.decodeL (tl T n) = Utf8.decode T n := by
  unfold Lib.decodeL
  rw [dec_N, dec_N]
  have hs : (⟨(tl T n).toArray⟩ : ByteArray).size - 0 = T.size - n := by
    show (tl T n).toArray.size - 0 = _
    rw [List.size_toArray, tl_len]; omega
  have hb : ∀ i, byteAt (⟨(tl T n).toArray⟩ : ByteArray) (0 + i) = byteAt T (n + i) := fun i => by
    rw [tl_byte T n i, byte_opt, List.getD_eq_getElem?_getD]
    simp
  rw [hs]
  have h0 := hb 0; have h1 := hb 1; have h2 := hb 2; have h3 := hb 3
  simp only [Nat.zero_add, Nat.add_zero] at h0 h1 h2 h3 ⊢
  rw [h0, h1, h2, h3]

/-! A character stays one, whatever follows. -/
theorem dec_more (N N' b0 b1 b2 b3 c1 c2 c3 : Nat) (h : (Lib.decodeN N b0 b1 b2 b3).2 ≠ 1) (hN : (Lib.decodeN N b0 b1 b2 b3).2 ≤ N') (h1 : c1 = b1) (h2 : 2 < (Lib.decodeN N b0 b1 b2 b3).2 → c2 = b2) (h3 : 3 < (Lib.decodeN N b0 b1 b2 b3).2 → c3 = b3) :
    Lib.decodeN N' b0 c1 c2 c3 = Lib.decodeN N b0 b1 b2 b3 := by
  subst h1
  unfold Lib.decodeN at *
  split at h
  · exact absurd rfl h
  · rename_i g0
    split at h
    · rename_i g1
      simp only [if_neg g0, if_pos g1] at *
      split at h
      · rename_i g2
        simp only [if_pos g2] at *
        rw [if_pos ⟨g1.1, by omega, g1.2.2⟩]
      · exact absurd rfl h
    · rename_i g1
      split at h
      · rename_i g2
        simp only [if_neg g0, if_neg g1, if_pos g2] at *
        split at h
        · rename_i g3
          simp only [if_pos g3] at *
          have e2 := h2 (by omega)
          subst e2
          rw [if_neg (by omega), if_pos ⟨g2.1, ⟨by omega, g2.2.1.2⟩, by omega, g2.2.2.2⟩, if_pos g3]
        · exact absurd rfl h
      · rename_i g2
        split at h
        · rename_i g3
          simp only [if_neg g0, if_neg g1, if_neg g2, if_pos g3] at *
          split at h
          · rename_i g4
            simp only [if_pos g4] at *
            have e2 := h2 (by omega)
            have e3 := h3 (by omega)
            subst e2 e3
            rw [if_neg (by omega), if_neg (by omega), if_pos ⟨g3.1, ⟨by omega, g3.2.1.2⟩, ⟨by omega, g3.2.2.1.2⟩, by omega, g3.2.2.2.2⟩, if_pos g4]
          · exact absurd rfl h
        · exact absurd rfl h
/-- All bytes of a character of several are from 128 on. -/
theorem dec_high (N b0 b1 b2 b3 : Nat) (h : (Lib.decodeN N b0 b1 b2 b3).2 ≠ 1) : 2 ≤ (Lib.decodeN N b0 b1 b2 b3).2 ∧ (Lib.decodeN N b0 b1 b2 b3).2 ≤ 4 ∧ (Lib.decodeN N b0 b1 b2 b3).2 ≤ N ∧ 128 ≤ b0 ∧ 128 ≤ b1 ∧ (2 < (Lib.decodeN N b0 b1 b2 b3).2 → 128 ≤ b2) ∧ (3 < (Lib.decodeN N b0 b1 b2 b3).2 → 128 ≤ b3) ∧ 128 ≤ (Lib.decodeN N b0 b1 b2 b3).1 := by
  unfold Lib.decodeN at *
  split at h
  · exact absurd rfl h
  · rename_i g0
    split at h
    · rename_i g1
      simp only [if_neg g0, if_pos g1] at *
      split at h
      · rename_i g2
        simp only [if_pos g2] at *
        omega
      · exact absurd rfl h
    · rename_i g1
      split at h
      · rename_i g2
        simp only [if_neg g0, if_neg g1, if_pos g2] at *
        split at h
        · rename_i g3
          simp only [if_pos g3] at *
          omega
        · exact absurd rfl h
      · rename_i g2
        split at h
        · rename_i g3
          simp only [if_neg g0, if_neg g1, if_neg g2, if_pos g3] at *
          split at h
          · rename_i g4
            simp only [if_pos g4] at *
            omega
          · exact absurd rfl h
        · exact absurd rfl h
theorem decL_N (l : List UInt8) : Lib.decodeL l = Lib.decodeN l.length (l.getD 0 0).toNat (l.getD 1 0).toNat (l.getD 2 0).toNat (l.getD 3 0).toNat := by
  unfold Lib.decodeL
  rw [dec_N]
  have hb : ∀ i, byteAt (⟨l.toArray⟩ : ByteArray) i = l.getD i 0 := fun i => by
    rw [byte_opt, List.getD_eq_getElem?_getD]; simp
  have h0 := hb 0; have h1 := hb 1; have h2 := hb 2; have h3 := hb 3
  simp only [Nat.zero_add] at h0 h1 h2 h3 ⊢
  rw [h0, h1, h2, h3]
  have : (⟨l.toArray⟩ : ByteArray).size - 0 = l.length := by
    show l.toArray.size - 0 = _
    rw [List.size_toArray]; omega
  rw [this]
/-- The character at a list's head, when more follows. -/
theorem decL_app (l r : List UInt8) (h : (Lib.decodeL l).2 ≠ 1) : Lib.decodeL (l ++ r) = Lib.decodeL l := by
  rw [decL_N] at h
  have hh := dec_high _ _ _ _ _ h
  have hg : ∀ i, i < l.length → (l ++ r).getD i 0 = l.getD i 0 := fun i hi => by
    rw [List.getD_eq_getElem?_getD, List.getD_eq_getElem?_getD, List.getElem?_append_left hi]
  rw [decL_N, decL_N, hg 0 (by omega)]
  exact dec_more _ _ _ _ _ _ _ _ _ h (by rw [List.length_append]; omega) (by rw [hg 1 (by omega)]) (fun h2 => by rw [hg 2 (by omega)]) (fun h3 => by rw [hg 3 (by omega)])
theorem decL_one (b : UInt8) (t : List UInt8) (h : b.toNat < 128) : Lib.decodeL (b :: t) = (b.toNat, 1) := Lib.decodeL_ascii b t h
/-- How a good text goes on. -/
inductive Good : List UInt8 → Prop
  | nil : Good []
  | low (b : UInt8) (t : List UInt8) (h : b.toNat < 128) (ht : Good t) : Good (b :: t)
  | high (l r : List UInt8) (h : (Lib.decodeL (l ++ r)).2 = l.length) (h1 : l.length ≠ 1) (hr : Good r) : Good (l ++ r)
theorem good_of_valid : ∀ (k : Nat) (l : List UInt8), l.length ≤ k → Lib.validD l = true → Good l
  | 0, l, hk, _ => by
    have : l = [] := List.eq_nil_of_length_eq_zero (by omega)
    subst this; exact .nil
  | k + 1, [], _, _ => .nil
  | k + 1, b :: t, hk, hv => by
    rw [List.length_cons] at hk
    by_cases hb : b.toNat < 128
    · exact .low b t hb (good_of_valid k t (by omega) (by rw [← Lib.validD_cons b t hb]; exact hv))
    · rw [Lib.validD_step _ (by simp)] at hv
      split at hv
      · cases hv
      · rename_i hd
        have h1 : (Lib.decodeL (b :: t)).2 ≠ 1 := fun e => hd ⟨by rw [decL_N] at e ⊢; rw [dec_one _ _ _ _ _ (by show 128 ≤ b.toNat; omega) e], e⟩
        have hh := h1
        rw [decL_N] at hh
        have hi := dec_high _ _ _ _ _ hh
        rw [← decL_N] at hi
        have hs : (b :: t) = (b :: t).take (Lib.decodeL (b :: t)).2 ++ (b :: t).drop (Lib.decodeL (b :: t)).2 := (List.take_append_drop _ _).symm
        have hl : ((b :: t).take (Lib.decodeL (b :: t)).2).length = (Lib.decodeL (b :: t)).2 := by rw [List.length_take]; omega
        have hg := good_of_valid k ((b :: t).drop (Lib.decodeL (b :: t)).2) (by rw [List.length_drop, List.length_cons]; omega) hv
        rw [hs]
        exact .high _ _ (by rw [← hs, hl]) (by rw [hl]; exact h1) hg
theorem valid_of_good {l : List UInt8} (h : Good l) : Lib.validD l = true := by
  induction h with
  | nil => rfl
  | low b t h _ ih => rw [Lib.validD_cons b t h]; exact ih
  | high l r h h1 _ ih =>
    have hne : l ++ r ≠ [] := by
      intro e
      have := Lib.decodeL_width (l ++ r)
      have h2 := congrArg List.length e
      rw [List.length_append] at h2
      simp only [List.length_nil] at h2
      omega
    rw [Lib.validD_step _ hne, if_neg (fun e => h1 (by rw [← h]; exact e.2)), h, List.drop_left]
    exact ih
theorem Good.append {a b : List UInt8} (ha : Good a) (hb : Good b) : Good (a ++ b) := by
  induction ha with
  | nil => exact hb
  | low c t h _ ih => exact .low c _ h ih
  | high l r h h1 _ ih =>
    rw [List.append_assoc]
    refine .high l (r ++ b) ?_ h1 ih
    rw [← List.append_assoc, decL_app _ _ (by rw [h]; exact h1), h]
theorem high_bytes {l r : List UInt8} (h : (Lib.decodeL (l ++ r)).2 = l.length) (h1 : l.length ≠ 1) : 2 ≤ l.length ∧ l.length ≤ 4 ∧ (∀ b ∈ l, 128 ≤ b.toNat) ∧ 128 ≤ (Lib.decodeL (l ++ r)).1 ∧ (Lib.decodeL l) = Lib.decodeL (l ++ r) := by
  have hd : (Lib.decodeL (l ++ r)).2 ≠ 1 := by rw [h]; exact h1
  rw [decL_N] at hd
  have hh := dec_high _ _ _ _ _ hd
  have hg : ∀ i, i < l.length → (l ++ r).getD i 0 = l.getD i 0 := fun i hi => by
    rw [List.getD_eq_getElem?_getD, List.getD_eq_getElem?_getD, List.getElem?_append_left hi]
  have hq : Lib.decodeL l = Lib.decodeL (l ++ r) := by
    rw [decL_N, decL_N (l ++ r)]
    rw [← decL_N (l ++ r), h] at hh
    rw [hg 0 (by omega)] at hd ⊢
    refine dec_more _ _ _ _ _ _ _ _ _ hd ?_ (by rw [hg 1 (by omega)]) (fun h2 => ?_) (fun h3 => ?_)
    · rw [← hg 0 (by omega), ← decL_N (l ++ r), h]; omega
    · rw [← hg 0 (by omega), ← decL_N (l ++ r), h] at h2; rw [hg 2 (by omega)]
    · rw [← hg 0 (by omega), ← decL_N (l ++ r), h] at h3; rw [hg 3 (by omega)]
  rw [← decL_N (l ++ r), h] at hh
  obtain ⟨a1, a2, a3, a4, a5, a6, a7, a8⟩ := hh
  refine ⟨a1, a2, fun b hb => ?_, a8, hq⟩
  obtain ⟨i, hi, rfl⟩ := List.getElem_of_mem hb
  have he : l[i] = (l ++ r).getD i 0 := by
    rw [hg i hi, List.getD_eq_getElem?_getD, List.getElem?_eq_getElem hi]; rfl
  rw [he]
  have : i = 0 ∨ i = 1 ∨ i = 2 ∨ i = 3 := by omega
  rcases this with rfl | rfl | rfl | rfl
  · exact a4
  · exact a5
  · exact a6 (by omega)
  · exact a7 (by omega)
/-- How a character below 128 is written that may not stand as it is. -/
def hexB (d : Nat) : UInt8 := if d < 10 then UInt8.ofNat (48 + d) else UInt8.ofNat (87 + d)
def escB (c : Nat) : List UInt8 :=
  if c = 34 then [92, 34] else if c = 92 then [92, 92] else if c = 8 then [92, 98] else if c = 9 then [92, 116] else if c = 10 then [92, 110] else if c = 12 then [92, 102] else if c = 13 then [92, 114]
  else [92, 117, 48, 48, hexB (c / 16), hexB (c % 16)]
def isEsc (c : Nat) : Bool := decide (c < 32) || c == 34 || c == 92
def byteE (b : UInt8) : List UInt8 := if isEsc b.toNat = true then escB b.toNat else [b]
def escT (l : List UInt8) : List UInt8 := l.flatMap byteE
theorem escT_nil : escT [] = [] := rfl
theorem escT_cons (b : UInt8) (l : List UInt8) : escT (b :: l) = byteE b ++ escT l := rfl
theorem escT_append (a b : List UInt8) : escT (a ++ b) = escT a ++ escT b := List.flatMap_append ..
theorem byteE_high {b : UInt8} (h : 128 ≤ b.toNat) : byteE b = [b] := by
  unfold byteE isEsc
  rw [if_neg]
  simp; omega
theorem escT_high : ∀ l : List UInt8, (∀ b ∈ l, 128 ≤ b.toNat) → escT l = l
  | [], _ => rfl
  | b :: t, h => by
    rw [escT_cons, byteE_high (h b (by simp)), escT_high t (fun c hc => h c (by simp [hc]))]; rfl
theorem byteE_len (b : UInt8) : 1 ≤ (byteE b).length ∧ (byteE b).length ≤ 6 := by
  unfold byteE
  split
  · unfold escB; repeat' split
    all_goals simp
  · simp
theorem escT_len (l : List UInt8) : l.length ≤ (escT l).length ∧ (escT l).length ≤ 6 * l.length := by
  induction l with
  | nil => simp [escT_nil]
  | cons b t ih =>
    have := byteE_len b
    rw [escT_cons, List.length_append, List.length_cons]
    omega

/-! Steps of the reader of quoted texts. -/
theorem txR_end (T : ByteArray) (acc : List UInt8) (n : Nat) (hn : n < T.size) (h : byteAt T n = 34) : txR T acc n = .ok ⟨acc.toArray⟩ (n + 1) := by
  have hd := dec_asc T n (by rw [h]; decide)
  have hp : plR T n = .ok () n := by rw [plR_step T n hn, hd, if_pos (Or.inl (by rw [h]; rfl))]
  rw [txR_step T acc n (by omega), hp]
  simp only
  rw [if_pos h]
  have : bytesOf T n n = [] := by unfold bytesOf; rw [ByteArray.data_extract]; simp
  rw [this, List.append_nil]
theorem txR_esc (T : ByteArray) (acc : List UInt8) (n c m : Nat) (hn : n < T.size) (h : byteAt T n = 92) (he : escR T n = .ok c m) : txR T acc n = txR T (acc ++ encB c) m := by
  have hd := dec_asc T n (by rw [h]; decide)
  have hp : plR T n = .ok () n := by rw [plR_step T n hn, hd, if_pos (Or.inr (by rw [h]; rfl))]
  rw [txR_step T acc n (by omega), hp]
  simp only
  rw [if_neg (by rw [h]; decide), he]
  have : bytesOf T n n = [] := by unfold bytesOf; rw [ByteArray.data_extract]; simp
  rw [this, List.append_nil]
theorem bytesOf_join (T : ByteArray) {a b c : Nat} (h1 : a ≤ b) (h2 : b ≤ c) : bytesOf T a c = bytesOf T a b ++ bytesOf T b c := by
  unfold bytesOf
  rw [← Array.toList_append, ← ByteArray.data_append, ← ByteArray.extract_eq_extract_append_extract b h1 h2]
theorem txR_plain (T : ByteArray) (acc : List UInt8) (n : Nat) (hn : n < T.size) (hp : plR T n = plR T (n + (Utf8.decode T n).2)) : txR T acc n = txR T (acc ++ bytesOf T n (n + (Utf8.decode T n).2)) (n + (Utf8.decode T n).2) := by
  have hw := dec_wide T n hn
  rw [txR_step T acc n (by omega), txR_step T _ (n + (Utf8.decode T n).2) hw.2, hp]
  cases hq : plR T (n + (Utf8.decode T n).2) with
  | bad e p => rfl
  | ok u m =>
    have h1 := (plR_ok hq).1
    have h2 : n ≤ n + (Utf8.decode T n).2 := by omega
    simp only
    rw [bytesOf_join T h2 h1, List.append_assoc]
theorem plR_char (T : ByteArray) (n : Nat) (hn : n < T.size) (h : 32 ≤ (Utf8.decode T n).1) (h34 : (Utf8.decode T n).1 ≠ 34) (h92 : (Utf8.decode T n).1 ≠ 92) (h1 : (Utf8.decode T n).1 < 128 ∨ (Utf8.decode T n).2 ≠ 1) : plR T n = plR T (n + (Utf8.decode T n).2) := by
  rw [plR_step T n hn, if_neg (by omega), if_neg (by omega)]
  by_cases hd : (Utf8.decode T n).1 = 65533
  · have h2 : (Utf8.decode T n).2 ≠ 1 := by omega
    have hf : fullT T n = true := by
      rw [dec_N] at h2
      exact full_of _ _ _ _ _ (UInt8.toNat_lt _) (UInt8.toNat_lt _) (UInt8.toNat_lt _) h2
    rw [if_pos hd, if_pos hf, if_neg h2]
  · rw [if_neg hd]
theorem unesc_tab : ∀ c : Nat, c < 128 → isEsc c = true → (escB c).length = 2 → escB c = [92, (escB c).getD 1 0] ∧ (escB c).getD 1 0 ≠ 117 ∧ unescN ((escB c).getD 1 0).toNat = some c := by decide +kernel
theorem hex_tab : ∀ c : Nat, c < 128 → isEsc c = true → (escB c).length ≠ 2 → escB c = [92, 117, 48, 48, hexB (c / 16), hexB (c % 16)] ∧ hexV (hexB (c / 16)) = some (c / 16) ∧ hexV (hexB (c % 16)) = some (c % 16) := by decide +kernel
theorem esc_of {T : ByteArray} {n c : Nat} {r : List UInt8} (hc : c < 128) (he : isEsc c = true) (h : tl T n = escB c ++ r) : n < T.size ∧ byteAt T n = 92 ∧ escR T n = .ok c (n + (escB c).length) := by
  by_cases hl : (escB c).length = 2
  · obtain ⟨e, h117, hu⟩ := unesc_tab c hc he hl
    rw [e] at h
    obtain ⟨h1, h2, h3⟩ := tl_cons h
    obtain ⟨h4, h5, h6⟩ := tl_cons h3
    refine ⟨h1, h2, ?_⟩
    unfold escR
    rw [if_pos h4, h5, if_neg h117, hu, hl]
    rfl
  · obtain ⟨e, e1, e2⟩ := hex_tab c hc he hl
    have hl6 : (escB c).length = 6 := by rw [e]; rfl
    rw [e] at h
    obtain ⟨h1, h2, h3⟩ := tl_cons h
    obtain ⟨h4, h5, h6⟩ := tl_cons h3
    obtain ⟨h7, h8, h9⟩ := tl_cons h6
    obtain ⟨h10, h11, h12⟩ := tl_cons h9
    obtain ⟨h13, h14, h15⟩ := tl_cons h12
    obtain ⟨h16, h17, h18⟩ := tl_cons h15
    refine ⟨h1, h2, ?_⟩
    have hx : hexR T 4 0 (n + 2) = .ok c (n + 6) := by
      have h48 : hexV 48 = some 0 := by decide
      simp only [hexR]
      rw [if_pos h7, h8, h48]
      simp only
      rw [if_pos h10, h11, h48]
      simp only
      rw [if_pos h13, h14, e1]
      simp only
      rw [if_pos h16, h17, e2]
      show (Res.ok (16 * (16 * (16 * (16 * 0 + 0) + 0) + c / 16) + c % 16) (n + 2 + 1 + 1 + 1 + 1) : Res Nat) = _
      congr 1
      omega
    unfold escR codedR
    rw [if_pos h4, h5, if_pos rfl, hx, halfR, if_pos (Or.inl (by omega)), hl6]
theorem encB_low (b : UInt8) (h : b.toNat < 128) : encB b.toNat = [b] := by
  unfold encB Lib.encodeRune
  rw [Lib.encodeRuneZ_one (by omega) (by omega)]
  simp
/-- A good text, written, is read as itself. -/
theorem tx_back {T : ByteArray} {l : List UInt8} (hg : Good l) : ∀ (acc : List UInt8) (n : Nat) (r : List UInt8), tl T n = escT l ++ 34 :: r → txR T acc n = .ok ⟨(acc ++ l).toArray⟩ (n + (escT l).length + 1) := by
  induction hg with
  | nil =>
    intro acc n r h
    obtain ⟨h1, h2, _⟩ := tl_cons (show tl T n = 34 :: r from h)
    rw [txR_end T acc n h1 h2, List.append_nil]
    rfl
  | low b t hb _ ih =>
    intro acc n r h
    rw [escT_cons, List.append_assoc] at h
    have h' := tl_app h
    by_cases he : isEsc b.toNat = true
    · have hE : byteE b = escB b.toNat := by unfold byteE; rw [if_pos he]
      rw [hE] at h h'
      obtain ⟨h1, h2, h3⟩ := esc_of hb he h
      rw [txR_esc T acc n _ _ h1 h2 h3, encB_low b hb, ih _ _ r h', escT_cons, hE, List.append_assoc, List.length_append]
      congr 1
      omega
    · have hE : byteE b = [b] := by unfold byteE; rw [if_neg he]
      rw [hE] at h h'
      obtain ⟨h1, h2, h3⟩ := tl_cons (show tl T n = b :: _ from h)
      have hd := dec_asc T n (by rw [h2]; exact hb)
      have hq : 32 ≤ b.toNat ∧ b.toNat ≠ 34 ∧ b.toNat ≠ 92 := by
        unfold isEsc at he
        simp at he
        omega
      have hp := plR_char T n h1 (by rw [hd, h2]; exact hq.1) (by rw [hd, h2]; exact hq.2.1) (by rw [hd, h2]; exact hq.2.2) (Or.inl (by rw [hd, h2]; exact hb))
      have hs := txR_plain T acc n h1 hp
      rw [hd] at hs
      have hs : txR T acc n = txR T (acc ++ bytesOf T n (n + 1)) (n + 1) := hs
      have h' : tl T (n + 1) = escT t ++ 34 :: r := h'
      have hbo : bytesOf T n (n + 1) = [b] := bytesOf_tl (l := [b]) h
      rw [hs, hbo, ih _ _ r h', escT_cons, hE, List.append_assoc, List.length_append]
      congr 1
      simp only [List.length_cons, List.length_nil]
      omega
  | high l t hk h1 _ ih =>
    intro acc n r h
    obtain ⟨a1, a2, a3, a4, a5⟩ := high_bytes hk h1
    rw [escT_append, escT_high l a3, List.append_assoc] at h
    have h' := tl_app h
    have hlt : n < T.size := by
      have := tl_len T n
      rw [h, List.length_append] at this
      omega
    have hd : Utf8.decode T n = Lib.decodeL (l ++ t) := by
      rw [← decL_tl, h, decL_app _ _ (by rw [a5, hk]; exact h1), a5]
    have hp := plR_char T n hlt (by rw [hd]; omega) (by rw [hd]; omega) (by rw [hd]; omega) (Or.inr (by rw [hd, hk]; exact h1))
    have hs := txR_plain T acc n hlt hp
    rw [hd, hk, bytesOf_tl h] at hs
    rw [hs, ih _ _ r h', escT_append, escT_high l a3, List.append_assoc, List.length_append]
    congr 1
    omega
def qT (s : ByteArray) : List UInt8 := [34] ++ escT s.data.toList ++ [34]
theorem text_back {T s : ByteArray} {n : Nat} {r : List UInt8} (hv : Lib.validD s.data.toList = true) (h : tl T n = qT s ++ r) : n < T.size ∧ byteAt T n = 34 ∧ textR T n = .ok s (n + (qT s).length) := by
  have h' : tl T n = 34 :: (escT s.data.toList ++ 34 :: r) := by rw [h]; simp [qT]
  obtain ⟨h1, h2, h3⟩ := tl_cons h'
  refine ⟨h1, h2, ?_⟩
  unfold textR
  rw [tx_back (good_of_valid _ _ (Nat.le_refl _) hv) [] (n + 1) r h3]
  simp [qT]
  omega
theorem dd_step (u : Nat) : Lib.decDigits u = if u < 10 then [UInt8.ofNat (48 + u)] else Lib.decDigits (u / 10) ++ [UInt8.ofNat (48 + u % 10)] := by
  rw [Lib.decDigits]
  split <;> rfl
theorem dig_num (d : Nat) (h : d < 10) : digit (UInt8.ofNat (48 + d)) = true ∧ (UInt8.ofNat (48 + d)).toNat = 48 + d := by
  have : d = 0 ∨ d = 1 ∨ d = 2 ∨ d = 3 ∨ d = 4 ∨ d = 5 ∨ d = 6 ∨ d = 7 ∨ d = 8 ∨ d = 9 := by omega
  rcases this with rfl | rfl | rfl | rfl | rfl | rfl | rfl | rfl | rfl | rfl <;> decide
theorem dd_all (u : Nat) : ∀ b ∈ Lib.decDigits u, digit b = true := by
  induction u using Nat.strongRecOn with
  | ind u ih =>
    intro b hb
    rw [dd_step] at hb
    split at hb
    · rw [List.mem_singleton] at hb; subst hb; exact (dig_num u (by assumption)).1
    · rw [List.mem_append, List.mem_singleton] at hb
      rcases hb with hb | rfl
      · exact ih (u / 10) (by omega) b hb
      · exact (dig_num (u % 10) (by omega)).1
theorem dd_head (u : Nat) : ∃ d t, Lib.decDigits u = d :: t ∧ digit d = true ∧ (d = 48 → t = []) := by
  induction u using Nat.strongRecOn with
  | ind u ih =>
    rw [dd_step]
    split
    · exact ⟨_, [], rfl, (dig_num u (by assumption)).1, fun _ => rfl⟩
    · rename_i hu
      obtain ⟨d, t, h, hd, h48⟩ := ih (u / 10) (by omega)
      refine ⟨d, t ++ [UInt8.ofNat (48 + u % 10)], by rw [h]; rfl, hd, fun e => ?_⟩
      exfalso
      have ht := h48 e
      subst ht e
      -- one digit, 48: u / 10 = 0
      rw [dd_step] at h
      split at h
      · rename_i h10
        have := (dig_num (u / 10) h10).2
        have h2 : UInt8.ofNat (48 + u / 10) = 48 := by simpa using h
        rw [h2] at this
        have : (48 : UInt8).toNat = 48 := rfl
        omega
      · obtain ⟨d', t', h', _, _⟩ := ih (u / 10 / 10) (by omega)
        rw [h'] at h
        simp at h
theorem pu_app (M : Nat) : ∀ (a b : List UInt8) (acc : Nat), Lib.parseUintM M acc (a ++ b) = match Lib.parseUintM M acc a with | .ok v => Lib.parseUintM M v b | .syntax => .syntax | .range => .range
  | [], b, acc => rfl
  | c :: a, b, acc => by
    rw [List.cons_append, Lib.parseUintM, Lib.parseUintM]
    split
    · split
      · rfl
      · split
        · rfl
        · exact pu_app M a b _
    · rfl
theorem pu_dd (M : Nat) (hM : M ≤ 18446744073709551615) (u : Nat) (hu : u ≤ M) : Lib.parseUintM M 0 (Lib.decDigits u) = .ok u := by
  induction u using Nat.strongRecOn with
  | ind u ih =>
    rw [dd_step]
    split
    · rename_i h10
      have := (dig_num u h10).2
      rw [Lib.parseUintM, this, if_pos (by omega), if_neg (by omega), if_neg (by omega), Lib.parseUintM]
      congr 1; omega
    · rename_i h10
      have := (dig_num (u % 10) (by omega)).2
      rw [pu_app, ih (u / 10) (by omega) (by omega)]
      simp only
      rw [Lib.parseUintM, this, if_pos (by omega), if_neg (by omega), if_neg (by omega), Lib.parseUintM]
      congr 1; omega
theorem pi_itoa (x : Int) (h0 : -9223372036854775808 ≤ x) (h1 : x ≤ 9223372036854775807) : Lib.parseIntB 64 (Lib.itoa x) = .ok x := by
  have e64 : (2 ^ 64 - 1 : Nat) = 18446744073709551615 := by decide
  have e63 : (2 ^ (64 - 1) : Nat) = 9223372036854775808 := by decide
  unfold Lib.itoa
  by_cases hx : x < 0
  · rw [if_pos hx]
    have hp : Lib.parseUintB 64 (Lib.decDigits x.natAbs) = .ok x.natAbs := by
      obtain ⟨d, t, h, _⟩ := dd_head x.natAbs
      unfold Lib.parseUintB
      rw [if_neg (by rw [h]; simp), e64]
      exact pu_dd _ (Nat.le_refl _) _ (by omega)
    unfold Lib.parseIntB
    simp only [show (45 : UInt8).toNat = 45 from rfl, or_true, if_true, hp, e63]
    rw [if_neg (by simp), if_neg (by omega)]
    congr 1; omega
  · rw [if_neg hx]
    obtain ⟨d, t, h, hd, _⟩ := dd_head x.toNat
    have hp : Lib.parseUintB 64 (Lib.decDigits x.toNat) = .ok x.toNat := by
      unfold Lib.parseUintB
      rw [if_neg (by rw [h]; simp), e64]
      exact pu_dd _ (Nat.le_refl _) _ (by omega)
    rw [h] at hp ⊢
    have hn : ¬ (d.toNat = 43 ∨ d.toNat = 45) ∧ ¬ d.toNat = 45 := by
      unfold digit at hd
      simp only [Bool.and_eq_true, decide_eq_true_eq, UInt8.le_iff_toNat_le] at hd
      have : (48 : UInt8).toNat = 48 := rfl
      omega
    unfold Lib.parseIntB
    simp only [hn.2, if_false, or_false, e63]
    rw [if_neg (fun e => hn.1 (Or.inl e)), hp]
    simp only
    rw [if_neg (by omega), if_neg (by simp)]
    congr 1; omega
/-- No number goes on here. -/
def stopN (r : List UInt8) : Prop := ∀ a t, r = a :: t → digit a = false ∧ frac a = false
theorem num_at {T : ByteArray} {n k : Nat} {u : Nat} {r : List UInt8} (h : tl T k = Lib.decDigits u ++ r) (hr : stopN r) : k < T.size ∧ digit (byteAt T k) = true ∧ numEnd T k = k + (Lib.decDigits u).length ∧ ∀ v, numFin T n (numEnd T k) (.ok v) = .ok v (k + (Lib.decDigits u).length) := by
  obtain ⟨d, t, hd, hdd, h48⟩ := dd_head u
  have hall := dd_all u
  have h' : tl T k = d :: (t ++ r) := by rw [h, hd]; rfl
  obtain ⟨h1, h2, h3⟩ := tl_cons h'
  have hle := tl_app_le h (by omega)
  have hrest := tl_app h
  have hstop : ∀ m, tl T m = r → m < T.size → digit (byteAt T m) = false ∧ frac (byteAt T m) = false := fun m hm hlt => by
    cases hr' : r with
    | nil => have := tl_len T m; rw [hm, hr'] at this; simp at this; omega
    | cons a t' => rw [hr'] at hm; obtain ⟨_, e, _⟩ := tl_cons hm; rw [e]; exact hr a t' hr'
  have hE : numEnd T k = k + (Lib.decDigits u).length := by
    unfold numEnd
    rw [h2]
    by_cases e : d = 48
    · rw [if_pos e, hd, h48 e]; rfl
    · rw [if_neg e]
      refine dg_eq T (k + 1) _ (by rw [hd, List.length_cons]; omega) hle (fun i hi1 hi2 => ?_) ?_
      · have : byteAt T i = (Lib.decDigits u).getD (i - k) 0 := by
          have hb := tl_byte T k (i - k)
          rw [show k + (i - k) = i by omega, h] at hb
          rw [hb, List.getD_eq_getElem?_getD, List.getD_eq_getElem?_getD, List.getElem?_append_left (by omega)]
        rw [this, List.getD_eq_getElem?_getD, List.getElem?_eq_getElem (show i - k < (Lib.decDigits u).length by omega)]
        exact hall _ (List.getElem_mem _)
      · rcases Nat.lt_or_ge (k + (Lib.decDigits u).length) T.size with hlt | hge
        · exact Or.inr (hstop _ hrest hlt).1
        · exact Or.inl (by omega)
  refine ⟨h1, by rw [h2]; exact hdd, hE, fun v => ?_⟩
  rw [hE, numFin, if_neg]
  rintro ⟨hlt, hf⟩
  rw [(hstop _ hrest hlt).2] at hf
  cases hf
theorem num_back {T : ByteArray} {n : Nat} {x : Int} {r : List UInt8} (h0 : -9223372036854775808 ≤ x) (h1 : x ≤ 9223372036854775807) (h : tl T n = Lib.itoa x ++ r) (hr : stopN r) : n < T.size ∧ (byteAt T n = 45 ∨ digit (byteAt T n) = true) ∧ numR T n = .ok x (n + (Lib.itoa x).length) := by
  have hb := bytesOf_tl h
  have hpi := pi_itoa x h0 h1
  unfold Lib.itoa at h hb hpi ⊢
  by_cases hx : x < 0
  · rw [if_pos hx] at h hb hpi ⊢
    obtain ⟨a1, a2, a3⟩ := tl_cons (show tl T n = 45 :: (Lib.decDigits x.natAbs ++ r) from h)
    obtain ⟨c1, c2, c3, c4⟩ := num_at (n := n) a3 hr
    refine ⟨a1, Or.inl a2, ?_⟩
    unfold numR numAt
    rw [if_pos a2, if_pos c1, if_pos c2]
    have e : n + 1 + (Lib.decDigits x.natAbs).length = n + (45 :: Lib.decDigits x.natAbs).length := by rw [List.length_cons]; omega
    have hx' : (T.extract n (numEnd T (n + 1))).data.toList = 45 :: Lib.decDigits x.natAbs := by rw [c3, e]; exact hb
    rw [hx', hpi, c4, e]
  · rw [if_neg hx] at h hb hpi ⊢
    obtain ⟨c1, c2, c3, c4⟩ := num_at (n := n) h hr
    refine ⟨c1, Or.inr c2, ?_⟩
    have h45 : byteAt T n ≠ 45 := fun e => by rw [e] at c2; exact absurd c2 (by decide)
    unfold numR numAt
    rw [if_neg h45, if_pos c1, if_pos c2]
    have hx' : (T.extract n (numEnd T n)).data.toList = Lib.decDigits x.toNat := by rw [c3]; exact hb
    rw [hx', hpi, c4]
theorem good_one {l : List UInt8} (h : (Lib.decodeL l).2 = l.length) (h1 : l.length ≠ 1) : Good l := by
  have := Good.high l [] (by rw [List.append_nil]; exact h) h1 .nil
  rwa [List.append_nil] at this
theorem good_char (T : ByteArray) (n : Nat) (hn : n < T.size) (h : (Utf8.decode T n).1 < 128 ∨ (Utf8.decode T n).2 ≠ 1) : Good (bytesOf T n (n + (Utf8.decode T n).2)) := by
  have hw := dec_wide T n hn
  by_cases h1 : (Utf8.decode T n).2 = 1
  · have hs := dec_small T n (by omega)
    have hb : bytesOf T n (n + 1) = [byteAt T n] := by
      have h2 : tl T n = [byteAt T n] ++ tl T (n + 1) := by
        cases ht : tl T n with
        | nil => have := tl_len T n; rw [ht] at this; simp at this; omega
        | cons a t => obtain ⟨_, e1, e2⟩ := tl_cons ht; rw [e1, e2]; rfl
      have h3 := bytesOf_tl h2
      rwa [List.length_singleton] at h3
    rw [h1, hb]
    exact .low _ _ (by omega) .nil
  · have hl : ((tl T n).take (Utf8.decode T n).2).length = (Utf8.decode T n).2 := by rw [List.length_take, tl_len]; omega
    have hsp : tl T n = (tl T n).take (Utf8.decode T n).2 ++ (tl T n).drop (Utf8.decode T n).2 := (List.take_append_drop _ _).symm
    have hb := bytesOf_tl hsp
    rw [hl] at hb
    rw [hb]
    have hd : (Lib.decodeL ((tl T n).take (Utf8.decode T n).2 ++ (tl T n).drop (Utf8.decode T n).2)).2 = ((tl T n).take (Utf8.decode T n).2).length := by
      rw [← hsp, decL_tl, hl]
    have hh := (high_bytes hd (by rw [hl]; exact h1)).2.2.2.2
    refine good_one ?_ (by rw [hl]; exact h1)
    rw [hh, hd]
theorem pl_good (T : ByteArray) : ∀ f n m, T.size - n ≤ f → n ≤ T.size → plR T n = .ok () m → Good (bytesOf T n m) := by
  intro f
  induction f with
  | zero => intro n m hf hn h; rw [plR_end T n (by omega)] at h; cases h
  | succ f ih =>
    intro n m hf hn h
    by_cases hlt : n < T.size
    · have hw := dec_wide T n hlt
      have h0 := h
      rw [plR_step T n hlt] at h
      split at h
      · cases h
        have : bytesOf T n n = [] := by unfold bytesOf; rw [ByteArray.data_extract]; simp
        rw [this]; exact .nil
      · split at h
        · cases h
        · have key : plR T (n + (Utf8.decode T n).2) = .ok () m → ((Utf8.decode T n).1 < 128 ∨ (Utf8.decode T n).2 ≠ 1) → Good (bytesOf T n m) := fun h hc => by
            have h1 := plR_ok h
            rw [bytesOf_join T (show n ≤ n + (Utf8.decode T n).2 by omega) h1.1]
            exact (good_char T n hlt hc).append (ih _ m (by omega) hw.2 h)
          split at h
          · split at h
            · split at h
              · cases h
              · exact key h (Or.inr (by assumption))
            · cases h
          · rename_i h65
            refine key h ?_
            by_cases h128 : (byteAt T n).toNat < 128
            · left; rw [dec_asc T n h128]; exact h128
            · right
              intro e
              rw [dec_N] at e h65
              rw [dec_one _ _ _ _ _ (by omega) e] at h65
              exact h65 rfl
    · rw [plR_end T n hlt] at h; cases h
/-- A number that is a character's. -/
def chr (c : Nat) : Prop := c ≤ 1114111 ∧ (c < 55296 ∨ 57344 ≤ c)
theorem u8_nat (k : Nat) (h : k < 256) : (k.toUInt8).toNat = k := by
  show (UInt8.ofNat k).toNat = k
  simp; omega
theorem encB_two (c : Nat) (h1 : 128 ≤ c) (h2 : c < 2048) : encB c = [(192 + c / 64).toUInt8, (128 + c % 64).toUInt8] := by
  unfold encB Lib.encodeRune
  rw [Lib.encodeRuneZ_two (by omega) (by omega)]
  simp only [List.map_cons, List.map_nil]
  rw [show (192 + (c : Int) / 64).toNat = 192 + c / 64 by omega, show (128 + (c : Int) % 64).toNat = 128 + c % 64 by omega]
theorem encB_three (c : Nat) (h1 : 2048 ≤ c) (h2 : c < 65536) (h3 : c < 55296 ∨ 57344 ≤ c) : encB c = [(224 + c / 4096).toUInt8, (128 + c / 64 % 64).toUInt8, (128 + c % 64).toUInt8] := by
  unfold encB Lib.encodeRune
  rw [Lib.encodeRuneZ_three (by omega)]
  simp only [List.map_cons, List.map_nil]
  rw [show (224 + (c : Int) / 4096).toNat = 224 + c / 4096 by omega, show (128 + (c : Int) / 64 % 64).toNat = 128 + c / 64 % 64 by omega, show (128 + (c : Int) % 64).toNat = 128 + c % 64 by omega]
theorem encB_four (c : Nat) (h1 : 65536 ≤ c) (h2 : c ≤ 1114111) : encB c = [(240 + c / 262144).toUInt8, (128 + c / 4096 % 64).toUInt8, (128 + c / 64 % 64).toUInt8, (128 + c % 64).toUInt8] := by
  unfold encB Lib.encodeRune
  rw [Lib.encodeRuneZ_four (by omega) (by omega)]
  simp only [List.map_cons, List.map_nil]
  rw [show (240 + (c : Int) / 262144).toNat = 240 + c / 262144 by omega, show (128 + (c : Int) / 4096 % 64).toNat = 128 + c / 4096 % 64 by omega, show (128 + (c : Int) / 64 % 64).toNat = 128 + c / 64 % 64 by omega, show (128 + (c : Int) % 64).toNat = 128 + c % 64 by omega]
theorem good_enc (c : Nat) (h : chr c) : Good (encB c) := by
  obtain ⟨h1, h2⟩ := h
  by_cases c1 : c < 128
  · have : encB c = [UInt8.ofNat c] := by
      have := encB_low (UInt8.ofNat c) (by simp; omega)
      rwa [show (UInt8.ofNat c).toNat = c by simp; omega] at this
    rw [this]
    exact .low _ _ (by simp; omega) .nil
  · by_cases c2 : c < 2048
    · rw [encB_two c (by omega) c2]
      refine good_one ?_ (by simp)
      rw [decL_N]
      show (Lib.decodeN 2 ((192 + c / 64).toUInt8).toNat ((128 + c % 64).toUInt8).toNat 0 0).2 = 2
      rw [u8_nat _ (by omega), u8_nat _ (by omega)]
      unfold Lib.decodeN
      rw [if_neg (by omega), if_pos (by omega), if_pos (by omega)]
    · by_cases c3 : c < 65536
      · rw [encB_three c (by omega) c3 h2]
        refine good_one ?_ (by simp)
        rw [decL_N]
        show (Lib.decodeN 3 ((224 + c / 4096).toUInt8).toNat ((128 + c / 64 % 64).toUInt8).toNat ((128 + c % 64).toUInt8).toNat 0).2 = 3
        rw [u8_nat _ (by omega), u8_nat _ (by omega), u8_nat _ (by omega)]
        unfold Lib.decodeN
        rw [if_neg (by omega), if_neg (by omega), if_pos (by omega), if_pos (by omega)]
      · rw [encB_four c (by omega) h1]
        refine good_one ?_ (by simp)
        rw [decL_N]
        show (Lib.decodeN 4 ((240 + c / 262144).toUInt8).toNat ((128 + c / 4096 % 64).toUInt8).toNat ((128 + c / 64 % 64).toUInt8).toNat ((128 + c % 64).toUInt8).toNat).2 = 4
        rw [u8_nat _ (by omega), u8_nat _ (by omega), u8_nat _ (by omega), u8_nat _ (by omega)]
        unfold Lib.decodeN
        rw [if_neg (by omega), if_neg (by omega), if_neg (by omega), if_pos (by omega), if_pos (by omega)]
theorem coded_chr {T : ByteArray} {st n c m : Nat} (hn : n ≤ T.size) (h : codedR T st n = .ok c m) : chr c := by
  refine ⟨(codedR_ok hn h).2.2, ?_⟩
  unfold codedR at h
  cases hh : hexR T 4 0 n with
  | bad e p => rw [hh] at h; cases h
  | ok v m1 =>
    rw [hh, halfR] at h
    split at h
    · cases h; assumption
    · split at h
      · cases h
      · unfold pairR at h
        split at h
        · split at h
          · split at h
            · split at h
              · cases hl : hexR T 4 0 (m1 + 2) with
                | bad e p => rw [hl] at h; cases h
                | ok l m2 =>
                  rw [hl, lowR] at h
                  split at h
                  · cases h
                  · simp only [Res.ok.injEq] at h
                    rw [← h.1]
                    unfold pairV
                    omega
              · cases h
            · cases h
          · cases h
        · cases h
theorem esc_chr {T : ByteArray} {n c m : Nat} (h : escR T n = .ok c m) : chr c := by
  unfold escR at h
  split at h
  · split at h
    · exact coded_chr (by omega) h
    · cases hu : unescN (byteAt T (n + 1)).toNat with
      | none => rw [hu] at h; cases h
      | some d =>
        rw [hu] at h
        cases h
        have := unescN_lt hu
        exact ⟨by omega, by omega⟩
  · cases h
theorem encB_short (c : Nat) : (encB c).length ≤ 4 ∧ (c < 128 → (encB c).length = 1) := by
  unfold encB Lib.encodeRune
  rw [List.length_map]
  refine ⟨(Lib.encodeRuneZ_length _).2, fun h => ?_⟩
  rw [Lib.encodeRuneZ_one (by omega) (by omega)]; rfl
theorem bytes_len (T : ByteArray) (n m : Nat) (h : m ≤ T.size) : (bytesOf T n m).length = m - n := by
  unfold bytesOf
  have : (T.extract n m).size = m - n := by rw [ByteArray.size_extract]; omega
  show (T.extract n m).data.toList.length = _
  rw [Array.length_toList]
  exact this
theorem tx_good (T : ByteArray) : ∀ f acc n s m, T.size + 1 - n ≤ f → n ≤ T.size → Good acc → txR T acc n = .ok s m → Good s.data.toList ∧ s.size + n + 1 ≤ m + acc.length ∧ m ≤ T.size := by
  intro f
  induction f with
  | zero => intro acc n s m hf hn; omega
  | succ f ih =>
    intro acc n s m hf hn hg h
    rw [txR_step T acc n hn] at h
    cases hq : plR T n with
    | bad e q => rw [hq] at h; cases h
    | ok u k =>
      rw [hq] at h
      have h1 := plR_ok hq
      have hb := pl_good T _ n k (Nat.le_refl _) hn hq
      have hl := bytes_len T n k (by omega)
      simp only at h
      split at h
      · simp only [Res.ok.injEq] at h
        obtain ⟨rfl, rfl⟩ := h
        refine ⟨by simpa using hg.append hb, ?_, by omega⟩
        show (acc ++ bytesOf T n k).toArray.size + n + 1 ≤ _
        rw [List.size_toArray, List.length_append]; omega
      · cases he : escR T k with
        | bad e q => rw [he] at h; cases h
        | ok c k' =>
          rw [he] at h
          have h2 := escR_ok he
          have h3 := encB_short c
          have := ih _ k' s m (by omega) (by omega) ((hg.append hb).append (good_enc c (esc_chr he))) h
          rw [List.length_append, List.length_append] at this
          refine ⟨this.1, ?_, this.2.2⟩
          omega
theorem text_good {T s : ByteArray} {n m : Nat} (hn : n < T.size) (h : textR T n = .ok s m) : Lib.validD s.data.toList = true ∧ s.size + n + 2 ≤ m ∧ m ≤ T.size := by
  have := tx_good T _ [] (n + 1) s m (Nat.le_refl _) hn .nil h
  refine ⟨valid_of_good this.1, ?_, this.2.2⟩
  have h2 := this.2.1
  simp only [List.length_nil] at h2
  omega
theorem u8_eq {k : Nat} {b : UInt8} (h : k = b.toNat) : k.toUInt8 = b := by
  subst h; simp
/-- A character's number tells its bytes. -/
theorem dec_val (N b0 b1 b2 b3 : Nat) (h1 : b1 < 256) (h2 : b2 < 256) (h : (Lib.decodeN N b0 b1 b2 b3).2 ≠ 1) :
    ((Lib.decodeN N b0 b1 b2 b3).2 = 2 ∧ 128 ≤ (Lib.decodeN N b0 b1 b2 b3).1 ∧ (Lib.decodeN N b0 b1 b2 b3).1 < 2048 ∧ 192 + (Lib.decodeN N b0 b1 b2 b3).1 / 64 = b0 ∧ 128 + (Lib.decodeN N b0 b1 b2 b3).1 % 64 = b1) ∨
    ((Lib.decodeN N b0 b1 b2 b3).2 = 3 ∧ 2048 ≤ (Lib.decodeN N b0 b1 b2 b3).1 ∧ (Lib.decodeN N b0 b1 b2 b3).1 < 65536 ∧ ((Lib.decodeN N b0 b1 b2 b3).1 < 55296 ∨ 57344 ≤ (Lib.decodeN N b0 b1 b2 b3).1) ∧ 224 + (Lib.decodeN N b0 b1 b2 b3).1 / 4096 = b0 ∧ 128 + (Lib.decodeN N b0 b1 b2 b3).1 / 64 % 64 = b1 ∧ 128 + (Lib.decodeN N b0 b1 b2 b3).1 % 64 = b2) ∨
    ((Lib.decodeN N b0 b1 b2 b3).2 = 4 ∧ 65536 ≤ (Lib.decodeN N b0 b1 b2 b3).1 ∧ (Lib.decodeN N b0 b1 b2 b3).1 ≤ 1114111 ∧ 240 + (Lib.decodeN N b0 b1 b2 b3).1 / 262144 = b0 ∧ 128 + (Lib.decodeN N b0 b1 b2 b3).1 / 4096 % 64 = b1 ∧ 128 + (Lib.decodeN N b0 b1 b2 b3).1 / 64 % 64 = b2 ∧ 128 + (Lib.decodeN N b0 b1 b2 b3).1 % 64 = b3) := by
  unfold Lib.decodeN at *
  split at h
  · exact absurd rfl h
  · rename_i g0
    split at h
    · rename_i g1
      simp only [if_neg g0, if_pos g1] at *
      split at h
      · rename_i g2
        simp only [if_pos g2] at *
        left
        refine ⟨trivial, by omega, by omega, by omega, by omega⟩
      · exact absurd rfl h
    · rename_i g1
      split at h
      · rename_i g2
        simp only [if_neg g0, if_neg g1, if_pos g2] at *
        split at h
        · rename_i g3
          simp only [if_pos g3] at *
          right; left
          refine ⟨trivial, by omega, by omega, by omega, by omega, by omega, by omega⟩
        · exact absurd rfl h
      · rename_i g2
        split at h
        · rename_i g3
          simp only [if_neg g0, if_neg g1, if_neg g2, if_pos g3] at *
          split at h
          · rename_i g4
            simp only [if_pos g4] at *
            right; right
            refine ⟨trivial, by omega, by omega, by omega, by omega, by omega, by omega⟩
          · exact absurd rfl h
        · exact absurd rfl h
theorem enc_dec {l : List UInt8} (h : (Lib.decodeL l).2 = l.length) (h1 : l.length ≠ 1) : encB (Lib.decodeL l).1 = l := by
  have hd : (Lib.decodeL l).2 ≠ 1 := by rw [h]; exact h1
  have hv := hd
  rw [decL_N] at hv
  have := dec_val _ _ _ _ _ (UInt8.toNat_lt _) (UInt8.toNat_lt _) hv
  rw [← decL_N, h] at this
  generalize (Lib.decodeL l).1 = c at this ⊢
  rcases this with ⟨e, r⟩ | ⟨e, r⟩ | ⟨e, r⟩
  · match l, e with
    | [a, b], _ =>
      obtain ⟨r1, r2, r3, r4⟩ := r
      rw [encB_two c r1 r2, u8_eq (b := a) r3, u8_eq (b := b) r4]
  · match l, e with
    | [a, b, d], _ =>
      obtain ⟨r1, r2, r3, r4, r5, r6⟩ := r
      rw [encB_three c r1 r2 r3, u8_eq (b := a) r4, u8_eq (b := b) r5, u8_eq (b := d) r6]
  · match l, e with
    | [a, b, d, g], _ =>
      obtain ⟨r1, r2, r3, r4, r5, r6⟩ := r
      rw [encB_four c r1 r2, u8_eq (b := a) r3, u8_eq (b := b) r4, u8_eq (b := d) r5, u8_eq (b := g) r6]
/-- The first pos bytes, written. -/
def eT (s : ByteArray) (pos : Nat) : List UInt8 := escT (s.data.toList.take pos)
theorem eT_more {s : ByteArray} {pos : Nat} {l r : List UInt8} (h : tl s pos = l ++ r) : eT s (pos + l.length) = eT s pos ++ escT l := by
  unfold eT
  rw [List.take_add, escT_append]
  have h' : s.data.toList.drop pos = l ++ r := h
  rw [h', List.take_left]
theorem eT_end (s : ByteArray) : eT s s.size = escT s.data.toList := by
  unfold eT
  rw [List.take_of_length_le]
  rw [Array.length_toList]; exact Nat.le_refl _
theorem eT_len (s : ByteArray) (pos : Nat) (h : pos ≤ s.size) : pos ≤ (eT s pos).length ∧ (eT s pos).length ≤ 6 * pos := by
  have := escT_len (s.data.toList.take pos)
  have e : (s.data.toList.take pos).length = pos := by
    rw [List.length_take, Array.length_toList]; show min pos s.size = pos; omega
  unfold eT
  omega
theorem isEsc_ascii {c : Nat} (h : isEsc c = true) : c < 128 := by
  unfold isEsc at h; simp at h; omega
/-- One character on. -/
structure Char1 (s : ByteArray) (pos c k : Nat) : Prop where
  next : Lib.validD (tl s (pos + k)) = true
  le : pos + k ≤ s.size
  ge : 1 ≤ k
  txt : eT s (pos + k) = eT s pos ++ (if isEsc c = true then escB c else encB c)
  one : isEsc c = true → k = 1
  wide : isEsc c = false → (encB c).length = k
  rng : c ≤ 1114111
theorem char_at {s : ByteArray} {pos : Nat} (hp : pos < s.size) (hv : Lib.validD (tl s pos) = true) : Char1 s pos (Utf8.decode s pos).1 (Utf8.decode s pos).2 := by
  have hw := dec_wide s pos hp
  have hg := good_of_valid _ _ (Nat.le_refl _) hv
  generalize htl : tl s pos = L at hg
  cases hg with
  | nil => have := tl_len s pos; rw [htl] at this; simp at this; omega
  | low b t hb ht =>
    obtain ⟨h1, h2, h3⟩ := tl_cons htl
    have hd := dec_asc s pos (by rw [h2]; exact hb)
    rw [h2] at hd
    rw [hd]
    have he := eT_more (l := [b]) (r := t) htl
    refine ⟨by rw [h3]; exact valid_of_good ht, h1, Nat.le_refl _, ?_, fun _ => rfl, fun _ => by rw [encB_low b hb]; rfl, by show b.toNat ≤ _; omega⟩
    show eT s (pos + 1) = eT s pos ++ (if isEsc b.toNat = true then escB b.toNat else encB b.toNat)
    rw [List.length_singleton] at he
    rw [he, escT_cons, escT_nil, List.append_nil, byteE, encB_low b hb]
  | high l r hk h1 hr =>
    obtain ⟨a1, a2, a3, a4, a5⟩ := high_bytes hk h1
    have hd : Utf8.decode s pos = Lib.decodeL (l ++ r) := by rw [← decL_tl, htl]
    have hne : isEsc (Lib.decodeL (l ++ r)).1 = false := by
      cases e : isEsc (Lib.decodeL (l ++ r)).1 with
      | false => rfl
      | true => have := isEsc_ascii e; omega
    have henc : encB (Lib.decodeL (l ++ r)).1 = l := by
      rw [← a5]
      exact enc_dec (by rw [a5]; exact hk) h1
    have he := eT_more htl
    rw [hd] at hw ⊢
    refine ⟨?_, hw.2, hw.1, ?_, (fun e => by rw [hne] at e; cases e), fun _ => by rw [henc, hk], Lib.decodeL_rune _⟩
    · rw [hk, tl_app htl]; exact valid_of_good hr
    · rw [hk, he, hne, if_neg (by decide), henc, escT_high l a3]
end Go.Proofs.YtnccaidlcaeeaaaGreatDoor
