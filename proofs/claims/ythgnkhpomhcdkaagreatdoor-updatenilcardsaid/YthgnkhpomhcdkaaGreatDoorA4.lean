import Derived.Test.YthgnkhpomhcdkaaGreatDoorA3
import Derived.Test.YthgnkhpomhcdkaaGreatDoorXI
import Derived.Lib.IndexLaws
/-! Segments as the program asks for them; where the next dot stands; strings.Cut at a dot, strings.Clone. -/
namespace Go.Proofs.YthgnkhpomhcdkaaGreatDoor.Dp
open Go Go.RowKit

theorem toList_at {s : ByteArray} {j : Nat} (hj : j < s.size) : s.data.toList[j]? = some (byteAt s j) := by
  rw [Array.getElem?_toList, ← byteAt_eq hj]
  exact Array.getElem?_eq_getElem (xs := s.data) hj
theorem dot_none {s : ByteArray} (h : Lib.indexByte s.data.toList 46 = -1) : ∀ j, j < s.size → byteAt s j ≠ 46 := fun j hj e =>
  Lib.indexByte_none h j (by rw [toList_at hj, e])
theorem dot_some {s : ByteArray} {o : Nat} (h : Lib.indexByte s.data.toList 46 = o) : o < s.size ∧ byteAt s o = 46 ∧ ∀ j, j < o → byteAt s j ≠ 46 := by
  obtain ⟨h1, h2⟩ := Lib.indexByte_some h
  have hlt : o < s.size := by
    have := (List.getElem?_eq_some_iff.1 h1).1
    simpa using this
  rw [toList_at hlt] at h1
  exact ⟨hlt, by simpa using h1, fun j hj e => h2 j hj (by rw [toList_at (by omega), e])⟩
theorem dot_lt (s : ByteArray) : decide (Lib.indexByte s.data.toList 46 < 0) = noDot s := by
  have hge := Lib.indexByte_ge s.data.toList 46
  by_cases h : Lib.indexByte s.data.toList 46 = -1
  · rw [noDot_true (dot_none h), h]; rfl
  · obtain ⟨o, ho⟩ := Int.eq_ofNat_of_zero_le (show 0 ≤ Lib.indexByte s.data.toList 46 by omega)
    obtain ⟨h1, h2, _⟩ := dot_some ho
    rw [noDot_false h1 h2, ho]; simp

set_option maxHeartbeats 1000000 in
theorem isSegment_any (s : ByteArray) (w : World) : Calls Tryz.prog 132 #[.string s] w fun e w' => e = .returned (.bool (seg s)) ∧ w' = w := by
  have hdot : Hid (decide (Lib.indexByte s.data.toList 46 < 0) = noDot s) := dot_lt s
  by_cases h1 : 1 ≤ s.size
  · have e0 := byteAt_eq (show 0 < s.size by omega)
    have hc := u8_beq (byteAt s 0) 36
    rw [show ((36 : UInt8).toNat : Int) = 36 from rfl] at hc
    by_cases h64 : s.size ≤ 64
    all_goals
     go_enter Tryz.func132, Tryz.ntmps132
     go_wp2_with (go_at_call 180; refine (Tryz.strings_IndexByte s _ _).mono ?_; rintro e w' ⟨rfl, rfl⟩)
     all_goals (go_ret; exact ⟨ret_bool (by
      have hd := hdot.out
      clear hdot
      simp [seg, bne, ← hc, ← hd, h1, h64]; try simp [*]; try omega), rfl⟩)
  · go_enter Tryz.func132, Tryz.ntmps132
    go_wp2_with (go_at_call 180; refine (Tryz.strings_IndexByte s _ _).mono ?_; rintro e w' ⟨rfl, rfl⟩)
    all_goals (go_ret; exact ⟨ret_bool (by simp [seg]; try omega), rfl⟩)

/-- The place of the first dot from n on, or the text's end. -/
def nd (T : ByteArray) : Nat → Nat → Nat
  | 0, n => n
  | f + 1, n => if n < T.size ∧ byteAt T n ≠ 46 then nd T f (n + 1) else n
def next (T : ByteArray) (n : Nat) : Nat := nd T (T.size - n) n
theorem nd_spec (T : ByteArray) : ∀ f n, n ≤ T.size → T.size ≤ n + f → n ≤ nd T f n ∧ nd T f n ≤ T.size ∧ (∀ i, n ≤ i → i < nd T f n → byteAt T i ≠ 46) ∧ (nd T f n = T.size ∨ byteAt T (nd T f n) = 46)
  | 0, n, h1, h2 => by simp only [nd]; exact ⟨Nat.le_refl _, h1, fun i a b => by omega, .inl (by omega)⟩
  | f + 1, n, h1, h2 => by
    unfold nd
    by_cases h : n < T.size ∧ byteAt T n ≠ 46
    · rw [if_pos h]
      obtain ⟨a, b, c, d⟩ := nd_spec T f (n + 1) (by omega) (by omega)
      refine ⟨by omega, b, fun i hi hl => ?_, d⟩
      by_cases e : i = n
      · subst e; exact h.2
      · exact c i (by omega) hl
    · rw [if_neg h]
      refine ⟨Nat.le_refl _, h1, fun i a b => by omega, ?_⟩
      by_cases e : n < T.size
      · right
        by_cases e2 : byteAt T n = 46
        · exact e2
        · exact absurd ⟨e, e2⟩ h
      · exact .inl (by omega)
theorem next_spec {T : ByteArray} {n : Nat} (h : n ≤ T.size) : n ≤ next T n ∧ next T n ≤ T.size ∧ (∀ i, n ≤ i → i < next T n → byteAt T i ≠ 46) ∧ (next T n = T.size ∨ byteAt T (next T n) = 46) := nd_spec T _ n h (by omega)
theorem next_eq {T : ByteArray} {n k : Nat} (h1 : n ≤ k) (h2 : k ≤ T.size) (h3 : ∀ i, n ≤ i → i < k → byteAt T i ≠ 46) (h4 : k = T.size ∨ byteAt T k = 46) : next T n = k := by
  obtain ⟨a, b, c, d⟩ := next_spec (T := T) (n := n) (by omega)
  rcases Nat.lt_trichotomy (next T n) k with h | h | h
  · rcases d with d | d
    · omega
    · exact absurd d (h3 _ a h)
  · exact h
  · rcases h4 with h4 | h4
    · omega
    · exact absurd h4 (c k h1 h)
theorem byteAt_extract {T : ByteArray} {n i : Nat} (h : n + i < T.size) : byteAt (T.extract n T.size) i = byteAt T (n + i) := by
  have h1 : i < (T.extract n T.size).size := by simp [ByteArray.size_extract]; omega
  rw [← byteAt_eq h1, ← byteAt_eq h, ByteArray.getElem_extract]

set_option maxHeartbeats 1000000 in
/-- A text cut at its first dot. -/
theorem litecut_any (s : ByteArray) (hs : s.size ≤ 9223372036854775806) (w : World) : Calls Tryz.prog 179 #[.string s, .string ⟨#[46]⟩] w fun e w' =>
    e = .returned (.tuple #[.string (s.extract 0 (next s 0)), .string (s.extract (next s 0 + 1) s.size), .bool (decide (next s 0 < s.size))]) ∧ ∃ q, w' = w.drewN q := by
  have hge := Lib.indexByte_ge s.data.toList 46
  by_cases h : Lib.indexByte s.data.toList 46 = -1
  · have hn : next s 0 = s.size := next_eq (Nat.zero_le _) (Nat.le_refl _) (fun i _ hi => dot_none h i hi) (.inl rfl)
    have e1 : s.extract 0 s.size = s := by simp
    have e2 : s.extract (s.size + 1) s.size = ⟨#[]⟩ := by
      exact ByteArray.ext (Array.eq_empty_of_size_eq_zero (show (s.extract (s.size + 1) s.size).size = 0 by simp))
    rw [hn, e1, e2, show decide (s.size < s.size) = false by simp]
    clear hn e1 e2
    go_enter Tryz.func179, Tryz.ntmps179
    go_wp2_with (go_at_call 209; refine (Tryz.stringslite_Index_one s _ _).mono ?_; rintro e w' ⟨rfl, rfl⟩)
    go_ret3
    exact ⟨rfl, 0, rfl⟩
  · obtain ⟨o, ho⟩ := Int.eq_ofNat_of_zero_le (show 0 ≤ Lib.indexByte s.data.toList 46 by omega)
    obtain ⟨h1, h2, h3⟩ := dot_some ho
    have hn : next s 0 = o := next_eq (Nat.zero_le _) (by omega) (fun i _ hi => h3 i hi) (.inr h2)
    rw [hn]
    clear hn h hge h2 h3
    have hd : decide (o < s.size) = true := by simpa using h1
    rw [hd]
    go_enter Tryz.func179, Tryz.ntmps179
    go_wp2_with (go_at_call 209; refine (Tryz.stringslite_Index_one s _ _).mono ?_; rintro e w' ⟨rfl, rfl⟩)
    go_region
    go_wp2
    go_ret3
    exact ⟨by simp, 1, rfl⟩

set_option maxHeartbeats 1000000 in
theorem cut_any (s : ByteArray) (hs : s.size ≤ 9223372036854775806) (w : World) : Calls Tryz.prog 131 #[.string s, .string ⟨#[46]⟩] w fun e w' =>
    e = .returned (.tuple #[.string (s.extract 0 (next s 0)), .string (s.extract (next s 0 + 1) s.size), .bool (decide (next s 0 < s.size))]) ∧ ∃ q, w' = w.drewN q := by
  go_enter Tryz.func131, Tryz.ntmps131
  go_wp2_with (go_at_call 179; refine (litecut_any s hs _).mono ?_; rintro e w' ⟨rfl, q, rfl⟩)
  go_ret3
  exact ⟨rfl, q, rfl⟩
set_option maxHeartbeats 1000000 in
theorem clone_any (s : ByteArray) (hs : s.size ≤ 281474976710656) (w : World) : Calls Tryz.prog 26 #[.string s] w fun e w' => e = .returned (.string s) ∧ Below w.heap.size w w' := by
  go_enter Tryz.func26, Tryz.ntmps26
  go_wp2_with (go_at_call 58; refine (Tryz.stringslite_Clone s _ hs).mono ?_; rintro e w' ⟨rfl, hb⟩)
  go_ret
  exact ⟨rfl, hb⟩
/-- The rest of T from n on, cut at its first dot: in T's own places. -/
theorem next_rest {T : ByteArray} {n : Nat} (h : n ≤ T.size) : next (T.extract n T.size) 0 = next T n - n := by
  obtain ⟨a, b, c, d⟩ := next_spec h
  have hsz : (T.extract n T.size).size = T.size - n := by simp [ByteArray.size_extract]
  refine next_eq (Nat.zero_le _) (by omega) (fun i _ hi => ?_) ?_
  · rw [byteAt_extract (by omega)]; exact c _ (by omega) (by omega)
  · rcases d with d | d
    · exact .inl (by omega)
    · by_cases e : next T n = T.size
      · exact .inl (by omega)
      · right
        rw [byteAt_extract (by omega), show n + (next T n - n) = next T n by omega]
        exact d
theorem rest_cut {T : ByteArray} {n : Nat} (h : n ≤ T.size) : (T.extract n T.size).extract 0 (next T n - n) = T.extract n (next T n) := by
  obtain ⟨a, b, _, _⟩ := next_spec h
  rw [ByteArray.extract_extract]
  congr 1
  omega
theorem rest_more {T : ByteArray} {n : Nat} (h : n ≤ T.size) : (T.extract n T.size).extract (next T n - n + 1) (T.extract n T.size).size = T.extract (next T n + 1) T.size := by
  obtain ⟨a, b, _, _⟩ := next_spec h
  rw [ByteArray.extract_extract, ByteArray.size_extract]
  congr 1
  all_goals omega
theorem rest_found {T : ByteArray} {n : Nat} (h : n ≤ T.size) : decide (next T n - n < (T.extract n T.size).size) = decide (next T n < T.size) := by
  obtain ⟨a, b, _, _⟩ := next_spec h
  rw [ByteArray.size_extract]
  rw [decide_eq_decide]
  omega
theorem cut_at (T : ByteArray) (n : Nat) (hn : n ≤ T.size) (hT : T.size ≤ 9223372036854775806) (w : World) : Calls Tryz.prog 131 #[.string (T.extract n T.size), .string ⟨#[46]⟩] w fun e w' =>
    e = .returned (.tuple #[.string (T.extract n (next T n)), .string (T.extract (next T n + 1) T.size), .bool (decide (next T n < T.size))]) ∧ ∃ q, w' = w.drewN q := by
  have := cut_any (T.extract n T.size) (by rw [ByteArray.size_extract]; omega) w
  rw [next_rest hn, rest_cut hn, rest_more hn, rest_found hn] at this
  exact this
end Go.Proofs.YthgnkhpomhcdkaaGreatDoor.Dp
