import Derived.Test.YtmlbofbnklmedaaA3
import Derived.Test.YtmlbofbnklmedaaShelf
import Derived.Lib.IndexLaws
import Derived.Deep.AppendLies
import Derived.Maps.AppendAt
import Derived.OwnWalk
import Derived.Deep.AppendSrc
/-! Segments as the program asks for them; where the next dot stands; strings.Cut at a dot, strings.Clone. -/
namespace Go.Proofs.Ytmlbofbnklmedaa
open Go Go.RowKit

theorem toList_at {s : ByteArray} {j : Nat} (hj : j < s.size) : s.data.toList[j]? = some (byteAt s j) := by
  rw [Array.getElem?_toList, ← byteAt_eq hj]
  exact Array.getElem?_eq_getElem (xs := s.data) hj
theorem dot_none {s : ByteArray} (h : Lib.indexByte s.data.toList 46 = -1) : ∀ j, j < s.size → byteAt s j ≠ 46 := fun j hj e =>
  Lib.indexByte_none h j (by rw [toList_at hj, e])
theorem dot_some {s : ByteArray} {o : Nat} (h : Lib.indexByte s.data.toList 46 = o) : o < s.size ∧ byteAt s o = 46 ∧ ∀ j, j < o → byteAt s j ≠ 46 := by
  obtain ⟨h1, h2⟩ := Lib.indexByte_some h
  have hlt : o < s.size := by
    have := (List.getElem?_eq_some_iff.1 h1).1
    simpa using this
  rw [toList_at hlt] at h1
  exact ⟨hlt, by simpa using h1, fun j hj e => h2 j hj (by rw [toList_at (by omega), e])⟩
theorem dot_lt (s : ByteArray) : decide (Lib.indexByte s.data.toList 46 < 0) = noDot s := by
  have hge := Lib.indexByte_ge s.data.toList 46
  by_cases h : Lib.indexByte s.data.toList 46 = -1
  · rw [noDot_true (dot_none h), h]; rfl
  · obtain ⟨o, ho⟩ := Int.eq_ofNat_of_zero_le (show 0 ≤ Lib.indexByte s.data.toList 46 by omega)
    obtain ⟨h1, h2, _⟩ := dot_some ho
    rw [noDot_false h1 h2, ho]; simp

set_option maxHeartbeats 1000000 in
theorem isSegment_any (s : ByteArray) (w : World) : Calls Try.prog 41 #[.string s] w fun e w' => e = .returned (.bool (seg s)) ∧ w' = w := by
  have hdot : Hid (decide (Lib.indexByte s.data.toList 46 < 0) = noDot s) := dot_lt s
  by_cases h1 : 1 ≤ s.size
  · have e0 := byteAt_eq (show 0 < s.size by omega)
    have hc := u8_beq (byteAt s 0) 36
    rw [show ((36 : UInt8).toNat : Int) = 36 from rfl] at hc
    by_cases h64 : s.size ≤ 64
    all_goals
     go_enter Try.func41, Try.ntmps41
     go_wp2_with (go_at_call 59; refine (Try.strings_IndexByte s _ _).mono ?_; rintro e w' ⟨rfl, rfl⟩)
     all_goals (go_ret; exact ⟨ret_bool (by
      have hd := hdot.out
      clear hdot
      simp [seg, bne, ← hc, ← hd, h1, h64]; try simp [*]; try omega), rfl⟩)
  · go_enter Try.func41, Try.ntmps41
    go_wp2_with (go_at_call 59; refine (Try.strings_IndexByte s _ _).mono ?_; rintro e w' ⟨rfl, rfl⟩)
    all_goals (go_ret; exact ⟨ret_bool (by simp [seg]; try omega), rfl⟩)

/-- The place of the first dot from n on, or the text's end. -/
def nd (T : ByteArray) : Nat → Nat → Nat
  | 0, n => n
  | f + 1, n => if n < T.size ∧ byteAt T n ≠ 46 then nd T f (n + 1) else n
def next (T : ByteArray) (n : Nat) : Nat := nd T (T.size - n) n
theorem nd_spec (T : ByteArray) : ∀ f n, n ≤ T.size → T.size ≤ n + f → n ≤ nd T f n ∧ nd T f n ≤ T.size ∧ (∀ i, n ≤ i → i < nd T f n → byteAt T i ≠ 46) ∧ (nd T f n = T.size ∨ byteAt T (nd T f n) = 46)
  | 0, n, h1, h2 => by simp only [nd]; exact ⟨Nat.le_refl _, h1, fun i a b => by omega, .inl (by omega)⟩
  | f + 1, n, h1, h2 => by
    unfold nd
    by_cases h : n < T.size ∧ byteAt T n ≠ 46
    · rw [if_pos h]
      obtain ⟨a, b, c, d⟩ := nd_spec T f (n + 1) (by omega) (by omega)
      refine ⟨by omega, b, fun i hi hl => ?_, d⟩
      by_cases e : i = n
      · subst e; exact h.2
      · exact c i (by omega) hl
    · rw [if_neg h]
      refine ⟨Nat.le_refl _, h1, fun i a b => by omega, ?_⟩
      by_cases e : n < T.size
      · right
        by_cases e2 : byteAt T n = 46
        · exact e2
        · exact absurd ⟨e, e2⟩ h
      · exact .inl (by omega)
theorem next_spec {T : ByteArray} {n : Nat} (h : n ≤ T.size) : n ≤ next T n ∧ next T n ≤ T.size ∧ (∀ i, n ≤ i → i < next T n → byteAt T i ≠ 46) ∧ (next T n = T.size ∨ byteAt T (next T n) = 46) := nd_spec T _ n h (by omega)
theorem next_eq {T : ByteArray} {n k : Nat} (h1 : n ≤ k) (h2 : k ≤ T.size) (h3 : ∀ i, n ≤ i → i < k → byteAt T i ≠ 46) (h4 : k = T.size ∨ byteAt T k = 46) : next T n = k := by
  obtain ⟨a, b, c, d⟩ := next_spec (T := T) (n := n) (by omega)
  rcases Nat.lt_trichotomy (next T n) k with h | h | h
  · rcases d with d | d
    · omega
    · exact absurd d (h3 _ a h)
  · exact h
  · rcases h4 with h4 | h4
    · omega
    · exact absurd h4 (c k h1 h)
theorem byteAt_extract {T : ByteArray} {n i : Nat} (h : n + i < T.size) : byteAt (T.extract n T.size) i = byteAt T (n + i) := by
  have h1 : i < (T.extract n T.size).size := by simp [ByteArray.size_extract]; omega
  rw [← byteAt_eq h1, ← byteAt_eq h, ByteArray.getElem_extract]

set_option maxHeartbeats 1000000 in
/-- A text cut at its first dot. -/
theorem litecut_any (s : ByteArray) (hs : s.size ≤ 9223372036854775806) (w : World) : Calls Try.prog 58 #[.string s, .string ⟨#[46]⟩] w fun e w' =>
    e = .returned (.tuple #[.string (s.extract 0 (next s 0)), .string (s.extract (next s 0 + 1) s.size), .bool (decide (next s 0 < s.size))]) ∧ ∃ q, w' = w.drewN q := by
  have hge := Lib.indexByte_ge s.data.toList 46
  by_cases h : Lib.indexByte s.data.toList 46 = -1
  · have hn : next s 0 = s.size := next_eq (Nat.zero_le _) (Nat.le_refl _) (fun i _ hi => dot_none h i hi) (.inl rfl)
    have e1 : s.extract 0 s.size = s := by simp
    have e2 : s.extract (s.size + 1) s.size = ⟨#[]⟩ := by
      exact ByteArray.ext (Array.eq_empty_of_size_eq_zero (show (s.extract (s.size + 1) s.size).size = 0 by simp))
    rw [hn, e1, e2, show decide (s.size < s.size) = false by simp]
    clear hn e1 e2
    go_enter Try.func58, Try.ntmps58
    go_wp2_with (go_at_call 68; refine (Try.stringslite_Index_one s _ _).mono ?_; rintro e w' ⟨rfl, rfl⟩)
    go_ret3
    exact ⟨rfl, 0, rfl⟩
  · obtain ⟨o, ho⟩ := Int.eq_ofNat_of_zero_le (show 0 ≤ Lib.indexByte s.data.toList 46 by omega)
    obtain ⟨h1, h2, h3⟩ := dot_some ho
    have hn : next s 0 = o := next_eq (Nat.zero_le _) (by omega) (fun i _ hi => h3 i hi) (.inr h2)
    rw [hn]
    clear hn h hge h2 h3
    have hd : decide (o < s.size) = true := by simpa using h1
    rw [hd]
    go_enter Try.func58, Try.ntmps58
    go_wp2_with (go_at_call 68; refine (Try.stringslite_Index_one s _ _).mono ?_; rintro e w' ⟨rfl, rfl⟩)
    go_region
    go_wp2
    go_ret3
    exact ⟨by simp, 1, rfl⟩

set_option maxHeartbeats 1000000 in
theorem cut_any (s : ByteArray) (hs : s.size ≤ 9223372036854775806) (w : World) : Calls Try.prog 40 #[.string s, .string ⟨#[46]⟩] w fun e w' =>
    e = .returned (.tuple #[.string (s.extract 0 (next s 0)), .string (s.extract (next s 0 + 1) s.size), .bool (decide (next s 0 < s.size))]) ∧ ∃ q, w' = w.drewN q := by
  go_enter Try.func40, Try.ntmps40
  go_wp2_with (go_at_call 58; refine (litecut_any s hs _).mono ?_; rintro e w' ⟨rfl, q, rfl⟩)
  go_ret3
  exact ⟨rfl, q, rfl⟩
set_option maxHeartbeats 1000000 in
theorem clone_any (s : ByteArray) (hs : s.size ≤ 281474976710656) (w : World) : Calls Try.prog 42 #[.string s] w fun e w' => e = .returned (.string s) ∧ Below w.heap.size w w' := by
  go_enter Try.func42, Try.ntmps42
  go_wp2_with (go_at_call 60; refine (Try.stringslite_Clone s _ hs).mono ?_; rintro e w' ⟨rfl, hb⟩)
  go_ret
  exact ⟨rfl, hb⟩
/-- The rest of T from n on, cut at its first dot: in T's own places. -/
theorem next_rest {T : ByteArray} {n : Nat} (h : n ≤ T.size) : next (T.extract n T.size) 0 = next T n - n := by
  obtain ⟨a, b, c, d⟩ := next_spec h
  have hsz : (T.extract n T.size).size = T.size - n := by simp [ByteArray.size_extract]
  refine next_eq (Nat.zero_le _) (by omega) (fun i _ hi => ?_) ?_
  · rw [byteAt_extract (by omega)]; exact c _ (by omega) (by omega)
  · rcases d with d | d
    · exact .inl (by omega)
    · by_cases e : next T n = T.size
      · exact .inl (by omega)
      · right
        rw [byteAt_extract (by omega), show n + (next T n - n) = next T n by omega]
        exact d
theorem rest_cut {T : ByteArray} {n : Nat} (h : n ≤ T.size) : (T.extract n T.size).extract 0 (next T n - n) = T.extract n (next T n) := by
  obtain ⟨a, b, _, _⟩ := next_spec h
  rw [ByteArray.extract_extract]
  congr 1
  omega
theorem rest_more {T : ByteArray} {n : Nat} (h : n ≤ T.size) : (T.extract n T.size).extract (next T n - n + 1) (T.extract n T.size).size = T.extract (next T n + 1) T.size := by
  obtain ⟨a, b, _, _⟩ := next_spec h
  rw [ByteArray.extract_extract, ByteArray.size_extract]
  congr 1
  all_goals omega
theorem rest_found {T : ByteArray} {n : Nat} (h : n ≤ T.size) : decide (next T n - n < (T.extract n T.size).size) = decide (next T n < T.size) := by
  obtain ⟨a, b, _, _⟩ := next_spec h
  rw [ByteArray.size_extract]
  rw [decide_eq_decide]
  omega
theorem cut_at (T : ByteArray) (n : Nat) (hn : n ≤ T.size) (hT : T.size ≤ 9223372036854775806) (w : World) : Calls Try.prog 40 #[.string (T.extract n T.size), .string ⟨#[46]⟩] w fun e w' =>
    e = .returned (.tuple #[.string (T.extract n (next T n)), .string (T.extract (next T n + 1) T.size), .bool (decide (next T n < T.size))]) ∧ ∃ q, w' = w.drewN q := by
  have := cut_any (T.extract n T.size) (by rw [ByteArray.size_extract]; omega) w
  rw [next_rest hn, rest_cut hn, rest_more hn, rest_found hn] at this
  exact this
end Go.Proofs.Ytmlbofbnklmedaa
/-! Parse: the plain function; both programs' walks. -/
namespace Go.Proofs.Ytmlbofbnklmedaa
open Go Go.RowKit

def strs (l : List ByteArray) : List Value := l.map Value.string
theorem strs_length (l : List ByteArray) : (strs l).length = l.length := by simp [strs]
theorem strs_snoc (l : List ByteArray) (s : ByteArray) : strs (l ++ [s]) = strs l ++ [.string s] := by simp [strs]
theorem ownsRow_keep {w w' : World} {lo : Nat} {e : TypeId} {size : Nat} {v : Value} {n : Nat} {xs : List Value} (h : w.ownsRow lo e size v n xs) (hk : ∀ g, v.ownBlock = some g → w'.heap[g]? = w.heap[g]?) : w'.ownsRow lo e size v n xs := by
  obtain ⟨h1, h2⟩ := h
  refine ⟨h1, ?_⟩
  rcases h2 with h2 | ⟨g, cap, cur, rfl, hg, hh, r⟩
  · exact Or.inl h2
  · exact Or.inr ⟨g, cap, cur, rfl, hg, by rw [hk g rfl]; exact hh, r⟩
theorem ownsRow_ge {w : World} {lo : Nat} {e : TypeId} {size : Nat} {v : Value} {n : Nat} {xs : List Value} (h : w.ownsRow lo e size v n xs) {g : Nat} (hg : v.ownBlock = some g) : lo ≤ g ∧ g < w.heap.size := by
  rcases h.2 with ⟨rfl, _⟩ | ⟨g', cap, cur, rfl, hg', hh, r⟩
  · cases hg
  · cases hg; exact ⟨hg', (Array.getElem?_eq_some_iff.1 hh).1⟩
theorem ownsRow_below {w w' : World} {lo : Nat} {e : TypeId} {size : Nat} {v : Value} {n : Nat} {xs : List Value} (h : w.ownsRow lo e size v n xs) (hb : Below w.heap.size w w') : w'.ownsRow lo e size v n xs :=
  ownsRow_keep h fun _ hg => hb.block _ (ownsRow_ge h hg).2

/-- What a text is read as, from n on, l having been read: the path, the error, the place. -/
def parseF (T : ByteArray) : Nat → Nat → List ByteArray → List ByteArray × Nat × Nat
  | 0, n, _ => ([], 20, n)
  | f + 1, n, l =>
    if l.length = 16 ∨ seg (T.extract n (next T n)) = false then ([], 20, n)
    else if next T n < T.size then parseF T f (next T n + 1) (l ++ [T.extract n (next T n)])
    else (l ++ [T.extract n (next T n)], 0, 0)
def parseR (T : ByteArray) (n : Nat) (l : List ByteArray) : List ByteArray × Nat × Nat := parseF T (T.size + 1 - n) n l
theorem parseF_more (T : ByteArray) : ∀ f g n l, n ≤ T.size → T.size + 1 ≤ n + f → T.size + 1 ≤ n + g → parseF T f n l = parseF T g n l
  | 0, _, n, _, h1, h2, _ => by omega
  | _ + 1, 0, n, _, h1, _, h3 => by omega
  | f + 1, g + 1, n, l, h1, h2, h3 => by
    have hs := next_spec h1
    unfold parseF
    by_cases hc : l.length = 16 ∨ seg (T.extract n (next T n)) = false
    · rw [if_pos hc, if_pos hc]
    · rw [if_neg hc, if_neg hc]
      by_cases hl : next T n < T.size
      · rw [if_pos hl, if_pos hl]; exact parseF_more T f g _ _ (by omega) (by omega) (by omega)
      · rw [if_neg hl, if_neg hl]
theorem parseR_bad {T : ByteArray} {n : Nat} {l : List ByteArray} (hn : n ≤ T.size) (h : l.length = 16 ∨ seg (T.extract n (next T n)) = false) : parseR T n l = ([], 20, n) := by
  unfold parseR
  rw [show T.size + 1 - n = (T.size - n) + 1 by omega]
  unfold parseF
  rw [if_pos h]
theorem parseR_more {T : ByteArray} {n : Nat} {l : List ByteArray} (hn : n ≤ T.size) (h1 : ¬ l.length = 16) (h2 : seg (T.extract n (next T n)) = true) (h : next T n < T.size) :
    parseR T n l = parseR T (next T n + 1) (l ++ [T.extract n (next T n)]) := by
  have hs := next_spec hn
  unfold parseR
  rw [show T.size + 1 - n = (T.size - n) + 1 by omega]
  conv => lhs; unfold parseF
  rw [if_neg (by simp [h1, h2]), if_pos h]
  exact parseF_more T _ _ _ _ (by omega) (by omega) (by omega)
theorem parseR_end {T : ByteArray} {n : Nat} {l : List ByteArray} (hn : n ≤ T.size) (h1 : ¬ l.length = 16) (h2 : seg (T.extract n (next T n)) = true) (h : ¬ next T n < T.size) :
    parseR T n l = (l ++ [T.extract n (next T n)], 0, 0) := by
  unfold parseR
  rw [show T.size + 1 - n = (T.size - n) + 1 by omega]
  unfold parseF
  rw [if_neg (by simp [h1, h2]), if_neg h]
def strLen : Value → Nat
  | .string s => s.size
  | _ => 0
def truth : Value → Nat
  | .bool true => 1
  | _ => 0
/-- What Parse answers: the path lies in memory of its own. -/
def Parsed (w : World) (p : List ByteArray × Nat × Nat) (e : Ending) (w' : World) : Prop :=
  ∃ sl, e = .returned (.tuple #[sl, .int .i64 (p.2.1 : Int), .int .i64 (p.2.2 : Int)]) ∧ w'.ownsRow w.heap.size 9 1 sl p.1.length (strs p.1) ∧ Below w.heap.size w w'
theorem A9 : (Try.prog.info? 9).map (fun i => (i.zero, i.size, i.bytes)) = some (some (.string { data := #[] }), 1, 16) := by kernel_rfl

theorem ownsRow_slice {w : World} {lo : Nat} {e : TypeId} {size : Nat} {v : Value} {n : Nat} {xs : List Value} (h : w.ownsRow lo e size v n xs) : ∃ a c, v = .slice a n c := by
  rcases h.2 with ⟨rfl, rfl, _⟩ | ⟨g, cap, cur, rfl, _⟩
  · exact ⟨none, 0, rfl⟩
  · exact ⟨_, _, rfl⟩
theorem one_string (s : ByteArray) : ∀ u ∈ [Value.string s], u.oneCell' = true := by intro u hu; rw [List.mem_singleton.1 hu]; rfl
theorem grown_below {w w' : World} {b : Option Nat} {B : Nat} (h : w.grownBy w' b) (hB : B ≤ w.heap.size) (hb : ∀ g, b = some g → B ≤ g) : Below B w w' :=
  ⟨h.os, h.tape, h.output, h.size, fun k hk => h.block k (by omega) (fun e => by have := hb k e.symm; omega)⟩
theorem below_drewN {B : Nat} {x w : World} (h : Below B x w) (n : Nat) : Below B x (w.drewN n) := ⟨h.os, h.tape, h.output, h.size, h.block⟩
theorem ownsRow_drewN {w : World} {lo : Nat} {e : TypeId} {size : Nat} {v : Value} {n : Nat} {xs : List Value} (h : w.ownsRow lo e size v n xs) (q : Nat) : (w.drewN q).ownsRow lo e size v n xs := h

set_option maxHeartbeats 2000000 in
set_option maxRecDepth 100000 in
theorem parse_any (T : ByteArray) (hT : T.size ≤ 140737488355328) (w : World) : Calls Try.prog 24 #[.string T] w (Parsed w (parseR T 0 [])) := by
  obtain ⟨i9, hi9, hz90, hz91, hz92⟩ := info_parts A9
  have hfull : T.extract 0 T.size = T := by simp
  go_enter Try.func24, Try.ntmps24
  go_wp2
  go_loopw [5, 6, 7] (fun p r m wr => ∃ l : List ByteArray, wr.ownsRow w.heap.size 9 1 p l.length (strs l) ∧ l.length ≤ 16 ∧ Below w.heap.size w wr ∧
      ((∃ n, n ≤ T.size ∧ r = .string (T.extract n T.size) ∧ m = .bool true ∧ Hid (parseR T 0 [] = parseR T n l)) ∨ (∃ r0, r = .string r0 ∧ m = .bool false ∧ Hid (parseR T 0 [] = (l, 0, 0))))) (fun _ r m _ => strLen r + truth m)
  case atStart => exact ⟨[], World.ownsRow_nil _ _ _ _, by simp, Below.refl _ _, .inl ⟨0, Nat.zero_le _, by rw [hfull], rfl, rfl⟩⟩
  case round =>
    obtain ⟨l, hown, hl, hbel, ⟨n, hn, rfl, rfl, hP⟩ | ⟨r0, rfl, rfl, hP⟩⟩ := hrel
    · clear hfull
      obtain ⟨a5, c5, rfl⟩ := ownsRow_slice hown
      have hns := next_spec hn
      obtain ⟨hk1, hk2, -, -⟩ := hns
      have hbad : Hid (l.length = 16 ∨ seg (T.extract n (next T n)) = false → parseR T n l = ([], 20, n)) := fun h => parseR_bad hn h
      have hmore : Hid (¬ l.length = 16 → seg (T.extract n (next T n)) = true → next T n < T.size → parseR T n l = parseR T (next T n + 1) (l ++ [T.extract n (next T n)])) := fun h1 h2 h3 => parseR_more hn h1 h2 h3
      have hend : Hid (¬ l.length = 16 → seg (T.extract n (next T n)) = true → ¬ next T n < T.size → parseR T n l = (l ++ [T.extract n (next T n)], 0, 0)) := fun h1 h2 h3 => parseR_end hn h1 h2 h3
      have hszs : (T.extract n (next T n)).size ≤ 281474976710656 := by rw [ByteArray.size_extract]; omega
      have hrest : (T.extract (next T n + 1) T.size).size < T.size - n + 1 := by rw [ByteArray.size_extract]; omega
      have hrest2 : next T n < T.size → (T.extract (next T n + 1) T.size).size < T.size - n := by rw [ByteArray.size_extract]; omega
      have hsn : (T.extract n T.size).size = T.size - n := by rw [ByteArray.size_extract]; omega
      have hcut := fun w => cut_at T n hn (by omega) w
      generalize next T n = k at *
      generalize hsg : T.extract n k = sg at *
      go_wp2_with fail
      refine (hcut _).mono ?_
      rintro e w1 ⟨rfl, q, rfl⟩
      clear hcut
      by_cases h16 : l.length = 16
      · have hd : ((l.length : Int) == 16) = true := by simp; omega
        go_wp2_with fail
        go_ret3
        refine ⟨.slice none 0 0, ?_, ?_, ?_⟩
        · rw [hP.out, hbad.out (.inl h16)]
          simp; omega
        · rw [hP.out, hbad.out (.inl h16)]; exact World.ownsRow_nil _ _ _ _
        · exact below_drewN hbel q
      · have hd : ((l.length : Int) == 16) = false := by simp; omega
        go_wp2_with fail
        refine (isSegment_any sg _).mono ?_
        rintro e w2 ⟨rfl, rfl⟩
        cases hs : seg sg
        · go_wp2_with fail
          go_ret3
          refine ⟨.slice none 0 0, ?_, ?_, ?_⟩
          · rw [hP.out, hbad.out (.inr hs)]
            simp; omega
          · rw [hP.out, hbad.out (.inr hs)]; exact World.ownsRow_nil _ _ _ _
          · exact below_drewN hbel q
        · go_wp2_with fail
          refine (clone_any sg hszs _).mono ?_
          rintro e w3 ⟨rfl, hb3⟩
          have hbel3 : Below w.heap.size w w3 := (below_drewN hbel q).trans (hb3.mono hbel.size)
          have hown3 : w3.ownsRow w.heap.size 9 1 (Value.slice a5 l.length c5) l.length (strs l) := ownsRow_below (ownsRow_drewN hown q) hb3
          go_wp2_with (at_builtin; refine wpList_append_lies _ rfl _ _ 22 rfl w.heap.size 9 i9 _ 1 16 Try.underlying22 hi9 hz90 hz91 hz92 rfl (by decide) _ l.length (strs l) rfl (hown3.alloc _) _ 1 1 [.string sg] rfl rfl (World.news_of_block (heap_alloc_new w3 _)) (one_string sg) (by decide) (by unfold maxLen; omega) (by omega) (by have := hbel3.size; simp only [World.size_alloc]; omega) _ rfl ?_; intro g cap w4 hown4 hgrow4 hat4 hlt4)
          have hbel4 : Below w.heap.size w w4 := (hbel3.alloc (by have := hbel3.size; omega) _).trans (grown_below hgrow4 (by have := hbel3.size; simp; omega) (fun g hg => (ownsRow_ge hown hg).1))
          go_roundw
          case rel =>
            refine ⟨l ++ [sg], by simpa [strs_snoc] using hown4, by simp; omega, hbel4, ?_⟩
            by_cases hf : k < T.size
            · exact .inl ⟨k + 1, by omega, rfl, by simpa using hf, hP.out.trans (hmore.out h16 hs hf)⟩
            · exact .inr ⟨_, rfl, by simpa using hf, hP.out.trans (hend.out h16 hs hf)⟩
          case measure =>
            by_cases hf : k < T.size
            · have := hrest2 hf
              simp [strLen, truth, hf]; omega
            · simp [strLen, truth, hf]; omega
    · obtain ⟨a5, c5, rfl⟩ := ownsRow_slice hown
      go_wp2_with fail
      go_ret3
      rw [hP.out]
      exact ⟨_, rfl, hown, hbel⟩
end Go.Proofs.Ytmlbofbnklmedaa
/-! Lists of texts: texts, Path. -/
namespace Go.Proofs.Ytmlbofbnklmedaa
open Go Go.RowKit
/-- The slice v reads as the texts l. -/
def Reads (w : World) (v : Value) (l : List ByteArray) : Prop :=
  ∃ a c, v = .slice a l.length c ∧ (l.length ≤ c ∧ c ≤ 9223372036854775807) ∧ (l = [] ∨ ∃ b o, a = some ⟨b, o, none⟩ ∧ b < w.heap.size ∧ ∀ j s, l[j]? = some s → w.cell? ⟨b, o + j, none⟩ = some (.string s))
theorem Reads.keep {w w' : World} {v : Value} {l : List ByteArray} (h : Reads w v l) (hb : Below w.heap.size w w') : Reads w' v l := by
  obtain ⟨a, c, rfl, hc, h | ⟨b, o, rfl, hlt, h⟩⟩ := h
  · exact ⟨a, c, rfl, hc, .inl h⟩
  · exact ⟨_, c, rfl, hc, .inr ⟨b, o, rfl, Nat.lt_of_lt_of_le hlt hb.size, fun j s hj => (hb.cell (p := ⟨b, o + j, none⟩) hlt).trans (h j s hj)⟩⟩
theorem Reads.len {w : World} {v : Value} {l : List ByteArray} (h : Reads w v l) : l.length ≤ 9223372036854775807 := by
  obtain ⟨_, _, _, hc, _⟩ := h
  omega
theorem Reads.drewN {w : World} {v : Value} {l : List ByteArray} (h : Reads w v l) (q : Nat) : Reads (w.drewN q) v l := h
theorem reads_row {w : World} {g cap : Nat} {cur : Array Value} {t : TypeId} {f : Nat × Nat} {l r : List ByteArray} (hh : w.heap[g]? = some (.cells cur t f)) (hl : l.length ≤ cap ∧ cap ≤ 9223372036854775807) (hr : cur.toList.take (l ++ r).length = strs (l ++ r)) : Reads w (.slice (some ⟨g, 0, none⟩) l.length cap) l := by
  refine ⟨_, cap, rfl, hl, .inr ⟨g, 0, rfl, (Array.getElem?_eq_some_iff.1 hh).1, fun j s hj => ?_⟩⟩
  have hlt : j < l.length := (List.getElem?_eq_some_iff.1 hj).1
  have : (strs (l ++ r))[j]? = some (.string s) := by
    unfold strs; rw [List.getElem?_map, List.getElem?_append_left hlt, hj]; rfl
  rw [← hr, List.getElem?_take_of_lt (by simp; omega), Array.getElem?_toList] at this
  simp [World.cell?, hh, this]
theorem reads_own {w : World} {lo : Nat} {v : Value} {l : List ByteArray} (h : w.ownsRow lo 9 1 v l.length (strs l)) : Reads w v l := by
  obtain ⟨h1, h2⟩ := h
  rcases h2 with ⟨hv, h0⟩ | ⟨g, cap, cur, rfl, hg, hh, hc, hm, hs, hr⟩
  · have : l = [] := List.eq_nil_of_length_eq_zero h0
    subst this
    subst hv
    exact ⟨none, 0, rfl, ⟨Nat.le_refl _, by omega⟩, .inl rfl⟩
  · exact reads_row (r := []) hh ⟨hc, by unfold maxLen at hm; omega⟩ (by simpa using hr)
/-- The same texts. -/
def same (a b : List ByteArray) : Bool := decide (a = b)
theorem same_false_len {a b : List ByteArray} (h : a.length ≠ b.length) : same a b = false := by
  unfold same; simp; intro e; exact h (by rw [e])
theorem same_true {a b : List ByteArray} (hl : a.length = b.length) (h : ∀ j, j < a.length → a[j]? = b[j]?) : same a b = true := by
  unfold same
  rw [decide_eq_true_eq]
  apply List.ext_getElem? 
  intro j
  by_cases hj : j < a.length
  · exact h j hj
  · rw [List.getElem?_eq_none (by omega), List.getElem?_eq_none (by omega)]
theorem same_false_at {a b : List ByteArray} {j : Nat} (h : a[j]? ≠ b[j]?) : same a b = false := by
  unfold same; simp; intro e; exact h (by rw [e])
set_option maxHeartbeats 2000000 in
set_option maxRecDepth 100000 in
theorem texts_any (va vb : Value) (a b : List ByteArray) (w : World) (hA : Reads w va a) (hB : Reads w vb b) (hla : a.length ≤ 9223372036854775806) (hlb : b.length ≤ 9223372036854775806) :
    Calls Try.prog 39 #[va, vb] w fun e w' => e = .returned (.bool (same a b)) ∧ ∃ q, w' = w.drewN q := by
  obtain ⟨aa, ca, rfl, hca, hA⟩ := hA
  obtain ⟨ab, cb, rfl, hcb, hB⟩ := hB
  by_cases hlen : a.length = b.length
  · have hd : (((a.length : Nat) : Int) == (b.length : Int)) = true := by simp; omega
    replace hlen : Hid (a.length = b.length) := hlen
    go_enter Try.func39, Try.ntmps39
    go_wp2
    go_loopw [5] (fun i wr => ∃ q m : Nat, q ≤ a.length ∧ i = .int .i64 q ∧ wr = w.drewN m ∧ Hid (∀ j, j < q → a[j]? = b[j]?)) (fun i _ => a.length - (intOf i).toNat)
    case atStart => exact ⟨0, 0, Nat.zero_le _, rfl, rfl, fun j h => by omega⟩
    case round =>
      obtain ⟨q, m, hq, rfl, rfl, hS⟩ := hrel
      by_cases hlt : q < a.length
      · have hd2 : decide ((q : Int) < (a.length : Int)) = true := by simp; omega
        rcases hA with rfl | ⟨b1, o1, rfl, hb1, hA⟩
        · simp at hlt
        rcases hB with rfl | ⟨b2, o2, rfl, hb2, hB⟩
        · have := hlen.out; simp at this; simp [this] at hlt
        have hlt2 : q < b.length := by have := hlen.out; omega
        obtain ⟨x, hx⟩ : ∃ x, Hid (a[q]? = some x) := ⟨_, List.getElem?_eq_getElem hlt⟩
        obtain ⟨y, hy⟩ : ∃ y, Hid (b[q]? = some y) := ⟨_, List.getElem?_eq_getElem (by have := hlen.out; omega)⟩
        have c1 : w.cell? ⟨b1, o1 + q, none⟩ = some (.string x) := hA q x hx.out
        have c2 : w.cell? ⟨b2, o2 + q, none⟩ = some (.string y) := hB q y hy.out
        clear hA hB
        by_cases e : x = y
        · have he : (x.toList == y.toList) = true := by rw [toList_beq]; simpa using e
          go_wp2
          go_region
          go_wp2
          go_roundw
          case rel => exact ⟨q + 1, m + 1, by omega, by simp, rfl, fun j h => by
            by_cases e2 : j = q
            · subst e2; rw [hx.out, hy.out, e]
            · exact hS.out j (by omega)⟩
          case measure => simp [intOf]; omega
        · have he : (x.toList == y.toList) = false := by rw [toList_beq]; simpa using e
          have hf : Hid (same a b = false) := same_false_at (j := q) (by rw [hx.out, hy.out]; simpa using e)
          go_wp2
          go_region
          go_wp2
          go_ret
          exact ⟨ret_bool hf.out.symm, m + 1, rfl⟩
      · have hd2 : decide ((q : Int) < (a.length : Int)) = false := by simp; omega
        have hf : Hid (same a b = true) := same_true hlen.out (fun j hj => hS.out j (by omega))
        go_wp2
        go_ret
        exact ⟨ret_bool hf.out.symm, m, rfl⟩
  · have hd : (((a.length : Nat) : Int) == (b.length : Int)) = false := by simp; omega
    have hf : Hid (same a b = false) := same_false_len hlen
    go_enter Try.func39, Try.ntmps39
    go_wp2
    go_ret
    exact ⟨ret_bool hf.out.symm, 0, rfl⟩
end Go.Proofs.Ytmlbofbnklmedaa
/-! own, kept, Path. -/
namespace Go.Proofs.Ytmlbofbnklmedaa
open Go Go.RowKit

def xyz : List ByteArray := [⟨#[120]⟩, ⟨#[121]⟩, ⟨#[122]⟩]
def xyzV : List Value := [.string ⟨#[120]⟩, .string ⟨#[121]⟩, .string ⟨#[122]⟩]
theorem xyz1 : ∀ u ∈ xyzV, u.oneCell' = true := by decide
theorem strs1 (l : List ByteArray) : ∀ u ∈ strs l, u.oneCell' = true := by
  intro u hu
  obtain ⟨s, _, rfl⟩ := List.mem_map.1 hu
  rfl
/-- A path in memory of its own, with three texts behind its end. -/
def Owned (w : World) (l : List ByteArray) (v : Value) (w' : World) : Prop :=
  ∃ g cap, v = .slice (some ⟨g, 0, none⟩) l.length cap ∧ w'.ownsRow w.heap.size 9 1 (.slice (some ⟨g, 0, none⟩) (l.length + 3) cap) (l.length + 3) (strs (l ++ xyz))
theorem owns_empty (w : World) : (w.alloc (.cells #[] 9)).ownsRow w.heap.size 9 1 (.slice (some ⟨w.heap.size, 0, none⟩) 0 0) 0 [] :=
  ⟨rfl, .inr ⟨w.heap.size, 0, #[], rfl, Nat.le_refl _, heap_alloc_new w _, Nat.le_refl _, Nat.zero_le _, rfl, rfl⟩⟩

theorem ownsRow_cap {w : World} {lo : Nat} {e : TypeId} {size : Nat} {a : Addr} {n cap : Nat} {xs : List Value} (h : w.ownsRow lo e size (.slice (some a) n cap) n xs) : n ≤ cap := by
  rcases h.2 with ⟨hv, _⟩ | ⟨g', cap', cur, hv, hg, hh, hc, _⟩
  · cases hv
  · cases hv; exact hc
theorem new2 (w : World) (o o' : Obj) : ((w.alloc o).alloc o').heap[w.heap.size + 1]? = some o' := by
  have := heap_alloc_new (w.alloc o) o'
  rw [World.size_alloc] at this
  exact this
theorem run_append_none {P : Program} (w : World) (t ty e : TypeId) (i : TypeInfo) (ht : P.underlying t = some (.slice e)) (hi : P.info? e = some i) (g n cap : Nat) (hn : n ≤ cap) (ax : Option Addr) (c : Nat) :
    (Builtin.append_ #[t, t] ty #[.slice (some ⟨g, 0, none⟩) n cap, .slice ax 0 c]).run P w = .ok (.slice (some ⟨g, 0, none⟩) n cap) w := by
  have hs : Src P i.size t (.slice ax 0 c) 0 [] w := by
    cases ax with
    | none => exact Src.ofNil w ht c
    | some a => exact Src.ofSlice w ht a 0 c [] (by simp) (fun j u h => by simp at h) (fun u h => by cases h)
  have := run_append_room_src (P := P) w t t ty e i ht hi g 0 n cap _ 0 [] hs (by omega) (fun j h => by simp at h) (fun j h => by simp at h)
  rw [this]
  rfl
theorem wpList_append_none {P : Program} {w : World} {ops : Array Oper} {rest : List Oper} {o : Oper} {a : Act} {Q : Exit → Act → World → Prop} (hgd : o.guard = none) (s x : Operand) (t : TypeId)
    (ho : o.op = .call { callee := .builtin .append, args := #[s, x], argTypes := #[t, t] }) (e : TypeId) (i : TypeInfo) (ht : P.underlying t = some (.slice e)) (hi : P.info? e = some i)
    (g n cap : Nat) (hn : n ≤ cap) (hs : a.eval s = .slice (some ⟨g, 0, none⟩) n cap) (ax : Option Addr) (c : Nat) (hx : a.eval x = .slice ax 0 c)
    (h : wpList P ops Q rest (a.put o.dst (.slice (some ⟨g, 0, none⟩) n cap)) w) : wpList P ops Q (o :: rest) a w := by
  refine wpList_plain hgd fun K hK => ?_
  have hr := run_append_none (P := P) w t o.type e i ht hi g n cap hn ax c
  unfold Oper.wp execOp
  simp only [ho, resolve, invoke, builtin, Sem.run_bind, Sem.run_pure, Result.andThen_ok, List.map_toArray, List.map_cons, List.map_nil, hs, hx, hr]
  exact hK _ _ h

set_option maxHeartbeats 2000000 in
set_option maxRecDepth 100000 in
theorem own_any (v : Value) (l : List ByteArray) (w : World) (hA : Reads w v l) (hl : l.length * 16 + 48 ≤ 140737488355328) :
    Calls Try.prog 19 #[v] w fun e w' => ∃ v', e = .returned v' ∧ Owned w l v' w' ∧ Below w.heap.size w w' := by
  obtain ⟨i9, hi9, hz90, hz91, hz92⟩ := info_parts A9
  obtain ⟨a, c, rfl, hc, hA⟩ := hA
  have hE := owns_empty w
  have hB0 : Below w.heap.size w (w.alloc (.cells #[] 9)) := (Below.refl _ w).alloc (Nat.le_refl _) _
  by_cases h0 : l = []
  · subst h0
    clear hA
    go_enter Try.func19, Try.ntmps19
    go_wp2_with (at_builtin; first
      | (refine wpList_append_none rfl _ _ 22 rfl 9 i9 Try.underlying22 hi9 w.heap.size 0 0 (Nat.le_refl _) rfl a c rfl ?_)
      | (refine wpList_append_lies _ rfl _ _ 22 rfl w.heap.size 9 i9 _ 1 16 Try.underlying22 hi9 hz90 hz91 hz92 rfl (by decide) _ 0 [] rfl (hE.alloc _) _ 3 3 xyzV rfl rfl (World.news_of_block (new2 w _ _)) xyz1 (by decide) (by unfold maxLen; omega) (by omega) (by simp only [World.size_alloc]; omega) _ rfl ?_; intro g cap w4 hown4 hgrow4 hat4 hlt4))
    go_ret
    refine ⟨_, rfl, ⟨g, cap, rfl, hown4⟩, ?_⟩
    exact (hB0.alloc (by simp) _).trans (grown_below hgrow4 (by simp; omega) (fun g hg => (ownsRow_ge hE hg).1))
  · obtain ⟨b, o, rfl, hb, hA⟩ := hA.resolve_left h0
    have hcells : Hid (∀ j u, (strs l)[j]? = some u → (w.alloc (.cells #[] 9)).cell? ((⟨b, o, none⟩ : Addr).add j) = some u) := fun j u hu => by
      unfold strs at hu
      rw [List.getElem?_map] at hu
      cases hx : l[j]? with
      | none => rw [hx] at hu; cases hu
      | some x =>
        rw [hx] at hu
        cases hu
        have hadd : (⟨b, o, none⟩ : Addr).add j = ⟨b, o + j, none⟩ := by unfold Addr.add; split <;> simp_all
        rw [hadd, hB0.cell (p := ⟨b, o + j, none⟩) hb]
        exact hA j x hx
    have hpos : 0 < l.length := List.length_pos_iff.2 h0
    clear hA h0
    go_enter Try.func19, Try.ntmps19
    go_wp2_with (at_builtin; first
      | (refine wpList_append_lies _ rfl _ _ 22 rfl w.heap.size 9 i9 _ 1 16 Try.underlying22 hi9 hz90 hz91 hz92 rfl (by decide) _ 0 [] rfl hE _ l.length c (strs l) rfl (by rw [strs_length]; omega) hcells.out (strs1 l) hpos (by unfold maxLen; omega) (by omega) (by simp only [World.size_alloc]; omega) _ rfl ?_; intro g cap w4 hown4 hgrow4 hat4 hlt4; simp only [Nat.zero_add, List.nil_append] at hown4; replace hgrow4 : (w.alloc (.cells #[] 9)).grownBy w4 (some w.heap.size) := hgrow4; clear hat4)
      | (refine wpList_append_lies _ rfl _ _ 22 rfl w.heap.size 9 i9 _ 1 16 Try.underlying22 hi9 hz90 hz91 hz92 rfl (by decide) _ l.length (strs l) rfl (hown4.alloc _) _ 3 3 xyzV rfl rfl (World.news_of_block (heap_alloc_new w4 _)) xyz1 (by decide) (by unfold maxLen; omega) (by omega) (by have := hgrow4.size; simp only [World.size_alloc] at *; omega) _ rfl ?_; intro g5 cap5 w5 hown5 hgrow5 hat5 hlt5; have hcap5 : l.length ≤ cap5 := (by have := ownsRow_cap hown5; omega)))
    go_ret
    refine ⟨_, rfl, ⟨g5, cap5, rfl, by simpa [strs, xyz, xyzV] using hown5⟩, ?_⟩
    have hb4 : Below w.heap.size w w4 := hB0.trans (grown_below hgrow4 (by simp) (fun g hg => by cases hg; exact Nat.le_refl _))
    exact (hb4.alloc hb4.size _).trans (grown_below hgrow5 (by have := hb4.size; simp; omega) (fun g hg => (ownsRow_ge hown4 hg).1))

/-- What own laid is still there. -/
theorem Owned.keep {w w' w'' : World} {l : List ByteArray} {v : Value} (h : Owned w l v w') (hb : Below w'.heap.size w' w'') : Owned w l v w'' := by
  obtain ⟨g, cap, rfl, h⟩ := h
  exact ⟨g, cap, rfl, ownsRow_below h hb⟩
theorem Owned.reads {w w' : World} {l : List ByteArray} {v : Value} (h : Owned w l v w') : Reads w' v l := by
  obtain ⟨g, cap, rfl, h1, h2⟩ := h
  rcases h2 with ⟨hv, _⟩ | ⟨g', cap', cur, hv, hg, hh, hc, hm, hs, hr⟩
  · cases hv
  · cases hv
    refine reads_row (r := xyz) hh ⟨by omega, by unfold maxLen at hm; omega⟩ ?_
    rw [show (l ++ xyz).length = (l.length + 3) * 1 by simp [xyz]]
    exact hr
theorem Owned.three {w w' : World} {l : List ByteArray} {v : Value} (h : Owned w l v w') : ∃ g cap, v = .slice (some ⟨g, 0, none⟩) l.length cap ∧ l.length + 3 ≤ cap ∧ cap ≤ maxLen ∧ w'.cell? ⟨g, l.length, none⟩ = some (.string ⟨#[120]⟩) ∧ w'.cell? ⟨g, l.length + 1, none⟩ = some (.string ⟨#[121]⟩) ∧ w'.cell? ⟨g, l.length + 2, none⟩ = some (.string ⟨#[122]⟩) := by
  obtain ⟨g, cap, rfl, h1, h2⟩ := h
  rcases h2 with ⟨hv, _⟩ | ⟨g', cap', cur, hv, hg, hh, hc, hm, hs, hr⟩
  · cases hv
  · cases hv
    have key : ∀ j u, (strs (l ++ xyz))[j]? = some u → w'.cell? ⟨g, j, none⟩ = some u := fun j u hu => by
      have hlt : j < (l.length + 3) * 1 := by
        have := (List.getElem?_eq_some_iff.1 hu).1
        simp [strs, xyz] at this; omega
      rw [← hr, List.getElem?_take_of_lt hlt, Array.getElem?_toList] at hu
      simp [World.cell?, hh, hu]
    exact ⟨g, cap, rfl, hc, hm, key _ _ (by simp [strs, xyz]), key _ _ (by simp [strs, xyz]), key _ _ (by simp [strs, xyz])⟩

set_option maxHeartbeats 2000000 in
set_option maxRecDepth 100000 in
theorem kept_any (w0 : World) (v vp : Value) (l : List ByteArray) (w : World) (hO : Owned w0 l v w) (hP : Reads w vp l) (hl : l.length * 16 + 48 ≤ 140737488355328) :
    Calls Try.prog 22 #[v, vp] w fun e w' => e = .returned (.bool true) ∧ ∃ q, w' = w.drewN q := by
  have hR := hO.reads
  obtain ⟨g, cap, rfl, hc, hm, c0, c1, c2⟩ := hO.three
  have ht := texts_any _ vp l l w hR hP (by omega) (by omega)
  obtain ⟨a, c, rfl, hca, hA⟩ := hP
  clear hA hR hO
  rw [show same l l = true by simp [same]] at ht
  go_enter Try.func22, Try.ntmps22
  go_wp2_with fail
  refine ht.mono ?_
  rintro e w1 ⟨rfl, q, rfl⟩
  clear ht
  go_wp2_with fail
  go_ret
  exact ⟨rfl, q, rfl⟩
def Sized (l : List ByteArray) : Prop := ∀ s ∈ l, s.size ≤ 9223372036854775806
end Go.Proofs.Ytmlbofbnklmedaa
