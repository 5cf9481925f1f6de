import Derived.Test.YthgnkhpomhcdkaaGreatDoorA4
import Derived.Deep.AppendLies
import Derived.Maps.AppendAt
import Derived.OwnWalk
/-! Parse: the plain function; both programs' walks. -/
namespace Go.Proofs.YthgnkhpomhcdkaaGreatDoor.Dp
open Go Go.RowKit

def strs (l : List ByteArray) : List Value := l.map Value.string
theorem strs_length (l : List ByteArray) : (strs l).length = l.length := by simp [strs]
theorem strs_snoc (l : List ByteArray) (s : ByteArray) : strs (l ++ [s]) = strs l ++ [.string s] := by simp [strs]
theorem ownsRow_keep {w w' : World} {lo : Nat} {e : TypeId} {size : Nat} {v : Value} {n : Nat} {xs : List Value} (h : w.ownsRow lo e size v n xs) (hk : ∀ g, v.ownBlock = some g → w'.heap[g]? = w.heap[g]?) : w'.ownsRow lo e size v n xs := by
  obtain ⟨h1, h2⟩ := h
  refine ⟨h1, ?_⟩
  rcases h2 with h2 | ⟨g, cap, cur, rfl, hg, hh, r⟩
  · exact Or.inl h2
  · exact Or.inr ⟨g, cap, cur, rfl, hg, by rw [hk g rfl]; exact hh, r⟩
theorem ownsRow_ge {w : World} {lo : Nat} {e : TypeId} {size : Nat} {v : Value} {n : Nat} {xs : List Value} (h : w.ownsRow lo e size v n xs) {g : Nat} (hg : v.ownBlock = some g) : lo ≤ g ∧ g < w.heap.size := by
  rcases h.2 with ⟨rfl, _⟩ | ⟨g', cap, cur, rfl, hg', hh, r⟩
  · cases hg
  · cases hg; exact ⟨hg', (Array.getElem?_eq_some_iff.1 hh).1⟩
theorem ownsRow_below {w w' : World} {lo : Nat} {e : TypeId} {size : Nat} {v : Value} {n : Nat} {xs : List Value} (h : w.ownsRow lo e size v n xs) (hb : Below w.heap.size w w') : w'.ownsRow lo e size v n xs :=
  ownsRow_keep h fun _ hg => hb.block _ (ownsRow_ge h hg).2

/-- What a text is read as, from n on, l having been read: the path, the error, the place. -/
def parseF (T : ByteArray) : Nat → Nat → List ByteArray → List ByteArray × Nat × Nat
  | 0, n, _ => ([], 20, n)
  | f + 1, n, l =>
    if l.length = 16 ∨ seg (T.extract n (next T n)) = false then ([], 20, n)
    else if next T n < T.size then parseF T f (next T n + 1) (l ++ [T.extract n (next T n)])
    else (l ++ [T.extract n (next T n)], 0, 0)
def parseR (T : ByteArray) (n : Nat) (l : List ByteArray) : List ByteArray × Nat × Nat := parseF T (T.size + 1 - n) n l
theorem parseF_more (T : ByteArray) : ∀ f g n l, n ≤ T.size → T.size + 1 ≤ n + f → T.size + 1 ≤ n + g → parseF T f n l = parseF T g n l
  | 0, _, n, _, h1, h2, _ => by omega
  | _ + 1, 0, n, _, h1, _, h3 => by omega
  | f + 1, g + 1, n, l, h1, h2, h3 => by
    have hs := next_spec h1
    unfold parseF
    by_cases hc : l.length = 16 ∨ seg (T.extract n (next T n)) = false
    · rw [if_pos hc, if_pos hc]
    · rw [if_neg hc, if_neg hc]
      by_cases hl : next T n < T.size
      · rw [if_pos hl, if_pos hl]; exact parseF_more T f g _ _ (by omega) (by omega) (by omega)
      · rw [if_neg hl, if_neg hl]
theorem parseR_bad {T : ByteArray} {n : Nat} {l : List ByteArray} (hn : n ≤ T.size) (h : l.length = 16 ∨ seg (T.extract n (next T n)) = false) : parseR T n l = ([], 20, n) := by
  unfold parseR
  rw [show T.size + 1 - n = (T.size - n) + 1 by omega]
  unfold parseF
  rw [if_pos h]
theorem parseR_more {T : ByteArray} {n : Nat} {l : List ByteArray} (hn : n ≤ T.size) (h1 : ¬ l.length = 16) (h2 : seg (T.extract n (next T n)) = true) (h : next T n < T.size) :
    parseR T n l = parseR T (next T n + 1) (l ++ [T.extract n (next T n)]) := by
  have hs := next_spec hn
  unfold parseR
  rw [show T.size + 1 - n = (T.size - n) + 1 by omega]
  conv => lhs; unfold parseF
  rw [if_neg (by simp [h1, h2]), if_pos h]
  exact parseF_more T _ _ _ _ (by omega) (by omega) (by omega)
theorem parseR_end {T : ByteArray} {n : Nat} {l : List ByteArray} (hn : n ≤ T.size) (h1 : ¬ l.length = 16) (h2 : seg (T.extract n (next T n)) = true) (h : ¬ next T n < T.size) :
    parseR T n l = (l ++ [T.extract n (next T n)], 0, 0) := by
  unfold parseR
  rw [show T.size + 1 - n = (T.size - n) + 1 by omega]
  unfold parseF
  rw [if_neg (by simp [h1, h2]), if_neg h]
def strLen : Value → Nat
  | .string s => s.size
  | _ => 0
def truth : Value → Nat
  | .bool true => 1
  | _ => 0
/-- What Parse answers: the path lies in memory of its own. -/
def Parsed (w : World) (p : List ByteArray × Nat × Nat) (e : Ending) (w' : World) : Prop :=
  ∃ sl, e = .returned (.tuple #[sl, .int .i64 (p.2.1 : Int), .int .i64 (p.2.2 : Int)]) ∧ w'.ownsRow w.heap.size 9 1 sl p.1.length (strs p.1) ∧ Below w.heap.size w w'
theorem A9 : (Tryz.prog.info? 9).map (fun i => (i.zero, i.size, i.bytes)) = some (some (.string { data := #[] }), 1, 16) := by kernel_rfl

theorem ownsRow_slice {w : World} {lo : Nat} {e : TypeId} {size : Nat} {v : Value} {n : Nat} {xs : List Value} (h : w.ownsRow lo e size v n xs) : ∃ a c, v = .slice a n c := by
  rcases h.2 with ⟨rfl, rfl, _⟩ | ⟨g, cap, cur, rfl, _⟩
  · exact ⟨none, 0, rfl⟩
  · exact ⟨_, _, rfl⟩
theorem one_string (s : ByteArray) : ∀ u ∈ [Value.string s], u.oneCell' = true := by intro u hu; rw [List.mem_singleton.1 hu]; rfl
theorem grown_below {w w' : World} {b : Option Nat} {B : Nat} (h : w.grownBy w' b) (hB : B ≤ w.heap.size) (hb : ∀ g, b = some g → B ≤ g) : Below B w w' :=
  ⟨h.os, h.tape, h.output, h.size, fun k hk => h.block k (by omega) (fun e => by have := hb k e.symm; omega)⟩
theorem below_drewN {B : Nat} {x w : World} (h : Below B x w) (n : Nat) : Below B x (w.drewN n) := ⟨h.os, h.tape, h.output, h.size, h.block⟩
theorem ownsRow_drewN {w : World} {lo : Nat} {e : TypeId} {size : Nat} {v : Value} {n : Nat} {xs : List Value} (h : w.ownsRow lo e size v n xs) (q : Nat) : (w.drewN q).ownsRow lo e size v n xs := h

set_option maxHeartbeats 2000000 in
set_option maxRecDepth 100000 in
theorem parse_any (T : ByteArray) (hT : T.size ≤ 140737488355328) (w : World) : Calls Tryz.prog 84 #[.string T] w (Parsed w (parseR T 0 [])) := by
  obtain ⟨i9, hi9, hz90, hz91, hz92⟩ := info_parts A9
  have hfull : T.extract 0 T.size = T := by simp
  go_enter Tryz.func84, Tryz.ntmps84
  go_wp2
  go_loopw [5, 6, 7] (fun p r m wr => ∃ l : List ByteArray, wr.ownsRow w.heap.size 9 1 p l.length (strs l) ∧ l.length ≤ 16 ∧ Below w.heap.size w wr ∧
      ((∃ n, n ≤ T.size ∧ r = .string (T.extract n T.size) ∧ m = .bool true ∧ Hid (parseR T 0 [] = parseR T n l)) ∨ (∃ r0, r = .string r0 ∧ m = .bool false ∧ Hid (parseR T 0 [] = (l, 0, 0))))) (fun _ r m _ => strLen r + truth m)
  case atStart => exact ⟨[], World.ownsRow_nil _ _ _ _, by simp, Below.refl _ _, .inl ⟨0, Nat.zero_le _, by rw [hfull], rfl, rfl⟩⟩
  case round =>
    obtain ⟨l, hown, hl, hbel, ⟨n, hn, rfl, rfl, hP⟩ | ⟨r0, rfl, rfl, hP⟩⟩ := hrel
    · clear hfull
      obtain ⟨a5, c5, rfl⟩ := ownsRow_slice hown
      have hns := next_spec hn
      obtain ⟨hk1, hk2, -, -⟩ := hns
      have hbad : Hid (l.length = 16 ∨ seg (T.extract n (next T n)) = false → parseR T n l = ([], 20, n)) := fun h => parseR_bad hn h
      have hmore : Hid (¬ l.length = 16 → seg (T.extract n (next T n)) = true → next T n < T.size → parseR T n l = parseR T (next T n + 1) (l ++ [T.extract n (next T n)])) := fun h1 h2 h3 => parseR_more hn h1 h2 h3
      have hend : Hid (¬ l.length = 16 → seg (T.extract n (next T n)) = true → ¬ next T n < T.size → parseR T n l = (l ++ [T.extract n (next T n)], 0, 0)) := fun h1 h2 h3 => parseR_end hn h1 h2 h3
      have hszs : (T.extract n (next T n)).size ≤ 281474976710656 := by rw [ByteArray.size_extract]; omega
      have hrest : (T.extract (next T n + 1) T.size).size < T.size - n + 1 := by rw [ByteArray.size_extract]; omega
      have hrest2 : next T n < T.size → (T.extract (next T n + 1) T.size).size < T.size - n := by rw [ByteArray.size_extract]; omega
      have hsn : (T.extract n T.size).size = T.size - n := by rw [ByteArray.size_extract]; omega
      have hcut := fun w => cut_at T n hn (by omega) w
      generalize next T n = k at *
      generalize hsg : T.extract n k = sg at *
      go_wp2_with fail
      refine (hcut _).mono ?_
      rintro e w1 ⟨rfl, q, rfl⟩
      clear hcut
      by_cases h16 : l.length = 16
      · have hd : ((l.length : Int) == 16) = true := by simp; omega
        go_wp2_with fail
        go_ret3
        refine ⟨.slice none 0 0, ?_, ?_, ?_⟩
        · rw [hP.out, hbad.out (.inl h16)]
          simp; omega
        · rw [hP.out, hbad.out (.inl h16)]; exact World.ownsRow_nil _ _ _ _
        · exact below_drewN hbel q
      · have hd : ((l.length : Int) == 16) = false := by simp; omega
        go_wp2_with fail
        refine (isSegment_any sg _).mono ?_
        rintro e w2 ⟨rfl, rfl⟩
        cases hs : seg sg
        · go_wp2_with fail
          go_ret3
          refine ⟨.slice none 0 0, ?_, ?_, ?_⟩
          · rw [hP.out, hbad.out (.inr hs)]
            simp; omega
          · rw [hP.out, hbad.out (.inr hs)]; exact World.ownsRow_nil _ _ _ _
          · exact below_drewN hbel q
        · go_wp2_with fail
          refine (clone_any sg hszs _).mono ?_
          rintro e w3 ⟨rfl, hb3⟩
          have hbel3 : Below w.heap.size w w3 := (below_drewN hbel q).trans (hb3.mono hbel.size)
          have hown3 : w3.ownsRow w.heap.size 9 1 (Value.slice a5 l.length c5) l.length (strs l) := ownsRow_below (ownsRow_drewN hown q) hb3
          go_wp2_with (at_builtin; refine wpList_append_lies _ rfl _ _ 25 rfl w.heap.size 9 i9 _ 1 16 Tryz.underlying25 hi9 hz90 hz91 hz92 rfl (by decide) _ l.length (strs l) rfl (hown3.alloc _) _ 1 1 [.string sg] rfl rfl (World.news_of_block (heap_alloc_new w3 _)) (one_string sg) (by decide) (by unfold maxLen; omega) (by omega) (by have := hbel3.size; simp only [World.size_alloc]; omega) _ rfl ?_; intro g cap w4 hown4 hgrow4 hat4 hlt4)
          have hbel4 : Below w.heap.size w w4 := (hbel3.alloc (by have := hbel3.size; omega) _).trans (grown_below hgrow4 (by have := hbel3.size; simp; omega) (fun g hg => (ownsRow_ge hown hg).1))
          go_roundw
          case rel =>
            refine ⟨l ++ [sg], by simpa [strs_snoc] using hown4, by simp; omega, hbel4, ?_⟩
            by_cases hf : k < T.size
            · exact .inl ⟨k + 1, by omega, rfl, by simpa using hf, hP.out.trans (hmore.out h16 hs hf)⟩
            · exact .inr ⟨_, rfl, by simpa using hf, hP.out.trans (hend.out h16 hs hf)⟩
          case measure =>
            by_cases hf : k < T.size
            · have := hrest2 hf
              simp [strLen, truth, hf]; omega
            · simp [strLen, truth, hf]; omega
    · obtain ⟨a5, c5, rfl⟩ := ownsRow_slice hown
      go_wp2_with fail
      go_ret3
      rw [hP.out]
      exact ⟨_, rfl, hown, hbel⟩
end Go.Proofs.YthgnkhpomhcdkaaGreatDoor.Dp
