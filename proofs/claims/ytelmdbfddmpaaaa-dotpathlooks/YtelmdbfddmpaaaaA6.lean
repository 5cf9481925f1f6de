import Derived.Test.YtelmdbfddmpaaaaA5
namespace Go.Proofs.Ytelmdbfddmpaaaa
open Go Go.RowKit

set_option maxHeartbeats 2000000 in
set_option maxRecDepth 100000 in
theorem rparse_any (T : ByteArray) (hT : T.size ≤ 140737488355328) (w : World) : Calls Try.prog 20 #[.string T] w (Parsed w (parseR T 0 [])) := by
  obtain ⟨i9, hi9, hz90, hz91, hz92⟩ := info_parts A9
  go_enter Try.func20, Try.ntmps20
  go_wp2
  go_loopw [5, 6, 7] (fun p r m wr => ∃ (l : List ByteArray) (n k : Nat), wr.ownsRow w.heap.size 9 1 p l.length (strs l) ∧ l.length ≤ 16 ∧ Below w.heap.size w wr ∧ r = .int .i64 (n : Int) ∧ m = .int .i64 (k : Int) ∧
      ((n ≤ k ∧ k ≤ T.size ∧ Hid (∀ j, n ≤ j → j < k → byteAt T j ≠ 46) ∧ Hid (parseR T 0 [] = parseR T n l)) ∨ (n = T.size + 1 ∧ k = T.size + 1 ∧ Hid (parseR T 0 [] = (l, 0, 0))))) (fun _ _ m _ => T.size + 1 - (intOf m).toNat)
  case atStart => exact ⟨[], 0, 0, World.ownsRow_nil _ _ _ _, by simp, Below.refl _ _, rfl, rfl, .inl ⟨Nat.le_refl _, Nat.zero_le _, fun j h1 h2 => by omega, rfl⟩⟩
  case round =>
    obtain ⟨l, n, k, hown, hl, hbel, rfl, rfl, ⟨hnk, hk, hno, hP⟩ | ⟨rfl, rfl, hP⟩⟩ := hrel
    · obtain ⟨a5, c5, rfl⟩ := ownsRow_slice hown
      have hn : n ≤ T.size := by omega
      have hle : decide ((k : Int) ≤ (T.size : Int)) = true := by simp; omega
      have hgo : (k < T.size ∧ byteAt T k ≠ 46) ∨ (Hid (next T n = k) ∧ ((k < T.size ∧ byteAt T k = 46) ∨ k = T.size)) := by
        by_cases h1 : k < T.size
        · by_cases h2 : byteAt T k = 46
          · exact .inr ⟨next_eq hnk hk hno.out (.inr h2), .inl ⟨h1, h2⟩⟩
          · exact .inl ⟨h1, h2⟩
        · exact .inr ⟨next_eq hnk hk hno.out (.inl (by omega)), .inr (by omega)⟩
      rcases hgo with ⟨hlt, hdot⟩ | ⟨hnx, hgo⟩
      · have hd : decide ((k : Int) < (T.size : Int)) = true := by simp; omega
        have he := byteAt_eq hlt
        have hb' : (((byteAt T k).toNat : Int) == 46) = false := by
          have := u8_beq (byteAt T k) 46
          rw [show ((46 : UInt8).toNat : Int) = 46 from rfl] at this
          rw [this]; simpa using hdot
        go_wp2
        go_roundw
        case rel => exact ⟨l, n, k + 1, hown, hl, hbel, rfl, by simp, .inl ⟨by omega, by omega, fun j h1 h2 => by
          by_cases e : j = k
          · subst e; exact hdot
          · exact hno.out j h1 (by omega), hP⟩⟩
        case measure => simp [intOf]; omega
      · have hbad : Hid (l.length = 16 ∨ seg (T.extract n k) = false → parseR T n l = ([], 20, n)) := fun h => parseR_bad hn (by rw [hnx.out]; exact h)
        have hmore : Hid (¬ l.length = 16 → seg (T.extract n k) = true → k < T.size → parseR T n l = parseR T (k + 1) (l ++ [T.extract n k])) := fun h1 h2 h3 => by
          have := parseR_more hn h1 (by rw [hnx.out]; exact h2) (by rw [hnx.out]; exact h3)
          rw [hnx.out] at this; exact this
        have hend : Hid (¬ l.length = 16 → seg (T.extract n k) = true → ¬ k < T.size → parseR T n l = (l ++ [T.extract n k], 0, 0)) := fun h1 h2 h3 => by
          have := parseR_end hn h1 (by rw [hnx.out]; exact h2) (by rw [hnx.out]; exact h3)
          rw [hnx.out] at this; exact this
        have hszs : (T.extract n k).size ≤ 281474976710656 := by rw [ByteArray.size_extract]; omega
        clear hno hnx
        rcases hgo with ⟨hlt, hdot⟩ | rfl
        · have hd : decide ((k : Int) < (T.size : Int)) = true := by simp; omega
          have he := byteAt_eq hlt
          have hb' : (((byteAt T k).toNat : Int) == 46) = true := by rw [hdot]; rfl
          clear hdot
          generalize hsg : T.extract n k = sg at *
          by_cases h16 : l.length = 16
          · have hd16 : ((l.length : Int) == 16) = true := by simp; omega
            go_wp2_with fail
            go_ret3
            refine ⟨.slice none 0 0, ?_, ?_, ?_⟩
            · rw [hP.out, hbad.out (.inl h16)]; rfl
            · rw [hP.out, hbad.out (.inl h16)]; exact World.ownsRow_nil _ _ _ _
            · exact hbel
          · have hd16 : ((l.length : Int) == 16) = false := by simp; omega
            go_wp2_with fail
            refine (segment_any sg (by omega) _).mono ?_
            rintro e w2 ⟨rfl, rfl⟩
            cases hs : seg sg
            · go_wp2_with fail
              go_ret3
              refine ⟨.slice none 0 0, ?_, ?_, ?_⟩
              · rw [hP.out, hbad.out (.inr hs)]; rfl
              · rw [hP.out, hbad.out (.inr hs)]; exact World.ownsRow_nil _ _ _ _
              · exact hbel
            · go_wp2_with (at_builtin; refine wpList_append_lies _ rfl _ _ 22 rfl w.heap.size 9 i9 _ 1 16 Try.underlying22 hi9 hz90 hz91 hz92 rfl (by decide) _ l.length (strs l) rfl (hown.alloc _) _ 1 1 [.string sg] rfl rfl (World.news_of_block (heap_alloc_new w2 _)) (one_string sg) (by decide) (by unfold maxLen; omega) (by omega) (by have := hbel.size; simp only [World.size_alloc]; omega) _ rfl ?_; intro g cap w4 hown4 hgrow4 hat4 hlt4)
              have hbel4 : Below w.heap.size w w4 := (hbel.alloc (by have := hbel.size; omega) _).trans (grown_below hgrow4 (by have := hbel.size; simp; omega) (fun g hg => (ownsRow_ge hown hg).1))
              go_roundw
              case rel =>
                refine ⟨l ++ [sg], k + 1, k + 1, by simpa [strs_snoc] using hown4, by simp; omega, hbel4, by simp, by simp, ?_⟩
                exact .inl ⟨by omega, by omega, fun j h1 h2 => by omega, hP.out.trans (hmore.out h16 hs hlt)⟩
              case measure => simp [intOf]; omega
        · have hd : decide ((T.size : Int) < (T.size : Int)) = false := by simp
          generalize hsg : T.extract n T.size = sg at *
          by_cases h16 : l.length = 16
          · have hd16 : ((l.length : Int) == 16) = true := by simp; omega
            go_wp2_with fail
            go_ret3
            refine ⟨.slice none 0 0, ?_, ?_, ?_⟩
            · rw [hP.out, hbad.out (.inl h16)]; rfl
            · rw [hP.out, hbad.out (.inl h16)]; exact World.ownsRow_nil _ _ _ _
            · exact hbel
          · have hd16 : ((l.length : Int) == 16) = false := by simp; omega
            go_wp2_with fail
            refine (segment_any sg (by omega) _).mono ?_
            rintro e w2 ⟨rfl, rfl⟩
            cases hs : seg sg
            · go_wp2_with fail
              go_ret3
              refine ⟨.slice none 0 0, ?_, ?_, ?_⟩
              · rw [hP.out, hbad.out (.inr hs)]; rfl
              · rw [hP.out, hbad.out (.inr hs)]; exact World.ownsRow_nil _ _ _ _
              · exact hbel
            · go_wp2_with (at_builtin; refine wpList_append_lies _ rfl _ _ 22 rfl w.heap.size 9 i9 _ 1 16 Try.underlying22 hi9 hz90 hz91 hz92 rfl (by decide) _ l.length (strs l) rfl (hown.alloc _) _ 1 1 [.string sg] rfl rfl (World.news_of_block (heap_alloc_new w2 _)) (one_string sg) (by decide) (by unfold maxLen; omega) (by omega) (by have := hbel.size; simp only [World.size_alloc]; omega) _ rfl ?_; intro g cap w4 hown4 hgrow4 hat4 hlt4)
              have hbel4 : Below w.heap.size w w4 := (hbel.alloc (by have := hbel.size; omega) _).trans (grown_below hgrow4 (by have := hbel.size; simp; omega) (fun g hg => (ownsRow_ge hown hg).1))
              go_roundw
              case rel =>
                refine ⟨l ++ [sg], T.size + 1, T.size + 1, by simpa [strs_snoc] using hown4, by simp; omega, hbel4, by simp, by simp, ?_⟩
                exact .inr ⟨rfl, rfl, hP.out.trans (hend.out h16 hs (by omega))⟩
              case measure => simp [intOf]
    · obtain ⟨a5, c5, rfl⟩ := ownsRow_slice hown
      have hle : decide (((T.size + 1 : Nat) : Int) ≤ (T.size : Int)) = false := by simp; omega
      go_wp2_with fail
      go_ret3
      rw [hP.out]
      exact ⟨_, rfl, hown, hbel⟩
end Go.Proofs.Ytelmdbfddmpaaaa
