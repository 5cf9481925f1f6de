import Derived.Test.YtlkomknjgfjnlaaGreatDoorPA
import Derived.Deep.LoopGhost
import Derived.Deep.DeepBigQuietO
/-! The document's reader of texts: blanks, words. -/
namespace Go.Proofs.YtlkomknjgfjnlaaGreatDoor.Tree
open Go Go.RowKit

theorem byte_ne {b c : UInt8} (h : b ≠ c) : ((b.toNat : Int) == (c.toNat : Int)) = false := by
  rw [beq_eq_false_iff_ne]
  intro e
  exact h (UInt8.toNat_inj.1 (by omega))
theorem blank_yes {b : UInt8} (h : blank b = true) : b = 32 ∨ b = 9 ∨ b = 10 ∨ b = 13 := by
  unfold blank at h
  simp only [Bool.or_eq_true, beq_iff_eq] at h
  rcases h with ((h | h) | h) | h
  · exact .inl h
  · exact .inr (.inl h)
  · exact .inr (.inr (.inl h))
  · exact .inr (.inr (.inr h))
theorem blank_no {b : UInt8} (h : blank b = false) : b ≠ 32 ∧ b ≠ 9 ∧ b ≠ 10 ∧ b ≠ 13 := by
  refine ⟨?_, ?_, ?_, ?_⟩ <;> (rintro rfl; revert h; decide)
theorem blanks_dead (r : Nat) (T : ByteArray) (q pl e : Int) (w : World) (h : RT w r T q e pl) (he : e ≠ 0) :
    Calls Tryz.prog 13 #[.pointer (some ⟨r, 0, none⟩)] w fun x w' => x = .returned (.tuple #[]) ∧ RT w' r T q e pl ∧ Fr (· = r) w w' := by
  obtain ⟨y0, y1, y2, y3, yf⟩ := h.cells
  have he' : (e == 0) = false := by simpa using he
  go_enter Tryz.func13, Tryz.ntmps13
  go_wp2_with fail
  go_loopg [] 1 (fun gk wr => Hid (wr = w))
  case atStart => exact hid_e rfl
  case round =>
    obtain rfl := hrel.out
    go_wp2_with fail
    go_region
    go_wp2_with fail
    refine bodyPost_end (results_none rfl _ _ _) rfl ?_
    exact ⟨rfl, h, (Fr.refl _ _).drewN 1⟩
set_option maxHeartbeats 4000000 in
set_option maxRecDepth 100000 in
theorem blanks_code (r : Nat) (T : ByteArray) (q : Nat) (w : World) (hT : T.size ≤ 65536) (h : RT w r T (q : Int) 0 0) (hq : q ≤ T.size) :
    Calls Tryz.prog 13 #[.pointer (some ⟨r, 0, none⟩)] w fun x w' => x = .returned (.tuple #[]) ∧ RT w' r T (skip T q : Int) 0 0 ∧ Fr (· = r) w w' := by
  go_enter Tryz.func13, Tryz.ntmps13
  go_wp2_with fail
  go_loopg [] (T.size + 1) (fun gk wr => ∃ i : Nat, q ≤ i ∧ i ≤ T.size ∧ T.size - i < gk ∧ Hid (∀ j, q ≤ j → j < i → blank (byteAt T j) = true) ∧ Hid (RT wr r T (i : Int) 0 0) ∧ Hid (Fr (· = r) w wr))
  case atStart => exact ⟨q, Nat.le_refl _, hq, by omega, hid_e (fun j h1 h2 => by omega), hid_e h, hid_e (Fr.refl _ _)⟩
  case round =>
    clear h
    obtain ⟨i, h1, h2, hgk, hbl, hA, hF⟩ := hrel
    obtain ⟨g', rfl⟩ : ∃ g', gk = g' + 1 := ⟨gk - 1, by omega⟩
    obtain ⟨y0, y1, y2, y3, yf⟩ := hA.out.cells
    have yf1 := yf 1
    clear yf
    have i2 : (0 : Int) ≤ (i : Int) := by omega
    by_cases hlt : i < T.size
    · have i1 : (i : Int) < (T.size : Int) := by omega
      have he := byteAt_eq hlt
      obtain ⟨z, hz⟩ : ∃ z : Int, Hid (((byteAt T i).toNat : Int) = z) := ⟨_, hid_e rfl⟩
      cases hb : blank (byteAt T i) with
      | true =>
        have hR1 := hA.out.set1 ((i : Int) + 1)
        have hF1 : Fr (· = r) wr (wr.setCell ⟨r, 1, none⟩ (.int .i64 ((i : Int) + 1))) := (Fr.refl (· = r) wr).set _ _ (.inl rfl)
        have hz4 : z = 32 ∨ z = 9 ∨ z = 10 ∨ z = 13 := by
          rw [← hz.out]
          rcases blank_yes hb with h | h | h | h <;> rw [h] <;> decide
        have hi9 : (i : Int) + 1 ≤ 9223372036854775807 := by omega
        have hrel' : Hid (∃ j : Nat, q ≤ j ∧ j ≤ T.size ∧ T.size - j < g' ∧ Hid (∀ k, q ≤ k → k < j → blank (byteAt T k) = true) ∧ ((j : Int) = (i : Int) + 1)) := ⟨i + 1, by omega, by omega, by omega, hid_e (fun k a b => (Nat.lt_or_ge k i).elim (fun c => hbl.out k a c) (fun c => by obtain rfl : k = i := (by omega); exact hb)), by omega⟩
        clear hb
        have hcs : ((z != 32) = false) ∨ ((z != 32) = true ∧ (z != 9) = false) ∨ ((z != 32) = true ∧ (z != 9) = true ∧ (z != 10) = false) ∨ ((z != 32) = true ∧ (z != 9) = true ∧ (z != 10) = true ∧ (z != 13) = false) := by
          rcases hz4 with rfl | rfl | rfl | rfl <;> decide
        clear hz4
        rcases hcs with c1 | ⟨c1, c2⟩ | ⟨c1, c2, c3⟩ | ⟨c1, c2, c3, c4⟩
        all_goals
          go_wp2_with fail
          go_region
          go_wp2_with fail
          go_region
          rw [hz.out]
          go_wp2_with fail
          go_roundg g'
          case measure => omega
          case rel =>
            obtain ⟨j, a1, a2, a3, a4, a5⟩ := hrel'.out
            exact ⟨j, a1, a2, a3, a4, hid_e (by rw [a5]; exact hR1), hid_e (hF.out.trans (hF1.drewN 2))⟩
      | false =>
        obtain ⟨n1, n2, n3, n4⟩ := blank_no hb
        have k1 := byte_ne n1
        have k2 := byte_ne n2
        have k3 := byte_ne n3
        have k4 := byte_ne n4
        rw [hz.out] at k1 k2 k3 k4
        have j1 : (z != 32) = true := by simpa using k1
        have j2 : (z != 9) = true := by simpa using k2
        have j3 : (z != 10) = true := by simpa using k3
        have j4 : (z != 13) = true := by simpa using k4
        have hsk : Hid (skip T q = i) := skip_eq T q i h1 h2 hbl.out (.inr hb)
        clear k1 k2 k3 k4 n1 n2 n3 n4 hb
        go_wp2_with fail
        go_region
        go_wp2_with fail
        go_region
        rw [hz.out]
        go_wp2_with fail
        refine bodyPost_ret (results_none rfl _ _ _) rfl ?_
        rw [hsk.out]
        exact ⟨rfl, hA.out, hF.out.drewN 2⟩
    · have i1 : ¬ ((i : Int) < (T.size : Int)) := by omega
      have hsk : Hid (skip T q = i) := skip_eq T q i h1 h2 hbl.out (.inl (by omega))
      go_wp2_with fail
      go_region
      go_wp2_with fail
      refine bodyPost_end (results_none rfl _ _ _) rfl ?_
      rw [hsk.out]
      exact ⟨rfl, hA.out, hF.out.drewN 1⟩
theorem lit_get {W : ByteArray} {i : Nat} (h : i < W.size) : W.data.toList.drop i = byteAt W i :: W.data.toList.drop (i + 1) := by
  have hl : i < W.data.toList.length := by rw [Array.length_toList]; exact h
  rw [List.drop_eq_getElem_cons hl]
  congr 1
  unfold byteAt
  rw [Array.getD_eq_getD_getElem?, Array.getElem?_eq_getElem (by simpa using hl)]
  simp
set_option maxHeartbeats 4000000 in
set_option maxRecDepth 100000 in
theorem word_code (r : Nat) (T W : ByteArray) (q : Nat) (w : World) (hT : T.size ≤ 65536) (hW : W.size ≤ 100) (h : Hid (RT w r T (q : Int) 0 0)) (hq : q ≤ T.size) :
    Calls Tryz.prog 23 #[.pointer (some ⟨r, 0, none⟩), .string W] w fun x w' => x = .returned (.tuple #[]) ∧ RSt w' r T (litR T W.data.toList q) ∧ Fr (· = r) w w' := by
  obtain ⟨R, hR⟩ : ∃ R, Hid (litR T W.data.toList q = R) := ⟨_, hid_e rfl⟩
  rw [hR.out]
  go_enter Tryz.func23, Tryz.ntmps23
  go_wp2_with fail
  go_loopw [4] (fun iv wr => ∃ i : Nat, i ≤ W.size ∧ iv = .int .i64 i ∧ q + i ≤ T.size ∧ Hid (litR T (W.data.toList.drop i) (q + i) = R) ∧ Hid (RT wr r T ((q + i : Nat) : Int) 0 0) ∧ Hid (Fr (· = r) w wr)) (fun iv _ => W.size - (intOf iv).toNat)
  case atStart => exact ⟨0, Nat.zero_le _, rfl, hq, hR, h, hid_e (Fr.refl _ _)⟩
  case round =>
    clear h hR
    obtain ⟨i, hi, rfl, hqi, hK, hA, hF⟩ := hrel
    by_cases hlt : i < W.size
    · have i1 : (i : Int) < (W.size : Int) := by omega
      have i2 : (0 : Int) ≤ (i : Int) := by omega
      have he := byteAt_eq hlt
      by_cases hs : q + i < T.size
      · have hn := hid_e (next_byte r T (q + i) wr hA.out hs)
        go_wp2_with fail
        go_fit hn.out
        clear hn
        rintro e w1 ⟨rfl, hR1, hF1⟩
        obtain ⟨y0, y1, y2, y3, yf⟩ := hR1.cells
        have yf1 := yf 1
        clear yf y0 y2 y3
        obtain ⟨z, hz⟩ : ∃ z : Int, Hid (((byteAt T (q + i)).toNat : Int) = z) := ⟨_, hid_e rfl⟩
        obtain ⟨Q, hQ⟩ : ∃ Q : Int, Hid (((q + i : Nat) : Int) = Q) := ⟨_, hid_e rfl⟩
        rw [hQ.out] at y1
        have hQ9 : Q ≤ 70000 ∧ 0 ≤ Q := by have := hQ.out; omega
        rw [hz.out]
        by_cases heq : byteAt T (q + i) = byteAt W i
        · have hzv : (z != ((byteAt W i).toNat : Int)) = false := by rw [← hz.out, heq]; simp
          have hK2 : Hid (litR T (W.data.toList.drop (i + 1)) (q + (i + 1)) = R) := by
            rw [Hid, ← hK.out, lit_get hlt, litR_cons, if_pos hs, if_pos heq]
            rfl
          have hR2 := hR1.set1 (Q + 1)
          have hF2 : Fr (· = r) w1 (w1.setCell ⟨r, 1, none⟩ (.int .i64 (Q + 1))) := (Fr.refl (· = r) w1).set _ _ (.inl rfl)
          go_wp2_with fail
          go_roundw
          case rel => exact ⟨i + 1, hlt, by go_num, by omega, hK2, hid_e (by rw [show ((q + (i + 1) : Nat) : Int) = Q + 1 by have := hQ.out; omega]; exact hR2), hid_e ((hF.out.trans hF1).trans hF2)⟩
          case measure => simp [intOf]; omega
        · have hzv : (z != ((byteAt W i).toNat : Int)) = true := by
            rw [← hz.out]
            have := byte_ne heq
            simpa using this
          have hRe : Hid (R = .bad 10 (q + i)) := by rw [Hid, ← hK.out, lit_get hlt, litR_cons, if_pos hs, if_neg heq]
          have hfl := hid_e (fail_code r T Q Q 10 w1 (by rw [← hQ.out]; exact hR1))
          go_wp2_with fail
          go_fit hfl.out
          rintro e w2 ⟨rfl, hS2, hF2⟩
          go_wp2_with fail
          refine bodyPost_ret (results_none rfl _ _ _) rfl ?_
          rw [hRe.out]
          exact ⟨rfl, ⟨by decide, Q, by rw [hQ.out]; exact hS2⟩, (hF.out.trans hF1).trans hF2⟩
      · obtain hqe : q + i = T.size := by omega
        have hRe : Hid (R = .bad 3 T.size) := by rw [Hid, ← hK.out, lit_get hlt, litR_cons, if_neg hs]
        have hn := hid_e (next_short r T wr (by have := hA.out; rw [hqe] at this; exact this))
        replace hqe := hid_e hqe
        go_wp2_with fail
        go_fit hn.out
        clear hn
        rintro e w1 ⟨rfl, hR1, hF1⟩
        go_wp2_with fail
        refine bodyPost_ret (results_none rfl _ _ _) rfl ?_
        rw [hRe.out]
        exact ⟨rfl, ⟨by decide, _, hR1⟩, hF.out.trans hF1⟩
    · obtain rfl : i = W.size := by omega
      have hRe : Hid (R = .ok () (q + W.size)) := by
        rw [Hid, ← hK.out, List.drop_eq_nil_of_le (by rw [Array.length_toList]; exact Nat.le_refl _)]
        rfl
      go_wp2_with fail
      refine bodyPost_end (results_none rfl _ _ _) rfl ?_
      rw [hRe.out]
      exact ⟨rfl, hA.out, hF.out⟩
end Go.Proofs.YtlkomknjgfjnlaaGreatDoor.Tree
