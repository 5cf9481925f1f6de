import Derived.Test.YthafhemlnninbaaGreatSS
/-! Stable sorting over memory: rotate. -/
namespace Go.Proofs.YthafhemlnninbaaGreat.Sorted
open Go Go.RowKit Go.Stab
section
variable {α : Type}
theorem swapL_get (D : List α) (a c : Nat) : ∀ i, a + i ≤ c → c + i ≤ D.length → ∀ j : Nat, (swapL D a c i)[j]? = if a ≤ j ∧ j < a + i then D[c + (j - a)]? else if c ≤ j ∧ j < c + i then D[a + (j - c)]? else D[j]?
  | 0, _, _, j => by
    rw [if_neg (by omega), if_neg (by omega)]
    rfl
  | i + 1, h1, h2, j => by
    have ih := swapL_get D a c i (by omega) (by omega)
    have ex : D[a + i]? = some D[a + i] := List.getElem?_eq_getElem (by omega)
    have ey : D[c + i]? = some D[c + i] := List.getElem?_eq_getElem (by omega)
    rw [swapL, ex, ey]
    show (((swapL D a c i).set (a + i) D[c + i]).set (c + i) D[a + i])[j]? = _
    have hl := swapL_length D a c i
    by_cases j1 : j = c + i
    · subst j1
      rw [List.getElem?_set_self (by simp; omega), if_neg (by omega), if_pos (by omega), ← ex]
      congr 1
      omega
    · rw [List.getElem?_set_ne (by omega)]
      by_cases j2 : j = a + i
      · subst j2
        rw [List.getElem?_set_self (by omega), if_pos (by omega), ← ey]
        congr 1
        omega
      · rw [List.getElem?_set_ne (by omega), ih j]
        by_cases j3 : a ≤ j ∧ j < a + i
        · rw [if_pos j3, if_pos (by omega)]
        · rw [if_neg j3, if_neg (c := a ≤ j ∧ j < a + (i + 1)) (by omega)]
          by_cases j4 : c ≤ j ∧ j < c + i
          · rw [if_pos j4, if_pos (by omega)]
          · rw [if_neg j4, if_neg (by omega)]
theorem swapL_app (A U M V B : List α) (h : V.length = U.length) : swapL (A ++ (U ++ (M ++ (V ++ B)))) A.length (A.length + U.length + M.length) U.length = A ++ (V ++ (M ++ (U ++ B))) := by
  refine List.ext_getElem? (fun j => ?_)
  rw [swapL_get _ _ _ _ (by omega) (by simp; omega)]
  by_cases j1 : j < A.length
  · rw [if_neg (by omega), if_neg (by omega), List.getElem?_append_left j1, List.getElem?_append_left j1]
  · rw [List.getElem?_append_right (l₁ := A) (l₂ := V ++ (M ++ (U ++ B))) (by omega)]
    by_cases j2 : j < A.length + U.length
    · rw [if_pos (by omega), List.getElem?_append_right (by omega), List.getElem?_append_right (by omega), List.getElem?_append_right (by omega), List.getElem?_append_left (by omega), List.getElem?_append_left (by omega)]
      congr 1
      omega
    · rw [if_neg (by omega), List.getElem?_append_right (l₁ := V) (by omega)]
      by_cases j3 : j < A.length + U.length + M.length
      · rw [if_neg (by omega), List.getElem?_append_right (by omega), List.getElem?_append_right (by omega), List.getElem?_append_left (by omega), List.getElem?_append_left (by omega)]
        congr 1
        omega
      · rw [List.getElem?_append_right (l₁ := M) (l₂ := U ++ B) (by omega)]
        by_cases j4 : j < A.length + U.length + M.length + U.length
        · rw [if_pos (by omega), List.getElem?_append_right (by omega), List.getElem?_append_left (by omega), List.getElem?_append_left (by omega)]
          congr 1
          omega
        · rw [if_neg (by omega), List.getElem?_append_right (by omega), List.getElem?_append_right (by omega), List.getElem?_append_right (by omega), List.getElem?_append_right (by omega), List.getElem?_append_right (by omega)]
          congr 1
          omega
variable {enc : α → Array Value}
/-- Where the rotation stands: what is to come of A, U, V, B. -/
structure Rot (enc : α → Array Value) (w0 : World) (b n m : Nat) (T : List α) (i j : Nat) (w : World) (A U V B : List α) : Prop where
  iu : U.length = i
  jv : V.length = j
  am : A.length + i = m
  ip : 0 < i
  jp : 0 < j
  len : A.length + i + j + B.length = n
  row : RowE enc w b (A ++ (U ++ (V ++ B)))
  goal : A ++ (V ++ (U ++ B)) = T
  but : But b w0 w
theorem Rot.left {w0 w w' : World} {b n m i j : Nat} {T A U V B : List α} (h : Rot enc w0 b n m T i j w A U V B) (hij : j < i) (hr : RowE enc w' b (swapL (A ++ (U ++ (V ++ B))) A.length m j)) (hb : But b w w') : Rot enc w0 b n m T (i - j) j w' (A ++ V) (U.drop j) (U.take j) B := by
  have e1 : U = U.take j ++ U.drop j := (List.take_append_drop j U).symm
  have l1 : (U.take j).length = j := by rw [List.length_take, h.iu]; omega
  have l2 : (U.drop j).length = i - j := by rw [List.length_drop, h.iu]
  have hs := swapL_app A (U.take j) (U.drop j) V B (by rw [l1, h.jv])
  rw [l1, l2, show A.length + j + (i - j) = m by have := h.am; omega] at hs
  rw [show A ++ (U ++ (V ++ B)) = A ++ (U.take j ++ (U.drop j ++ (V ++ B))) by rw [← List.append_assoc (U.take j), ← e1], hs] at hr
  refine ⟨l2, l1, by rw [List.length_append, h.jv]; have := h.am; omega, by omega, h.jp, by rw [List.length_append, h.jv]; have := h.len; omega, ?_, ?_, h.but.trans hb⟩
  · rw [List.append_assoc]; exact hr
  · rw [← h.goal, List.append_assoc, ← List.append_assoc (U.take j), ← e1]
theorem Rot.right {w0 w w' : World} {b n m i j : Nat} {T A U V B : List α} (h : Rot enc w0 b n m T i j w A U V B) (hij : i < j) (hr : RowE enc w' b (swapL (A ++ (U ++ (V ++ B))) A.length (m + j - i) i)) (hb : But b w w') : Rot enc w0 b n m T i (j - i) w' A (V.drop (j - i)) (V.take (j - i)) (U ++ B) := by
  have e1 : V = V.take (j - i) ++ V.drop (j - i) := (List.take_append_drop (j - i) V).symm
  have l1 : (V.take (j - i)).length = j - i := by rw [List.length_take, h.jv]; omega
  have l2 : (V.drop (j - i)).length = i := by rw [List.length_drop, h.jv]; omega
  have hs := swapL_app A U (V.take (j - i)) (V.drop (j - i)) B (by rw [l2, h.iu])
  rw [l1, h.iu, show A.length + i + (j - i) = m + j - i by have := h.am; omega] at hs
  rw [show A ++ (U ++ (V ++ B)) = A ++ (U ++ (V.take (j - i) ++ (V.drop (j - i) ++ B))) by rw [← List.append_assoc (V.take (j - i)), ← e1], hs] at hr
  refine ⟨l2, l1, h.am, h.ip, by omega, by rw [List.length_append, h.iu]; have := h.len; omega, hr, ?_, h.but.trans hb⟩
  rw [← h.goal, ← List.append_assoc (V.take (j - i)), ← e1]
theorem Rot.last {w0 w w' : World} {b n m i : Nat} {T A U V B : List α} (h : Rot enc w0 b n m T i i w A U V B) (hr : RowE enc w' b (swapL (A ++ (U ++ (V ++ B))) A.length m i)) (hb : But b w w') : RowE enc w' b T ∧ But b w0 w' := by
  have hs := swapL_app A U [] V B (by rw [h.jv, h.iu])
  rw [h.iu, List.length_nil, Nat.add_zero, h.am] at hs
  simp only [List.nil_append] at hs
  rw [hs, h.goal] at hr
  exact ⟨hr, h.but.trans hb⟩
theorem Rot.dlen {w0 w : World} {b n m i j : Nat} {T A U V B : List α} (h : Rot enc w0 b n m T i j w A U V B) : (A ++ (U ++ (V ++ B))).length = n := by
  simp only [List.length_append, h.iu, h.jv]
  have := h.len
  omega
set_option maxRecDepth 100000 in
set_option maxHeartbeats 4000000 in
theorem rotate_any (E : Enc enc) (A U V B : List α) (b n cap a m c : Nat) (cmp : Value) (w : World) (hR : RowE enc w b (A ++ (U ++ (V ++ B)))) (ha : A.length = a) (hm : A.length + U.length = m) (hc : m + V.length = c) (hn : c + B.length = n) (hU : 0 < U.length) (hV : 0 < V.length) (hnn : n ≤ 4611686018427387904) :
    Calls Tryz.prog 119 #[.slice (some ⟨b, 0, none⟩) n cap, .int .i64 a, .int .i64 m, .int .i64 c, cmp] w fun e w' => e = .returned (.tuple #[]) ∧ RowE enc w' b (A ++ (V ++ (U ++ B))) ∧ But b w w' := by
  obtain ⟨T, hT⟩ : ∃ T, Hid (A ++ (V ++ (U ++ B)) = T) := ⟨_, rfl⟩
  rw [hT.out]
  have h0 : Hid (Rot enc w b n m T U.length V.length w A U V B) := ⟨rfl, rfl, hm, hU, hV, by omega, hR, hT.out, But.refl b w⟩
  have f1 : (a : Int) ≤ (m : Int) := by omega
  have f2 : (m : Int) ≤ (c : Int) := by omega
  have f3 : (c : Int) ≤ 4611686018427387904 := by omega
  have f5 : c ≤ n := by omega
  have f4 : (0 : Int) ≤ (a : Int) := by omega
  have e1 : Hid ((m : Int) - (a : Int) = ((U.length : Nat) : Int)) := by show (m : Int) - (a : Int) = ((U.length : Nat) : Int); omega
  have e2 : Hid ((c : Int) - (m : Int) = ((V.length : Nat) : Int)) := by show (c : Int) - (m : Int) = ((V.length : Nat) : Int); omega
  clear hR ha hm hc hU hV hT
  go_enter Tryz.func119, Tryz.ntmps119
  go_wp2_with fail
  rw [e1.out, e2.out]
  go_loopw [10, 11] (fun iv jv wr => ∃ (i j : Nat) (A U V B : List α), iv = .int .i64 i ∧ jv = .int .i64 j ∧ Hid (Rot enc w b n m T i j wr A U V B)) (fun iv jv _ => (intOf iv).toNat + (intOf jv).toNat)
  case atStart => exact ⟨_, _, A, U, V, B, rfl, rfl, h0⟩
  case round =>
    clear h0 e1 e2 hn A B
    obtain ⟨i, j, A, U, V, B, rfl, rfl, hr⟩ := hrel
    obtain ⟨p, hp⟩ : ∃ p, Hid (A.length = p) := ⟨_, rfl⟩
    have q1 : p + i = m := by rw [← hp.out]; exact hr.out.am
    have q2 : p + i + j ≤ n := by rw [← hp.out]; have := hr.out.len; omega
    have q3 := hr.out.ip
    have q4 := hr.out.jp
    have g1 : (i : Int) ≤ (m : Int) := by omega
    have g2 : (0 : Int) ≤ (i : Int) := by omega
    have g3 : (m : Int) + (j : Int) ≤ 4611686018427387904 := by omega
    have g4 : (0 : Int) ≤ (j : Int) := by omega
    have ep : Hid ((m : Int) - (i : Int) = (p : Int)) := by show (m : Int) - (i : Int) = (p : Int); omega
    by_cases hij : i = j
    · subst hij
      have hsw := hid_of (swapRange_any E _ b n cap p m i cmp wr hr.out.row hr.out.dlen (by omega) (by omega) hnn)
      have hk : Hid (∀ w', RowE enc w' b (swapL (A ++ (U ++ (V ++ B))) p m i) → But b wr w' → RowE enc w' b T ∧ But b w w') := by
        intro w' h1 h2
        rw [← hp.out] at h1
        exact hr.out.last h1 h2
      clear hr hp
      go_wp2_with fail
      rw [ep.out]
      refine hsw.out.mono ?_
      rintro e w' ⟨rfl, h1, h2⟩
      have hz := hid_of (hk.out w' h1 h2)
      clear hsw hk h1 h2
      go_wp2_with fail
      exact bodyPost_end (results_none rfl _ _ _) rfl ⟨rfl, hz.out.1, hz.out.2⟩
    · have hne : ¬ (i : Int) = (j : Int) := by omega
      by_cases hlt : j < i
      · have hlt' : (j : Int) < (i : Int) := by omega
        have hsw := hid_of (swapRange_any E _ b n cap p m j cmp wr hr.out.row hr.out.dlen (by omega) (by omega) hnn)
        have hk : Hid (∀ w', RowE enc w' b (swapL (A ++ (U ++ (V ++ B))) p m j) → But b wr w' → ∃ A U V B, Rot enc w b n m T (i - j) j w' A U V B) := by
          intro w' h1 h2
          rw [← hp.out] at h1
          exact ⟨_, _, _, _, hr.out.left hlt h1 h2⟩
        have ed : Hid ((i : Int) - (j : Int) = ((i - j : Nat) : Int)) := by show (i : Int) - (j : Int) = ((i - j : Nat) : Int); omega
        clear hr hp
        go_wp2_with fail
        rw [ep.out]
        refine hsw.out.mono ?_
        rintro e w' ⟨rfl, h1, h2⟩
        have hz := hid_of (hk.out w' h1 h2)
        clear hsw hk h1 h2
        go_wp2_with fail
        obtain ⟨A, U, V, B, hz⟩ := hz.out
        exact ⟨⟨i - j, j, A, U, V, B, by rw [ed.out], rfl, hz⟩, by simp [intOf]; omega⟩
      · have hlt' : ¬ (j : Int) < (i : Int) := by omega
        have hsw := hid_of (swapRange_any E _ b n cap p (m + j - i) i cmp wr hr.out.row hr.out.dlen (by omega) (by omega) hnn)
        have hk : Hid (∀ w', RowE enc w' b (swapL (A ++ (U ++ (V ++ B))) p (m + j - i) i) → But b wr w' → ∃ A U V B, Rot enc w b n m T i (j - i) w' A U V B) := by
          intro w' h1 h2
          rw [← hp.out] at h1
          exact ⟨_, _, _, _, hr.out.right (by omega) h1 h2⟩
        have ed : Hid ((j : Int) - (i : Int) = ((j - i : Nat) : Int)) := by show (j : Int) - (i : Int) = ((j - i : Nat) : Int); omega
        have es : Hid ((m : Int) + (j : Int) - (i : Int) = ((m + j - i : Nat) : Int)) := by show (m : Int) + (j : Int) - (i : Int) = ((m + j - i : Nat) : Int); omega
        clear hr hp
        go_wp2_with fail
        rw [ep.out, es.out]
        refine hsw.out.mono ?_
        rintro e w' ⟨rfl, h1, h2⟩
        have hz := hid_of (hk.out w' h1 h2)
        clear hsw hk h1 h2
        go_wp2_with fail
        obtain ⟨A, U, V, B, hz⟩ := hz.out
        exact ⟨⟨i, j - i, A, U, V, B, rfl, by rw [ed.out], hz⟩, by simp [intOf]; omega⟩
end
end Go.Proofs.YthafhemlnninbaaGreat.Sorted
