import Derived.Test.YtnccaidlcaeeaaaGreatDoorW26
import Derived.Test.YtnccaidlcaeeaaaGreatDoorZ1
/-! What is written is read as itself: values; and what is read may be written. -/
namespace Go.Proofs.YtnccaidlcaeeaaaGreatDoor
open Go

mutual
/-- Names and items go together. -/
def wfJ : J → Prop
  | .list l => wfL l
  | .obj ns l => ns.length = l.length ∧ wfL l
  | _ => True
def wfL : List J → Prop
  | [] => True
  | j :: js => wfJ j ∧ wfL js
end
/-! Parts, one behind the other. -/
def joinT : List (List UInt8) → List UInt8
  | [] => []
  | p :: ps => p ++ ps.flatMap fun q => 44 :: q
theorem joinT_snoc (ps : List (List UInt8)) (p : List UInt8) : joinT (ps ++ [p]) = joinT ps ++ (if ps = [] then [] else [44]) ++ p := by
  cases ps with
  | nil => simp [joinT]
  | cons q qs => simp [joinT]
theorem accT_join (pre f : Nat → List UInt8) : ∀ n, accT pre f n = joinT ((List.range n).map fun i => pre i ++ f i)
  | 0 => rfl
  | n + 1 => by
    rw [accT, accT_join pre f n, List.range_succ, List.map_append, List.map_singleton, joinT_snoc, sepT]
    cases n with
    | zero => simp
    | succ n => simp [List.range_succ]
/-- What may follow a value. -/
def stopV (r : List UInt8) : Prop := ∀ a t, r = a :: t → a = 44 ∨ a = 93 ∨ a = 125
theorem stopV.n {r : List UInt8} (h : stopV r) : stopN r := fun a t e => by
  rcases h a t e with rfl | rfl | rfl <;> decide
theorem stopV_of {a : UInt8} {t : List UInt8} (h : a = 44 ∨ a = 93 ∨ a = 125) : stopV (a :: t) := fun b t' e => by
  cases e; exact h
/-- A byte with which a part may begin. -/
def headOk (a : UInt8) : Prop := blank a = false ∧ a ≠ 93 ∧ a ≠ 125
theorem skip_at {T : ByteArray} {n : Nat} {a : UInt8} {t : List UInt8} (h : tl T n = a :: t) (ha : blank a = false) : skip T n = n := by
  obtain ⟨h1, h2, _⟩ := tl_cons h
  exact skip_eq T n n (Nat.le_refl _) (by omega) (fun i _ _ => by omega) (Or.inr (by rw [h2]; exact ha))
inductive Steps {α : Type} (T : ByteArray) (part : α → Nat → Res α) : α → List (List UInt8) → α → Prop
  | nil (s : α) : Steps T part s [] s
  | cons (s s' s'' : α) (a : UInt8) (t : List UInt8) (ps : List (List UInt8)) (ha : headOk a) (h : ∀ n r, tl T n = (a :: t) ++ r → stopV r → part s n = .ok s' (n + (a :: t).length)) (hs : Steps T part s' ps s'') : Steps T part s ((a :: t) :: ps) s''
theorem loop_back {α : Type} {T : ByteArray} {part : α → Nat → Res α} {c : UInt8} (hc : c = 93 ∨ c = 125) {s s'' : α} {qs : List (List UInt8)} (hS : Steps T part s qs s'') :
    ∀ p ps, qs = p :: ps → ∀ f n r, tl T n = joinT qs ++ c :: r → T.size - n + 1 ≤ f → n ≤ T.size → loopR part c T f s n = .ok s'' (n + (joinT qs).length + 1) := by
  induction hS with
  | nil s => intro p ps e; cases e
  | cons s s' s'' a t ps ha h hs ih =>
    intro p0 ps0 e f n r htl hf hn
    clear e p0 ps0
    obtain ⟨f, rfl⟩ : ∃ g, f = g + 1 := ⟨f - 1, by omega⟩
    have hcb : blank c = false ∧ c ≠ 44 := by rcases hc with rfl | rfl <;> decide
    cases ps with
    | nil =>
      cases hs
      have htl' : tl T n = (a :: t) ++ c :: r := by rw [htl]; simp [joinT]
      have h1 := h n (c :: r) htl' (stopV_of (by rcases hc with h | h; exact Or.inr (Or.inl h); exact Or.inr (Or.inr h)))
      have h2 := tl_app htl'
      obtain ⟨h3, h4, _⟩ := tl_cons h2
      rw [loopR_succ, h1]
      simp only
      rw [skip_at h2 hcb.1, if_pos h3, if_pos h4]
      simp [joinT]
    | cons q qs =>
      have hj : joinT ((a :: t) :: q :: qs) = (a :: t) ++ 44 :: joinT (q :: qs) := by simp [joinT]
      have htl' : tl T n = (a :: t) ++ 44 :: (joinT (q :: qs) ++ c :: r) := by rw [htl, hj]; simp
      have h1 := h n _ htl' (stopV_of (Or.inl rfl))
      have h2 := tl_app htl'
      obtain ⟨h3, h4, h5⟩ := tl_cons h2
      have hk : skip T (n + (a :: t).length + 1) = n + (a :: t).length + 1 := by
        cases hs with
        | cons _ s2 _ b u _ hb _ _ =>
          exact skip_at (a := b) (t := u ++ (qs.flatMap fun q => 44 :: q) ++ c :: r) (by rw [h5]; simp [joinT]) hb.1
      have h6 := ih q qs rfl f (n + (a :: t).length + 1) r h5 (by omega) (by omega)
      rw [loopR_succ, h1]
      simp only
      rw [skip_at h2 (by decide), if_pos h3, h4, if_neg (fun e => hcb.2 e.symm), if_pos rfl, hk, h6, hj]
      simp only [List.length_append, List.length_cons]
      congr 1
      omega
theorem between_back {α : Type} {T : ByteArray} {part : α → Nat → Res α} {c o : UInt8} (hc : c = 93 ∨ c = 125) {s s'' : α} {qs : List (List UInt8)} (hS : Steps T part s qs s'') (n : Nat) (r : List UInt8) (h : tl T n = o :: (joinT qs ++ c :: r)) :
    betweenR part c T s n = .ok s'' (n + (joinT qs).length + 2) := by
  have hcb : blank c = false := by rcases hc with rfl | rfl <;> decide
  obtain ⟨h1, _, h3⟩ := tl_cons h
  unfold betweenR
  cases hS with
  | nil =>
    have h3' : tl T (n + 1) = c :: r := h3
    obtain ⟨h4, h5, _⟩ := tl_cons h3'
    rw [skip_at h3' hcb, if_pos h4, if_pos h5]
    rfl
  | cons _ s' _ a t ps ha hp hs =>
    have h3' : tl T (n + 1) = a :: (t ++ (ps.flatMap fun q => 44 :: q) ++ c :: r) := by rw [h3]; simp [joinT]
    obtain ⟨h4, h5, _⟩ := tl_cons h3'
    rw [skip_at h3' ha.1, if_pos h4, h5, if_neg (by rcases hc with rfl | rfl; exact ha.2.1; exact ha.2.2)]
    rw [loop_back hc (.cons s s' s'' a t ps ha hp hs) _ _ rfl _ (n + 1) r h3 (Nat.le_refl _) (by omega)]
    congr 1
    omega
theorem lit_back {T : ByteArray} : ∀ (cs : List UInt8) (n : Nat) (r : List UInt8), tl T n = cs ++ r → litR T cs n = .ok () (n + cs.length)
  | [], n, r, _ => rfl
  | c :: cs, n, r, h => by
    obtain ⟨h1, h2, h3⟩ := tl_cons (show tl T n = c :: (cs ++ r) from h)
    unfold litR
    rw [if_pos h1, if_pos h2, lit_back cs (n + 1) r h3, List.length_cons]
    congr 1
    omega
theorem head_text : (j : J) → ∃ a t, textJ j = a :: t ∧ headOk a
  | .null => ⟨110, _, by rw [textJ], by unfold headOk; decide⟩
  | .fls => ⟨102, _, by rw [textJ], by unfold headOk; decide⟩
  | .tru => ⟨116, _, by rw [textJ], by unfold headOk; decide⟩
  | .int x => by
    rw [textJ, Lib.itoa]
    split
    · exact ⟨45, _, rfl, by unfold headOk; decide⟩
    · obtain ⟨d, t, h, hd, _⟩ := dd_head x.toNat
      refine ⟨d, t, h, ?_⟩
      unfold digit at hd
      unfold headOk blank
      simp only [Bool.and_eq_true, decide_eq_true_eq, UInt8.le_iff_toNat_le] at hd
      have e1 : (48 : UInt8).toNat = 48 := rfl
      have e2 : (57 : UInt8).toNat = 57 := rfl
      have hne : ∀ k : UInt8, (k.toNat < 48 ∨ 57 < k.toNat) → d ≠ k := fun k hk e => by rw [e] at hd; omega
      have hbe : ∀ k : UInt8, (k.toNat < 48 ∨ 57 < k.toNat) → (d == k) = false := fun k hk => beq_false_of_ne (hne k hk)
      exact ⟨by rw [hbe 32 (by decide), hbe 9 (by decide), hbe 10 (by decide), hbe 13 (by decide)]; rfl, hne 93 (by decide), hne 125 (by decide)⟩
  | .text s => ⟨34, _, by rw [textJ]; rfl, by unfold headOk; decide⟩
  | .list l => ⟨91, _, by rw [textJ]; rfl, by unfold headOk; decide⟩
  | .obj ns l => ⟨123, _, by rw [textJ]; rfl, by unfold headOk; decide⟩
theorem val_head (T : ByteArray) (k n : Nat) : ∃ li ob, valR T (textR T) k n = headR T (textR T) n li ob := by
  cases k with
  | zero => exact ⟨_, _, by rw [valR]⟩
  | succ k => exact ⟨_, _, by rw [valR]⟩
theorem list_texts (l : List J) : accT (fun _ => []) (fun i => (textsL l).getD i []) l.length = joinT (l.map textJ) := by
  rw [accT_join]
  congr 1
  apply List.ext_getElem
  · simp
  · intro i h1 h2
    simp only [List.getElem_map, List.getElem_range, List.nil_append]
    exact textsL_get l i (by simpa using h2)
def memT (s : ByteArray) (j : J) : List UInt8 := qT s ++ 58 :: textJ j
theorem obj_texts (ns : List ByteArray) (l : List J) (h : ns.length = l.length) : accT (fun i => qT (nth ns i) ++ [58]) (fun i => (textsL l).getD i []) l.length = joinT (List.zipWith memT ns l) := by
  rw [accT_join]
  congr 1
  apply List.ext_getElem
  · simp [h]
  · intro i h1 h2
    have hi : i < l.length := by simpa using h1
    have hn : nth ns i = ns[i]'(by omega) := by
      unfold nth; rw [List.getD_eq_getElem?_getD, List.getElem?_eq_getElem (by omega)]; rfl
    simp only [List.getElem_map, List.getElem_range, List.getElem_zipWith, memT]
    rw [textsL_get l i hi, hn]
    simp
theorem name_back {T s : ByteArray} {had : List ByteArray} {n : Nat} {r : List UInt8} {a : UInt8} {t : List UInt8} (hv : Lib.validD s.data.toList = true) (hh : hasName had s = false) (h : tl T n = qT s ++ 58 :: (a :: t ++ r)) (ha : blank a = false) : nameR T (textR T) had n = .ok s (n + (qT s).length + 1) := by
  obtain ⟨h1, h2, h3⟩ := text_back hv h
  have h4 := tl_app h
  obtain ⟨h5, h6, h7⟩ := tl_cons h4
  unfold nameR
  rw [if_pos h1, if_pos h2, h3, nameFin, if_neg (by rw [hh]; decide), skip_at h4 (by decide), if_pos h5, if_pos h6, skip_at (a := a) (t := t ++ r) (by rw [h7]; rfl) ha]
mutual
theorem val_back {T : ByteArray} : (j : J) → ∀ (k d n : Nat) (r : List UInt8), okJ d j → d + k = 64 → smJ j → wfJ j → tl T n = textJ j ++ r → stopV r → valR T (textR T) k n = .ok j (n + (textJ j).length)
  | .null, k, d, n, r, _, _, _, _, h, _ => by
    obtain ⟨li, ob, e⟩ := val_head T k n
    rw [textJ] at h ⊢
    obtain ⟨h1, h2, _⟩ := tl_cons (show tl T n = 110 :: _ from h)
    rw [e, headR, if_pos h1, if_pos h2, lit_back _ n r h]; rfl
  | .tru, k, d, n, r, _, _, _, _, h, _ => by
    obtain ⟨li, ob, e⟩ := val_head T k n
    rw [textJ] at h ⊢
    obtain ⟨h1, h2, _⟩ := tl_cons (show tl T n = 116 :: _ from h)
    rw [e, headR, if_pos h1, if_neg (by rw [h2]; decide), if_pos h2, lit_back _ n r h]; rfl
  | .fls, k, d, n, r, _, _, _, _, h, _ => by
    obtain ⟨li, ob, e⟩ := val_head T k n
    rw [textJ] at h ⊢
    obtain ⟨h1, h2, _⟩ := tl_cons (show tl T n = 102 :: _ from h)
    rw [e, headR, if_pos h1, if_neg (by rw [h2]; decide), if_neg (by rw [h2]; decide), if_pos h2, lit_back _ n r h]; rfl
  | .int x, k, d, n, r, _, _, hs, _, h, hr => by
    obtain ⟨li, ob, e⟩ := val_head T k n
    rw [textJ] at h ⊢
    obtain ⟨h1, h2, h3⟩ := num_back hs.1 hs.2 h hr.n
    have hne : byteAt T n ≠ 110 ∧ byteAt T n ≠ 116 ∧ byteAt T n ≠ 102 := by
      refine ⟨fun e => ?_, fun e => ?_, fun e => ?_⟩ <;> rw [e] at h2 <;> revert h2 <;> decide
    rw [e, headR, if_pos h1, if_neg hne.1, if_neg hne.2.1, if_neg hne.2.2, if_pos h2, h3]; rfl
  | .text s, k, d, n, r, _, _, hs, _, h, _ => by
    obtain ⟨li, ob, e⟩ := val_head T k n
    rw [textJ] at h ⊢
    obtain ⟨h1, h2, h3⟩ := text_back hs.2 h
    rw [e, headR, if_pos h1, if_neg (by rw [h2]; decide), if_neg (by rw [h2]; decide), if_neg (by rw [h2]; decide), if_neg (by rw [h2]; decide), if_pos h2, h3]; rfl
  | .list l, k, d, n, r, ho, hk, hs, hw, h, _ => by
    obtain ⟨k, rfl⟩ : ∃ k', k = k' + 1 := ⟨k - 1, by have := ho.1; omega⟩
    rw [textJ_list, list_texts] at h ⊢
    have h' : tl T n = 91 :: (joinT (l.map textJ) ++ 93 :: r) := by rw [h]; simp
    obtain ⟨h1, h2, _⟩ := tl_cons h'
    have hS := list_back (T := T) l k (d + 1) [] ho.2.2 (by omega) hs.2 hw
    have hb := between_back (Or.inl rfl) hS n r h'
    rw [valR, headR, if_pos h1, if_neg (by rw [h2]; decide), if_neg (by rw [h2]; decide), if_neg (by rw [h2]; decide), if_neg (by rw [h2]; decide), if_neg (by rw [h2]; decide), if_pos h2, hb]
    simp only [Res.map, List.nil_append]
    congr 1
    simp only [List.length_append, List.length_cons, List.length_nil]
    omega
  | .obj ns l, k, d, n, r, ho, hk, hs, hw, h, _ => by
    obtain ⟨k, rfl⟩ : ∃ k', k = k' + 1 := ⟨k - 1, by have := ho.1; omega⟩
    rw [textJ_obj, obj_texts ns l hw.1] at h ⊢
    have h' : tl T n = 123 :: (joinT (List.zipWith memT ns l) ++ 125 :: r) := by rw [h]; simp
    obtain ⟨h1, h2, _⟩ := tl_cons h'
    have hS := obj_back (T := T) l k (d + 1) ns [] [] ho.2.2.1 hw.1 ho.2.2.2 (by omega) hs.2.2 hw.2
    have hb := between_back (Or.inr rfl) hS n r h'
    rw [valR, headR, if_pos h1, if_neg (by rw [h2]; decide), if_neg (by rw [h2]; decide), if_neg (by rw [h2]; decide), if_neg (by rw [h2]; decide), if_neg (by rw [h2]; decide), if_neg (by rw [h2]; decide), if_pos h2, hb]
    simp only [Res.map, List.nil_append]
    congr 1
    simp only [List.length_append, List.length_cons, List.length_nil]
    omega
theorem list_back {T : ByteArray} : (l : List J) → ∀ (k d : Nat) (had : List J), okL d l → d + k = 64 → smL l → wfL l → Steps T (itemR (valR T (textR T) k)) had (l.map textJ) (had ++ l)
  | [], k, d, had, _, _, _, _ => by rw [List.append_nil]; exact .nil had
  | j :: js, k, d, had, ho, hk, hs, hw => by
    obtain ⟨a, t, e, ha⟩ := head_text j
    have hT := list_back (T := T) js k d (had ++ [j]) ho.2 hk hs.2 hw.2
    rw [List.append_assoc] at hT
    rw [List.map_cons, e]
    refine .cons had (had ++ [j]) _ a t _ ha (fun n r h hr => ?_) hT
    rw [← e] at h ⊢
    rw [itemR, val_back j k d n r ho.1 hk hs.1 hw.1 h hr]; rfl
theorem obj_back {T : ByteArray} : (l : List J) → ∀ (k d : Nat) (ns had : List ByteArray) (hl : List J), NamesGood (had ++ ns) → ns.length = l.length → okL d l → d + k = 64 → smL l → wfL l → Steps T (memberR T (textR T) (valR T (textR T) k)) (had, hl) (List.zipWith memT ns l) (had ++ ns, hl ++ l)
  | [], k, d, ns, had, hl, _, hn, _, _, _, _ => by
    have : ns = [] := List.eq_nil_of_length_eq_zero (by simpa using hn)
    subst this
    rw [List.append_nil, List.append_nil]; exact .nil _
  | j :: js, k, d, [], had, hl, _, hn, _, _, _, _ => by simp at hn
  | j :: js, k, d, s :: ns, had, hl, hN, hn, ho, hk, hs, hw => by
    obtain ⟨a, t, e, ha⟩ := head_text j
    have hT := obj_back (T := T) js k d ns (had ++ [s]) (hl ++ [j]) (by rw [List.append_assoc]; exact hN) (by simpa using hn) ho.2 hk hs.2 hw.2
    rw [List.append_assoc, List.append_assoc] at hT
    rw [List.zipWith_cons_cons]
    have hg := hN had.length (by rw [List.length_append, List.length_cons]; omega)
    have hnth : nth (had ++ s :: ns) had.length = s := by
      unfold nth; rw [List.getD_eq_getElem?_getD, List.getElem?_append_right (Nat.le_refl _), Nat.sub_self]; rfl
    rw [hnth, List.take_left] at hg
    have em : memT s j = 34 :: (escT s.data.toList ++ [34] ++ 58 :: textJ j) := by simp [memT, qT]
    rw [em]
    refine .cons (had, hl) (had ++ [s], hl ++ [j]) _ 34 _ _ (by unfold headOk; decide) (fun n r h hr => ?_) hT
    rw [← em] at h ⊢
    have h' : tl T n = qT s ++ 58 :: (a :: t ++ r) := by rw [h, memT, e]; simp
    have hn1 := name_back (had := had) hg.2.1 hg.2.2 h' ha.1
    have h2 : tl T (n + (qT s).length + 1) = textJ j ++ r := by
      have := tl_app h'
      obtain ⟨_, _, h3⟩ := tl_cons this
      rw [h3, e]
    rw [memberR, hn1]
    simp only
    rw [val_back j k d _ r ho.1 hk hs.1 hw.1 h2 hr]
    simp only [Res.map, memT, List.length_append, List.length_cons]
    congr 1
    omega
end
theorem whole_back (j : J) (ho : okJ 0 j) (hs : smJ j) (hw : wfJ j) : wholeR ⟨(textJ j).toArray⟩ (textR ⟨(textJ j).toArray⟩) = .ok j 0 := by
  obtain ⟨a, t, e, ha⟩ := head_text j
  have h0 : tl (⟨(textJ j).toArray⟩ : ByteArray) 0 = textJ j ++ [] := by unfold tl; simp
  have hk : skip (⟨(textJ j).toArray⟩ : ByteArray) 0 = 0 := skip_at (a := a) (t := t) (by rw [h0, e]; simp) ha.1
  have hsz : (⟨(textJ j).toArray⟩ : ByteArray).size = (textJ j).length := by show (textJ j).toArray.size = _; simp
  unfold wholeR
  rw [hk, val_back j 64 0 0 [] ho rfl hs hw h0 (fun a t e => by cases e), tailR, if_neg]
  have := skip_bd (⟨(textJ j).toArray⟩ : ByteArray) (0 + (textJ j).length) (by omega)
  omega
theorem okL_snoc {d : Nat} {j : J} (hj : okJ d j) : (l : List J) → okL d l → okL d (l ++ [j])
  | [], _ => ⟨hj, trivial⟩
  | _ :: l, h => ⟨h.1, okL_snoc hj l h.2⟩
theorem smL_snoc {j : J} (hj : smJ j) : (l : List J) → smL l → smL (l ++ [j])
  | [], _ => ⟨hj, trivial⟩
  | _ :: l, h => ⟨h.1, smL_snoc hj l h.2⟩
theorem wfL_snoc {j : J} (hj : wfJ j) : (l : List J) → wfL l → wfL (l ++ [j])
  | [], _ => ⟨hj, trivial⟩
  | _ :: l, h => ⟨h.1, wfL_snoc hj l h.2⟩
theorem lenL_snoc (j : J) : (l : List J) → lenL (l ++ [j]) = lenL l + lenJ j
  | [] => by simp [lenL]
  | i :: l => by rw [List.cons_append, lenL, lenL, lenL_snoc j l]; omega
theorem upTo_eq {f g : Nat → Nat} : ∀ n, (∀ i, i < n → f i = g i) → upTo f n = upTo g n
  | 0, _ => rfl
  | n + 1, h => by rw [upTo, upTo, upTo_eq n (fun i hi => h i (by omega)), h n (by omega)]
theorem nth_snoc (ns : List ByteArray) (s : ByteArray) (i : Nat) : nth (ns ++ [s]) i = if i < ns.length then nth ns i else if i = ns.length then s else noS := by
  unfold nth
  rw [List.getD_eq_getElem?_getD, List.getD_eq_getElem?_getD]
  split
  · rw [List.getElem?_append_left (by assumption)]
  · rw [List.getElem?_append_right (by omega)]
    split
    · rename_i h; rw [h, Nat.sub_self]; rfl
    · rw [List.getElem?_eq_none (by simp; omega)]; rfl
theorem names_snoc {ns : List ByteArray} {s : ByteArray} (h : NamesGood ns) (h1 : s.size ≤ 65536) (h2 : Lib.validD s.data.toList = true) (h3 : hasName ns s = false) : NamesGood (ns ++ [s]) := by
  intro i hi
  rw [List.length_append, List.length_singleton] at hi
  rw [nth_snoc]
  by_cases e : i < ns.length
  · rw [if_pos e, List.take_append_of_le_length (by omega)]
    exact h i e
  · have : i = ns.length := by omega
    rw [if_neg e, if_pos this, this, List.take_left]
    exact ⟨h1, h2, h3⟩
theorem nameLen_snoc (ns : List ByteArray) (s : ByteArray) : upTo (nameLen (ns ++ [s])) (ns ++ [s]).length = upTo (nameLen ns) ns.length + (qT s).length + 1 := by
  rw [List.length_append, List.length_singleton, upTo]
  have h1 : upTo (nameLen (ns ++ [s])) ns.length = upTo (nameLen ns) ns.length := upTo_eq _ fun i hi => by
    unfold nameLen; rw [nth_snoc, if_pos hi]
  have h2 : nameLen (ns ++ [s]) ns.length = (qT s).length + 1 := by
    unfold nameLen; rw [nth_snoc, if_neg (by omega), if_pos rfl]
  omega
/-- What a read value keeps to; it lay in w bytes; its depth is d. -/
def GoodJ (d : Nat) (j : J) (b : Nat) : Prop := okJ d j ∧ smJ j ∧ wfJ j ∧ lenJ j ≤ 20 * b
theorem itoa_len (x : Int) (h0 : -9223372036854775808 ≤ x) (h1 : x ≤ 9223372036854775807) : (Lib.itoa x).length ≤ 20 := by
  have hd : ∀ u, u ≤ 9223372036854775808 → (Lib.decDigits u).length ≤ 19 := fun u hu => by
    rw [Lib.decDigits_length]
    rcases Nat.lt_or_ge (Lib.nDigits u) 20 with h | h
    · omega
    · exfalso
      have hp : ∀ k u, Lib.nDigits u = k + 1 → u ≠ 0 → 10 ^ k ≤ u := by
        intro k
        induction k with
        | zero => intro u _ hu; simp; omega
        | succ k ih =>
          intro u hk hu
          by_cases h10 : u < 10
          · rw [Lib.nDigits_small h10] at hk; omega
          · rw [Lib.nDigits_big h10] at hk
            have := ih (u / 10) (by omega) (by omega)
            rw [Nat.pow_succ]; omega
      have hu0 : u ≠ 0 := fun e => by subst e; rw [Lib.nDigits_small (by omega)] at h; omega
      have h2 := hp (Lib.nDigits u - 1) u (by omega) hu0
      have h3 : 10 ^ 19 ≤ 10 ^ (Lib.nDigits u - 1) := Nat.pow_le_pow_right (by omega) (by omega)
      have h4 : (10 ^ 19 : Nat) = 10000000000000000000 := by decide
      omega
  unfold Lib.itoa
  split
  · rw [List.length_cons]; have := hd x.natAbs (by omega); omega
  · have := hd x.toNat (by omega); omega
theorem num_good {T : ByteArray} {n m : Nat} {x : Int} (h : numR T n = .ok x m) : -9223372036854775808 ≤ x ∧ x ≤ 9223372036854775807 := by
  unfold numR at h
  generalize (if byteAt T n = 45 then n + 1 else n) = k at h
  unfold numAt at h
  split at h
  · split at h
    · generalize (T.extract n (numEnd T k)).data.toList = l at h
      cases hp : Lib.parseIntB 64 l with
      | «syntax» => rw [hp] at h; cases h
      | range => rw [hp] at h; cases h
      | ok v =>
        rw [hp, numFin] at h
        split at h
        · cases h
        · cases h
          have e63 : (2 ^ (64 - 1) : Nat) = 9223372036854775808 := by decide
          unfold Lib.parseIntB at hp
          cases l with
          | nil => cases hp
          | cons c r =>
            simp only [e63] at hp
            split at hp
            · cases hp
            · cases hp
            · rename_i u hu
              split at hp
              · cases hp
              · split at hp
                · cases hp
                · simp only [Lib.NumEnd.ok.injEq] at hp
                  split at hp <;> omega
    · cases h
  · cases h
/-- Lists: what is kept from part to part; n: behind the bracket. -/
def InvL (d n : Nat) (l : List J) (p : Nat) : Prop := okL d l ∧ smL l ∧ wfL l ∧ lenL l + l.length ≤ 20 * (p - n) ∧ l.length ≤ p - n ∧ n ≤ p
def InvO (d n : Nat) (s : List ByteArray × List J) (p : Nat) : Prop := okL d s.2 ∧ smL s.2 ∧ wfL s.2 ∧ NamesGood s.1 ∧ s.1.length = s.2.length ∧ upTo (nameLen s.1) s.1.length + lenL s.2 + s.2.length ≤ 20 * (p - n) ∧ s.2.length ≤ p - n ∧ n ≤ p
theorem loop_inv {α : Type} {T : ByteArray} {part : α → Nat → Res α} {c : UInt8} (Inv : α → Nat → Prop) (hF : ∀ s n, n ≤ T.size → Fine T n (part s n)) (hP : ∀ s n s' m, n ≤ T.size → Inv s n → part s n = .ok s' m → Inv s' (m + 1)) (hU : ∀ s p q, Inv s p → p ≤ q → Inv s q) :
    ∀ f s n s' m, n ≤ T.size → Inv s n → loopR part c T f s n = .ok s' m → Inv s' m := by
  intro f
  induction f with
  | zero => intro s n s' m _ _ h; cases h
  | succ f ih =>
    intro s n s' m hn hI h
    rw [loopR_succ] at h
    have hf := hF s n hn
    cases hx : part s n with
    | bad e q => rw [hx] at h; cases h
    | ok s1 n1 =>
      rw [hx] at h hf
      have h1 := hP s n s1 n1 hn hI hx
      have hb := skip_bd T n1 hf.2
      simp only at h
      split at h
      · split at h
        · cases h
          exact hU _ _ _ h1 (by omega)
        · split at h
          · have hb' := skip_bd T (skip T n1 + 1) (by omega)
            exact ih s1 _ s' m hb'.2 (hU _ _ _ h1 (by omega)) h
          · cases h
      · cases h
theorem between_inv {α : Type} {T : ByteArray} {part : α → Nat → Res α} {c : UInt8} (Inv : α → Nat → Prop) (hF : ∀ s n, n ≤ T.size → Fine T n (part s n)) (hP : ∀ s n s' m, n ≤ T.size → Inv s n → part s n = .ok s' m → Inv s' (m + 1)) (hU : ∀ s p q, Inv s p → p ≤ q → Inv s q)
    (s : α) (n : Nat) (s' : α) (m : Nat) (hn : n < T.size) (hI : Inv s (n + 1)) (h : betweenR part c T s n = .ok s' m) : Inv s' m := by
  have hb := skip_bd T (n + 1) (by omega)
  unfold betweenR at h
  split at h
  · split at h
    · cases h; exact hU _ _ _ hI (by omega)
    · exact loop_inv Inv hF hP hU _ s _ s' m hb.2 (hU _ _ _ hI (by omega)) h
  · cases h
theorem map_ok {α β : Type} {f : α → β} {x : Res α} {y : β} {m : Nat} (h : x.map f = .ok y m) : ∃ v, x = .ok v m ∧ f v = y := by
  cases x with
  | ok v n => simp only [Res.map, Res.ok.injEq] at h; obtain ⟨h1, rfl⟩ := h; exact ⟨v, rfl, h1⟩
  | bad e q => cases h
theorem name_good {T s : ByteArray} {had : List ByteArray} {n m : Nat} (h : nameR T (textR T) had n = .ok s m) : Lib.validD s.data.toList = true ∧ hasName had s = false ∧ s.size + n + 3 ≤ m ∧ m ≤ T.size := by
  unfold nameR at h
  split at h
  · rename_i hn
    split at h
    · cases hx : textR T n with
      | bad e q => rw [hx] at h; cases h
      | ok t k =>
        rw [hx, nameFin] at h
        have hg := text_good hn hx
        have hb := skip_bd T k hg.2.2
        split at h
        · cases h
        · rename_i hh
          split at h
          · split at h
            · cases h
              have hb' := skip_bd T (skip T k + 1) (by omega)
              refine ⟨hg.1, by simpa using hh, by omega, hb'.2⟩
            · cases h
          · cases h
    · cases h
  · cases h
theorem head_good {T : ByteArray} (hT : T.size ≤ 65536) {d n m : Nat} {li ob : Res J} {j : J} (hd : d ≤ 64) (hn : n ≤ T.size) (hl : ∀ j m, n < T.size → li = .ok j m → GoodJ d j (m - n)) (ho : ∀ j m, n < T.size → ob = .ok j m → GoodJ d j (m - n)) (h : headR T (textR T) n li ob = .ok j m) : GoodJ d j (m - n) := by
  unfold headR at h
  split at h
  · rename_i hlt
    have hlit : ∀ cs v, litR T cs n = .ok v m → cs ≠ [] → n < m := fun cs v hx hc => by
      have := lit_fine T cs n hc hn
      rw [hx] at this; exact this.1
    split at h
    · obtain ⟨v, hx, rfl⟩ := map_ok h
      have := hlit _ _ hx (by simp)
      exact ⟨hd, trivial, trivial, by rw [lenJ]; omega⟩
    · split at h
      · obtain ⟨v, hx, rfl⟩ := map_ok h
        have := hlit _ _ hx (by simp)
        exact ⟨hd, trivial, trivial, by rw [lenJ]; omega⟩
      · split at h
        · obtain ⟨v, hx, rfl⟩ := map_ok h
          have := hlit _ _ hx (by simp)
          exact ⟨hd, trivial, trivial, by rw [lenJ]; omega⟩
        · split at h
          · obtain ⟨x, hx, rfl⟩ := map_ok h
            have hr := num_good hx
            have hlen := itoa_len x hr.1 hr.2
            have : n < m := by
              have hf : Fine T n (numR T n) := by
                unfold numR
                split
                · exact num_fine T n (n + 1) (by omega) (by omega)
                · exact num_fine T n n (by omega) (by omega)
              rw [hx] at hf; exact hf.1
            exact ⟨hd, hr, trivial, by rw [lenJ]; omega⟩
          · split at h
            · obtain ⟨s, hx, rfl⟩ := map_ok h
              have hg := text_good hlt hx
              have hq := qT_len s
              have hs : s.size ≤ 65536 := by omega
              exact ⟨⟨hd, hs, hg.1⟩, ⟨hs, hg.1⟩, trivial, by rw [lenJ]; omega⟩
            · split at h
              · exact hl j m hlt h
              · split at h
                · exact ho j m hlt h
                · cases h
  · cases h
theorem val_good {T : ByteArray} (hT : T.size ≤ 65536) : ∀ k d n j m, d + k = 64 → n ≤ T.size → valR T (textR T) k n = .ok j m → GoodJ d j (m - n) := by
  intro k
  induction k with
  | zero =>
    intro d n j m hd hn h
    rw [valR] at h
    exact head_good hT (by omega) hn (fun j m _ h => by cases h) (fun j m _ h => by cases h) h
  | succ k ih =>
    intro d n j m hd hn h
    rw [valR] at h
    refine head_good hT (by omega) hn (fun j m hlt h => ?_) (fun j m hlt h => ?_) h
    · obtain ⟨l, hx, rfl⟩ := map_ok h
      have hfi := between_fine T _ 93 (fun s m hm => (val_fine T k m hm).map (fun j => s ++ [j])) [] n hlt
      have hfi' : Fine T n (betweenR (itemR (valR T (textR T) k)) 93 T [] n) := hfi
      rw [hx] at hfi'
      have hI := between_inv (InvL (d + 1) (n + 1)) (fun s m hm => (val_fine T k m hm).map (fun j => s ++ [j])) (fun s p s' q hp hI hq => by
        obtain ⟨j, hj, rfl⟩ := map_ok (show Res.map _ _ = _ from hq)
        have hg := ih (d + 1) p j q (by omega) hp hj
        have hf := val_fine T k p hp
        rw [hj] at hf
        obtain ⟨a1, a2, a3, a4, a5, a6⟩ := hI
        obtain ⟨g1, g2, g3, g4⟩ := hg
        have := hf.1
        refine ⟨okL_snoc g1 _ a1, smL_snoc g2 _ a2, wfL_snoc g3 _ a3, ?_, ?_, ?_⟩
        · rw [lenL_snoc, List.length_append, List.length_singleton]; omega
        · rw [List.length_append, List.length_singleton]; omega
        · omega)
        (fun s p q hI hpq => ⟨hI.1, hI.2.1, hI.2.2.1, by have := hI.2.2.2.1; omega, by have := hI.2.2.2.2.1; omega, by have := hI.2.2.2.2.2; omega⟩) [] n l m hlt ⟨trivial, trivial, trivial, by simp [lenL], by simp, Nat.le_refl _⟩ hx
      obtain ⟨a1, a2, a3, a4, a5, a6⟩ := hI
      have h1 := hfi'.1
      have h2 := hfi'.2
      refine ⟨⟨by omega, by omega, a1⟩, ⟨by omega, a2⟩, a3, ?_⟩
      rw [lenJ]
      omega
    · obtain ⟨s, hx, rfl⟩ := map_ok h
      have hF : ∀ (s : List ByteArray × List J) p, p ≤ T.size → Fine T p (memberR T (textR T) (valR T (textR T) k) s p) := fun s p hp => by
        rw [memberR_eq]
        have h1 := name_fine T s.1 p hp
        cases hx : nameR T (textR T) s.1 p with
        | bad e q => rw [hx] at h1; exact h1
        | ok nm m' =>
          rw [hx] at h1
          exact ((val_fine T k m' h1.2).map _).up (by have := h1.1; omega)
      have hfi := between_fine T _ 125 hF ([], []) n hlt
      rw [hx] at hfi
      have hI := between_inv (InvO (d + 1) (n + 1)) hF (fun s p s' q hp hI hq => by
        rw [memberR_eq] at hq
        cases hnm : nameR T (textR T) s.1 p with
        | bad e q => rw [hnm] at hq; cases hq
        | ok nm p' =>
          rw [hnm] at hq
          obtain ⟨j, hj, rfl⟩ := map_ok (show Res.map _ _ = _ from hq)
          obtain ⟨n1, n2, n3, n4⟩ := name_good hnm
          have hg := ih (d + 1) p' j q (by omega) n4 hj
          have hf := val_fine T k p' n4
          rw [hj] at hf
          obtain ⟨a1, a2, a3, a4, a5, a6, a7, a8⟩ := hI
          obtain ⟨g1, g2, g3, g4⟩ := hg
          have := hf.1
          have hqT := qT_len nm
          refine ⟨okL_snoc g1 _ a1, smL_snoc g2 _ a2, wfL_snoc g3 _ a3, names_snoc a4 (by omega) n1 n2, ?_, ?_, ?_, ?_⟩
          · simp only [List.length_append, List.length_singleton]; omega
          · show upTo (nameLen (s.1 ++ [nm])) (s.1 ++ [nm]).length + lenL (s.2 ++ [j]) + (s.2 ++ [j]).length ≤ _
            rw [nameLen_snoc, lenL_snoc, List.length_append, List.length_singleton]; omega
          · show (s.2 ++ [j]).length ≤ _
            rw [List.length_append, List.length_singleton]; omega
          · omega)
        (fun s p q hI hpq => ⟨hI.1, hI.2.1, hI.2.2.1, hI.2.2.2.1, hI.2.2.2.2.1, by have := hI.2.2.2.2.2.1; omega, by have := hI.2.2.2.2.2.2.1; omega, by have := hI.2.2.2.2.2.2.2; omega⟩) ([], []) n s m hlt ⟨trivial, trivial, trivial, fun i hi => absurd hi (by simp), rfl, by simp [lenL, upTo], by simp, Nat.le_refl _⟩ hx
      obtain ⟨a1, a2, a3, a4, a5, a6, a7, a8⟩ := hI
      have h1 := hfi.1
      have h2 := hfi.2
      refine ⟨⟨by omega, by omega, a4, a1⟩, ⟨by omega, fun i hi => ⟨(a4 i hi).1, (a4 i hi).2.1⟩, a2⟩, ⟨a5, a3⟩, ?_⟩
      rw [lenJ]
      omega
theorem whole_good {T : ByteArray} (hT : T.size ≤ 65536) {j : J} {n : Nat} (h : wholeR T (textR T) = .ok j n) : okJ 0 j ∧ smJ j ∧ wfJ j ∧ lenJ j ≤ 1310720 := by
  have hb := skip_bd T 0 (by omega)
  unfold wholeR at h
  cases hx : valR T (textR T) 64 (skip T 0) with
  | bad e q => rw [hx] at h; cases h
  | ok j' m =>
    rw [hx, tailR] at h
    have hg := val_good hT 64 0 _ j' m rfl hb.2 hx
    have hf := val_fine T 64 _ hb.2
    rw [hx] at hf
    have := hf.2
    split at h
    · cases h
    · cases h
      exact ⟨hg.1, hg.2.1, hg.2.2.1, by have := hg.2.2.2; omega⟩
/-! How long a value's text is. -/
theorem accT_length (pre f : Nat → List UInt8) : ∀ n, (accT pre f n).length = upTo (fun i => (pre i).length + (f i).length) n + (n - 1)
  | 0 => rfl
  | n + 1 => by
    rw [accT, upTo, List.length_append, List.length_append, List.length_append, accT_length pre f n, sepT]
    cases n with
    | zero => simp [upTo]
    | succ n => simp; omega
theorem upTo_add (f g : Nat → Nat) : ∀ n, upTo (fun i => f i + g i) n = upTo f n + upTo g n
  | 0 => rfl
  | n + 1 => by rw [upTo, upTo, upTo, upTo_add f g n]; omega
mutual
theorem text_len : (j : J) → wfJ j → (textJ j).length = lenJ j
  | .null, _ => by rw [textJ, lenJ]; rfl
  | .fls, _ => by rw [textJ, lenJ]; rfl
  | .tru, _ => by rw [textJ, lenJ]; rfl
  | .int x, _ => by rw [textJ, lenJ]
  | .text s, _ => by rw [textJ, lenJ]
  | .list l, h => by
    have hl := texts_len l h
    rw [textJ_list, lenJ, List.length_append, List.length_append, accT_length, upTo_add, upTo_eq l.length hl, lenL_upTo]
    have : upTo (fun _ => ([] : List UInt8).length) l.length = 0 := by
      generalize l.length = n
      induction n with
      | zero => rfl
      | succ n ih => rw [upTo, ih]; rfl
    rw [this]
    simp only [List.length_cons, List.length_nil]
    omega
  | .obj ns l, h => by
    have hl := texts_len l h.2
    rw [textJ_obj, lenJ, List.length_append, List.length_append, accT_length, upTo_add, upTo_eq l.length hl, lenL_upTo, h.1]
    have : upTo (fun i => (qT (nth ns i) ++ [58]).length) l.length = upTo (nameLen ns) l.length := upTo_eq _ fun i _ => by unfold nameLen; rw [List.length_append]; rfl
    rw [this]
    simp only [List.length_cons, List.length_nil]
    omega
theorem texts_len : (l : List J) → wfL l → ∀ i, i < l.length → ((textsL l).getD i []).length = lenJ (jth l i)
  | [], _, i, h => absurd h (by simp)
  | j :: js, hw, 0, _ => by rw [textsL]; exact text_len j hw.1
  | j :: js, hw, i + 1, h => by
    rw [textsL]
    exact texts_len js hw.2 i (by simpa using h)
end
end Go.Proofs.YtnccaidlcaeeaaaGreatDoor
