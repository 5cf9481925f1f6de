import Derived.Test.YthafhemlnninbaaGreatSZ
/-! Stable sorting over memory: block by block. -/
namespace Go.Stab
variable {α : Type}
theorem blocks_next (lt : α → α → Bool) {s : Nat} (hs : 0 < s) {l : List α} : blocks lt s l = isort lt (l.take s) ++ blocks lt s (l.drop s) := by
  rcases Nat.lt_or_ge s l.length with h' | h'
  · exact blocks_long lt hs h'
  · rw [blocks_short lt h', List.take_of_length_le h', List.drop_eq_nil_of_le h', blocks_short lt (by simp), show isort lt ([] : List α) = [] from rfl, List.append_nil]
/-- What is done of a pass, and what is still to come. -/
structure Part (lt : α → α → Bool) (s : Nat) (D P R : List α) (a n : Nat) : Prop where
  len : P.length = a
  sum : a + R.length = n
  all : blocks lt s D = P ++ blocks lt s R
theorem Part.zero (lt : α → α → Bool) (s : Nat) (D : List α) : Part lt s D [] D 0 D.length := ⟨rfl, by omega, rfl⟩
theorem Part.step {lt : α → α → Bool} {s : Nat} (hs : 0 < s) {D P R : List α} {a n : Nat} (h : Part lt s D P R a n) (hl : a + s ≤ n) : Part lt s D (P ++ isort lt (R.take s)) (R.drop s) (a + s) n := by
  have h1 := h.sum
  refine ⟨by rw [List.length_append, h.len, isort_length, List.length_take]; omega, by rw [List.length_drop]; omega, ?_⟩
  rw [h.all, blocks_next lt hs, List.append_assoc]
theorem Part.last {lt : α → α → Bool} {s : Nat} {D P R : List α} {a n : Nat} (h : Part lt s D P R a n) (hl : n ≤ a + s) : blocks lt s D = P ++ isort lt R := by
  have h1 := h.sum
  rw [h.all, blocks_short lt (by omega)]
theorem two_blocks (lt : α → α → Bool) {s : Nat} (hs : 0 < s) {R : List α} : blocks lt s R = isort lt (R.take s) ++ (isort lt ((R.drop s).take s) ++ blocks lt s (R.drop (2 * s))) := by
  rw [blocks_next lt hs, blocks_next lt hs (l := R.drop s), List.drop_drop, show s + s = 2 * s by omega]
theorem rest_blocks (lt : α → α → Bool) {s : Nat} (hs : 0 < s) {R : List α} (h2 : R.length ≤ 2 * s) : blocks lt s R = isort lt (R.take s) ++ isort lt (R.drop s) := by
  rw [blocks_next lt hs, blocks_short lt (l := R.drop s) (by rw [List.length_drop]; omega)]
theorem mergeL_map {β : Type} (f : α → β) {lt : α → α → Bool} {lt' : β → β → Bool} (h : ∀ x y, lt x y = lt' (f x) (f y)) : ∀ (l r : List α), (mergeL lt l r).map f = mergeL lt' (l.map f) (r.map f)
  | [], r => by simp [nil_mergeL]
  | x :: l, [] => by simp [mergeL_nil]
  | x :: l, y :: r => by
    rw [mergeL_cons, List.map_cons, List.map_cons, mergeL_cons, h]
    split
    · rw [List.map_cons, mergeL_map f h (x :: l) r, List.map_cons]
    · rw [List.map_cons, mergeL_map f h l (y :: r), List.map_cons]
termination_by l r => l.length + r.length
theorem isort_map {β : Type} (f : α → β) {lt : α → α → Bool} {lt' : β → β → Bool} (h : ∀ x y, lt x y = lt' (f x) (f y)) (l : List α) : (isort lt l).map f = isort lt' (l.map f) := by
  unfold isort
  rw [List.foldl_map]
  suffices ∀ (l s : List α), (l.foldl (fun s y => mergeL lt s [y]) s).map f = l.foldl (fun s y => mergeL lt' s [f y]) (s.map f) from this l []
  intro l
  induction l with
  | nil => intro s; rfl
  | cons y l ih => intro s; rw [List.foldl_cons, List.foldl_cons, ih, mergeL_map f h]; rfl
end Go.Stab
namespace Go.Proofs.YthafhemlnninbaaGreat.Sorted
open Go Go.RowKit Go.Stab
section
variable {α : Type} {enc : α → Array Value} {rv : Value}
set_option maxRecDepth 100000 in
set_option maxHeartbeats 8000000 in
theorem stable_any (E : Enc enc) {lt : α → α → Bool} (O : Swo lt) {b : Nat} {w0 : World} (cn : α → α → Int) (hlt : ∀ x y, lt x y = decide (cn x y < 0)) (hcmp : ∀ x y W, But b w0 W → Calls Tryz.prog 38 #[rv, .agg (enc x), .agg (enc y)] W fun e w' => e = .returned (.int .i64 (cn x y)) ∧ Below W.heap.size W w')
    (D : List α) (n cap : Nat) (w : World) (hw0 : But b w0 w) (hR : RowE enc w b D) (hn : D.length = n) (hnn : n ≤ 1152921504606846976) :
    Calls Tryz.prog 58 #[.slice (some ⟨b, 0, none⟩) n cap, .int .i64 n, .func (.func 38) #[rv] #[]] w fun e w' => e = .returned (.tuple #[]) ∧ RowE enc w' b (isort lt D) ∧ But b w w' := by
  have insert := hid_of (fun (A M B : List α) (a c : Nat) (W : World) (h1 : But b w0 W) (h2 : RowE enc W b (A ++ (M ++ B))) (h3 : A.length = a) (h4 : a + M.length = c) (h5 : c + B.length = n) => insert_any E O cn hlt hcmp A M B n cap a c W h1 h2 h3 h4 h5 (by omega))
  have sym := hid_of (fun (A L R B : List α) (a m c : Nat) (W : World) (h0 : But b w0 W) (h1 : RowE enc W b (A ++ (L ++ (R ++ B)))) (hl : Up lt L) (hr : Up lt R) (h2 : 0 < L.length) (h3 : 0 < R.length) (h4 : A.length = a) (h5 : a + L.length = m) (h6 : m + R.length = c) (h7 : c + B.length = n) => sym_any E O cn hlt hcmp n cap (by omega) (L.length + R.length) A L R B a m c W h0 h1 hl hr h2 h3 rfl h4 h5 h6 h7)
  have p0 : Hid (Part lt 20 D [] D 0 n) := by rw [← hn]; exact Part.zero lt 20 D
  replace hw0 := hid_of hw0
  replace hR := hid_of hR
  replace hn := hid_of hn
  have n1 : (n : Int) ≤ 1152921504606846976 := by omega
  have n0 : (0 : Int) ≤ (n : Int) := by omega
  clear hlt hcmp
  go_enter Tryz.func58, Tryz.ntmps58
  go_wp2_with fail
  go_loopw [7, 8] (fun av bv wr => ∃ (a c : Nat) (P R : List α), av = .int .i64 a ∧ bv = .int .i64 c ∧ Hid (a + 20 = c) ∧ a ≤ n ∧ Hid (Part lt 20 D P R a n) ∧ Hid (RowE enc wr b (P ++ R)) ∧ Hid (But b w wr)) (fun av _ _ => n - (intOf av).toNat)
  case atStart => exact ⟨0, 20, [], D, rfl, rfl, rfl, Nat.zero_le _, p0, hR, hid_of (But.refl b w)⟩
  case round =>
    clear p0
    obtain ⟨a, c, P, R, rfl, rfl, hac, han, hp, hr, hb⟩ := hrel
    have a0 : (0 : Int) ≤ (a : Int) := by omega
    have a1 : (a : Int) ≤ 1152921504606846976 := by omega
    have c1 : (c : Int) ≤ 1152921504606847000 := by have := hac.out; omega
    have c0 : (0 : Int) ≤ (c : Int) := by omega
    by_cases hcn : c ≤ n
    · have hcn' : (c : Int) ≤ (n : Int) := by omega
      have call := hid_of (insert.out P (R.take 20) (R.drop 20) a c wr (hw0.out.trans hb.out) (by rw [List.take_append_drop]; exact hr.out) hp.out.len (by have := hp.out.sum; have := hac.out; rw [List.length_take]; omega) (by have := hp.out.sum; have := hac.out; rw [List.length_drop]; omega))
      have hp' : Hid (Part lt 20 D (P ++ isort lt (R.take 20)) (R.drop 20) c n) := by have := hac.out; subst this; exact hp.out.step (by omega) (by omega)
      obtain ⟨c', hc'⟩ : ∃ c' : Nat, Hid (c + 20 = c') := ⟨_, rfl⟩
      have ec : Hid ((c : Int) + 20 = (c' : Int)) := by show (c : Int) + 20 = (c' : Int); have := hc'.out; omega
      have hm : Hid (n - c < n - a) := by show n - c < n - a; have := hac.out; omega
      go_wp2_with fail
      refine call.out.mono ?_
      rintro e X ⟨rfl, hx, hbx⟩
      have hx' : Hid (RowE enc X b ((P ++ isort lt (R.take 20)) ++ R.drop 20)) := by rw [List.append_assoc]; exact hx
      have hb' := hid_of (hb.out.trans hbx)
      clear call hx hbx hr hb hp insert sym
      go_wp2_with fail
      rw [ec.out]
      exact ⟨⟨c, c', _, _, rfl, rfl, hc', hcn, hp', hx', hb'⟩, by simp only [intOf]; exact hm.out⟩
    · have hcn' : ¬ (c : Int) ≤ (n : Int) := by omega
      have call := hid_of (insert.out P R [] a n wr (hw0.out.trans hb.out) (by rw [List.append_nil]; exact hr.out) hp.out.len hp.out.sum (by simp))
      have he : Hid (P ++ (isort lt R ++ []) = blocks lt 20 D) := by show _ = _; rw [List.append_nil, hp.out.last (by have := hac.out; omega)]
      rw [he.out] at call
      clear he hac hp hr a0 a1 c1 c0 insert
      go_wp2_with fail
      refine call.out.mono ?_
      rintro e X ⟨rfl, hx, hbx⟩
      replace hx := hid_of hx
      have hb' := hid_of (hb.out.trans hbx)
      clear call hbx hb hcn hcn' han
      go_wp2_with fail
      go_loopw [6, 7, 8, 9] (fun sv _ _ _ wr => ∃ s : Nat, sv = .int .i64 s ∧ 0 < s ∧ Hid (RowE enc wr b (blocks lt s D)) ∧ Hid (But b w wr)) (fun sv _ _ _ _ => n - (intOf sv).toNat)
      case atStart => exact ⟨20, rfl, by omega, hx, hb'⟩
      case round =>
        clear hx hb'
        obtain ⟨s, rfl, hs, hx, hb⟩ := hrel
        by_cases hsn : s < n
        · have hsn' : (s : Int) < (n : Int) := by omega
          have s0 : (0 : Int) ≤ (s : Int) := by omega
          have s1 : (s : Int) ≤ 1152921504606846976 := by omega
          obtain ⟨S2, hS2⟩ : ∃ S2 : Nat, Hid (2 * s = S2) := ⟨_, rfl⟩
          have eS : Hid (2 * (s : Int) = (S2 : Int)) := by show 2 * (s : Int) = (S2 : Int); have := hS2.out; omega
          have eS' : Hid ((s : Int) * 2 = (S2 : Int)) := by show (s : Int) * 2 = (S2 : Int); have := hS2.out; omega
          have s2 : (S2 : Int) ≤ 2305843009213693952 := by have := hS2.out; omega
          have s3 : (0 : Int) ≤ (S2 : Int) := by omega
          have hm2 : Hid (0 < S2 ∧ n - S2 < n - s) := by show _ ∧ _; have := hS2.out; omega
          have q0 : Hid (Part lt S2 D [] D 0 n) := by rw [← hn.out]; exact Part.zero lt S2 D
          go_upto_region 9 with fail
          rw [eS.out]
          go_loopw [7, 8] (fun av bv wr => ∃ (a c : Nat) (P R : List α), av = .int .i64 a ∧ bv = .int .i64 c ∧ Hid (a + S2 = c) ∧ a ≤ n ∧ Hid (Part lt S2 D P R a n) ∧ Hid (RowE enc wr b (P ++ blocks lt s R)) ∧ Hid (But b w wr)) (fun av _ _ => n - (intOf av).toNat)
          case atStart => exact ⟨0, S2, [], D, rfl, rfl, by show 0 + S2 = S2; omega, Nat.zero_le _, q0, hx, hb⟩
          case round =>
            clear q0 hx hb
            obtain ⟨a, c, P, R, rfl, rfl, hac, han, hp, hr, hb⟩ := hrel
            have a0 : (0 : Int) ≤ (a : Int) := by omega
            have a1 : (a : Int) ≤ 1152921504606846976 := by omega
            have c1 : (c : Int) ≤ 3458764513820540928 := by have := hac.out; omega
            have c0 : (0 : Int) ≤ (c : Int) := by omega
            obtain ⟨m, hmm⟩ : ∃ m : Nat, Hid (a + s = m) := ⟨_, rfl⟩
            have em : Hid ((a : Int) + (s : Int) = (m : Int)) := by show (a : Int) + (s : Int) = (m : Int); have := hmm.out; omega
            by_cases hcn : c ≤ n
            · have hcn' : (c : Int) ≤ (n : Int) := by omega
              have call := hid_of (sym.out P (isort lt (R.take s)) (isort lt ((R.drop s).take s)) (blocks lt s (R.drop (2 * s))) a m c wr (hw0.out.trans hb.out) (by have h := hr.out; rw [two_blocks lt hs] at h; exact h) (isort_up O _) (isort_up O _)
                (by rw [isort_length, List.length_take]; have := hp.out.sum; have := hac.out; have := hS2.out; omega) (by rw [isort_length, List.length_take, List.length_drop]; have := hp.out.sum; have := hac.out; have := hS2.out; omega) hp.out.len (by rw [isort_length, List.length_take]; have := hmm.out; have := hp.out.sum; have := hac.out; have := hS2.out; omega) (by rw [isort_length, List.length_take, List.length_drop]; have := hmm.out; have := hp.out.sum; have := hac.out; have := hS2.out; omega) (by rw [blocks_length lt hs _ _ (Nat.le_refl _), List.length_drop]; have := hp.out.sum; have := hac.out; have := hS2.out; omega))
              rw [blocks_twice O, ← List.append_assoc, hS2.out] at call
              have hp' : Hid (Part lt S2 D (P ++ isort lt (R.take S2)) (R.drop S2) c n) := by have := hac.out; subst this; exact hp.out.step hm2.out.1 (by omega)
              obtain ⟨c', hc'⟩ : ∃ c' : Nat, Hid (c + S2 = c') := ⟨_, rfl⟩
              have ec : Hid ((c : Int) + (S2 : Int) = (c' : Int)) := by show (c : Int) + (S2 : Int) = (c' : Int); have := hc'.out; omega
              have hm : Hid (n - c < n - a) := by show n - c < n - a; have := hac.out; have := hm2.out; omega
              go_wp2_with fail
              rw [em.out]
              refine call.out.mono ?_
              rintro e X ⟨rfl, hx, hbx⟩
              replace hx := hid_of hx
              have hb' := hid_of (hb.out.trans hbx)
              clear call hbx hr hb hp sym
              go_wp2_with fail
              rw [eS.out, ec.out]
              exact ⟨⟨c, c', _, _, rfl, rfl, hc', hcn, hp', hx, hb'⟩, by simp only [intOf]; exact hm.out⟩
            · have hcn' : ¬ (c : Int) ≤ (n : Int) := by omega
              have m1 : (m : Int) ≤ 3458764513820540928 := by have := hmm.out; omega
              by_cases hmn : m < n
              · have hmn' : (m : Int) < (n : Int) := by omega
                have call := hid_of (sym.out P (isort lt (R.take s)) (isort lt (R.drop s)) [] a m n wr (hw0.out.trans hb.out) (by have h := hr.out; rw [rest_blocks lt hs (by have := hp.out.sum; have := hac.out; have := hS2.out; omega)] at h; rw [List.append_nil]; exact h) (isort_up O _) (isort_up O _)
                  (by rw [isort_length, List.length_take]; have := hp.out.sum; have := hmm.out; omega) (by rw [isort_length, List.length_drop]; have := hp.out.sum; have := hmm.out; omega) hp.out.len (by rw [isort_length, List.length_take]; have := hp.out.sum; have := hmm.out; omega) (by rw [isort_length, List.length_drop]; have := hp.out.sum; have := hmm.out; omega) (by simp))
                rw [blocks_rest O, List.append_nil, ← hp.out.last (by have := hac.out; omega)] at call
                go_upto_region 14 with fail
                rw [em.out]
                go_wp2_with fail
                refine call.out.mono ?_
                rintro e X ⟨rfl, hx, hbx⟩
                replace hx := hid_of hx
                have hb' := hid_of (hb.out.trans hbx)
                clear call hbx hr hb hp sym
                go_wp2_with fail
                rw [eS'.out]
                exact ⟨⟨S2, rfl, hm2.out.1, hx, hb'⟩, by simp only [intOf]; exact hm2.out.2⟩
              · have hmn' : ¬ (m : Int) < (n : Int) := by omega
                have hx : Hid (RowE enc wr b (blocks lt S2 D)) := by
                  have h := hr.out
                  rw [blocks_short lt (by have := hp.out.sum; have := hmm.out; omega), ← hp.out.last (by have := hac.out; omega)] at h
                  exact h
                clear hr hp sym
                go_upto_region 14 with fail
                rw [em.out]
                go_wp2_with fail
                rw [eS'.out]
                exact ⟨⟨S2, rfl, hm2.out.1, hx, hb⟩, by simp only [intOf]; exact hm2.out.2⟩
        · have hsn' : ¬ (s : Int) < (n : Int) := by omega
          rw [blocks_short lt (by have := hn.out; omega)] at hx
          clear sym
          go_wp2_with fail
          exact bodyPost_end (results_none rfl _ _ _) rfl ⟨rfl, hx.out, hb.out⟩
end
end Go.Proofs.YthafhemlnninbaaGreat.Sorted
