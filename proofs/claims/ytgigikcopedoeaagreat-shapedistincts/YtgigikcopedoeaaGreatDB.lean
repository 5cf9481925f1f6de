import Derived.Test.YtgigikcopedoeaaGreatDU
/-! Stable sorting over memory: merging, one element ahead. -/
namespace Go.Proofs.YtgigikcopedoeaaGreat.SortedV
open Go Go.RowKit Go.Stab
section
variable {α : Type} {enc : α → Array Value}
theorem RowE.below {w w' : World} {b : Nat} {D : List α} (h : RowE enc w b D) (hb : Below w.heap.size w w') : RowE enc w' b D := fun j x hx => h.keep (hb.block b (h.lt hx)) j x hx
/-- The search among R for the place of x. -/
structure Seek (lt : α → α → Bool) (x : α) (R : List α) (i j : Nat) : Prop where
  le : i ≤ j
  end_ : j ≤ R.length
  low : ∀ y, 0 < i → R[i - 1]? = some y → lt y x = true
  high : ∀ y, R[j]? = some y → lt y x = false
theorem Seek.up {lt : α → α → Bool} {x y : α} {R : List α} {i j h : Nat} (s : Seek lt x R i j) (hj : h < j) (hy : R[h]? = some y) (hl : lt y x = true) : Seek lt x R (h + 1) j :=
  ⟨by omega, s.end_, fun z _ hz => by rw [show h + 1 - 1 = h by omega, hy] at hz; cases hz; exact hl, s.high⟩
theorem Seek.down {lt : α → α → Bool} {x y : α} {R : List α} {i j h : Nat} (s : Seek lt x R i j) (hi : i ≤ h) (hj : h < j) (hy : R[h]? = some y) (hl : lt y x = false) : Seek lt x R i h :=
  ⟨hi, by have := s.end_; omega, s.low, fun z hz => by rw [hy] at hz; cases hz; exact hl⟩
/-- x moved t places on. -/
def onL (x : α) (R : List α) (t : Nat) : List α := R.take t ++ x :: R.drop t
theorem onL_step (A : List α) (x y : α) (R B : List α) (t k : Nat) (hk : A.length + t = k) (hy : R[t]? = some y) : ((A ++ (onL x R t ++ B)).set k y).set (k + 1) x = A ++ (onL x R (t + 1) ++ B) := by
  have ht : t < R.length := (List.getElem?_eq_some_iff.1 hy).1
  have e1 : R.drop t = y :: R.drop (t + 1) := by rw [List.drop_eq_getElem_cons ht]; congr 1; exact (List.getElem?_eq_some_iff.1 hy).2
  have e2 : R.take (t + 1) = R.take t ++ [y] := by rw [List.take_succ_eq_append_getElem ht]; congr 2; exact (List.getElem?_eq_some_iff.1 hy).2
  have e : A ++ (onL x R t ++ B) = (A ++ R.take t) ++ (x :: y :: (R.drop (t + 1) ++ B)) := by unfold onL; rw [e1]; simp
  have hl : (A ++ R.take t).length = k := by simp; omega
  rw [e, List.set_append_right _ _ (by omega), List.set_append_right _ _ (by omega), hl, show k - k = 0 by omega, show k + 1 - k = 1 by omega]
  unfold onL
  rw [e2]
  simp
theorem onL_at (A : List α) (x y : α) (R B : List α) (t k : Nat) (hk : A.length + t = k) (hy : R[t]? = some y) : (A ++ (onL x R t ++ B))[k]? = some x ∧ (A ++ (onL x R t ++ B))[k + 1]? = some y := by
  have ht : t < R.length := (List.getElem?_eq_some_iff.1 hy).1
  have e1 : R.drop t = y :: R.drop (t + 1) := by rw [List.drop_eq_getElem_cons ht]; congr 1; exact (List.getElem?_eq_some_iff.1 hy).2
  have e : A ++ (onL x R t ++ B) = (A ++ R.take t) ++ (x :: y :: (R.drop (t + 1) ++ B)) := by unfold onL; rw [e1]; simp
  have hl : (A ++ R.take t).length = k := by simp; omega
  rw [e, List.getElem?_append_right (by omega), List.getElem?_append_right (by omega), hl, show k - k = 0 by omega, show k + 1 - k = 1 by omega]
  simp
set_option maxRecDepth 100000 in
set_option maxHeartbeats 4000000 in
theorem sym_one (E : Enc enc) {lt : α → α → Bool} (O : Swo lt) {b : Nat} {w0 : World} (cn : α → α → Int) (hlt : ∀ x y, lt x y = decide (cn x y < 0)) (hcmp : ∀ x y W, But b w0 W → Calls Tryz.prog 59 #[.agg (enc x), .agg (enc y)] W fun e w' => e = .returned (.int .i64 (cn x y)) ∧ Below W.heap.size W w')
    (A : List α) (x : α) (R B : List α) (n cap a m c : Nat) (w : World) (hw0 : But b w0 w) (hR : RowE enc w b (A ++ (x :: (R ++ B)))) (hup : Up lt R) (ha : A.length = a) (hm : a + 1 = m) (hc : m + R.length = c) (hn : c + B.length = n) (hnn : n ≤ 4611686018427387904) :
    Calls Tryz.prog 129 #[.slice (some ⟨b, 0, none⟩) n cap, .int .i64 a, .int .i64 m, .int .i64 c, .func (.func 59) #[] #[]] w fun e w' => e = .returned (.tuple #[]) ∧ RowE enc w' b (A ++ (mergeL lt [x] R ++ B)) ∧ But b w w' := by
  replace hlt := hid_of hlt
  replace hcmp := hid_of hcmp
  replace hw0 := hid_of hw0
  replace hR := hid_of hR
  replace hup := hid_of hup
  have f1 : (m : Int) - (a : Int) = 1 := by omega
  have f2 : (m : Int) ≤ (c : Int) := by omega
  have f3 : (c : Int) ≤ (n : Int) := by omega
  have f4 : (n : Int) ≤ 4611686018427387904 := by omega
  have f5 : (0 : Int) ≤ (a : Int) := by omega
  have f6 : (a : Int) < (n : Int) := by omega
  have f7 : (m : Int) ≤ 4611686018427387904 := by omega
  have f8 : (a : Int) ≤ (m : Int) := by omega
  replace ha := hid_of ha
  replace hm := hid_of hm
  replace hc := hid_of hc
  replace hn := hid_of hn
  go_enter Tryz.func129, Tryz.ntmps129
  go_wp2_with fail
  go_loopw [10, 11] (fun iv jv wr => ∃ i j s t : Nat, iv = .int .i64 i ∧ jv = .int .i64 j ∧ Hid (m + s = i) ∧ Hid (m + t = j) ∧ Hid (Seek lt x R s t) ∧ Hid (Below w.heap.size w wr)) (fun iv jv _ => (intOf jv).toNat - (intOf iv).toNat)
  case atStart => exact ⟨m, c, 0, R.length, rfl, rfl, rfl, hc, ⟨by omega, by omega, by simp, by simp⟩, Below.refl _ _⟩
  case round =>
    obtain ⟨i, j, s, t, rfl, rfl, hs, ht, hk, hb⟩ := hrel
    by_cases hij : i < j
    · have i1 : (i : Int) < (j : Int) := by omega
      have i2 : (j : Int) ≤ (n : Int) := by have := hk.out.end_; have := ht.out; have := hc.out; omega
      have i3 : (0 : Int) ≤ (i : Int) := by omega
      have i4 : (i : Int) + (j : Int) ≤ 9223372036854775807 := by omega
      obtain ⟨h, hh⟩ : ∃ h : Nat, Hid (h = (i + j) / 2) := ⟨_, rfl⟩
      have eh : Hid (((i : Int) + (j : Int)) / 2 = (h : Int)) := by show ((i : Int) + (j : Int)) / 2 = (h : Int); have := hh.out; omega
      have b1 : i ≤ h := by have := hh.out; omega
      have b2 : h < j := by have := hh.out; omega
      have b3 : (h : Int) < (n : Int) := by omega
      have b4 : (0 : Int) ≤ (h : Int) := by omega
      have b5 : h - m < R.length := by have := hk.out.end_; have := ht.out; have := hs.out; omega
      obtain ⟨y, hy⟩ : ∃ y, Hid (R[h - m]? = some y) := ⟨R[h - m], List.getElem?_eq_getElem b5⟩
      have hx' : (A ++ (x :: (R ++ B)))[a]? = some x := by
        rw [List.getElem?_append_right (by have := ha.out; omega), show a - A.length = 0 by have := ha.out; omega]; rfl
      have hy' : (A ++ (x :: (R ++ B)))[h]? = some y := by
        rw [List.getElem?_append_right (by have := ha.out; have := hs.out; have := hm.out; omega), show h - A.length = (h - m) + 1 by have := ha.out; have := hs.out; have := hm.out; omega, List.getElem?_cons_succ, List.getElem?_append_left b5]
        exact hy.out
      obtain ⟨gx1, gx2⟩ := (hR.out.below hb.out) a x hx'
      obtain ⟨gy1, gy2⟩ := (hR.out.below hb.out) h y hy'
      obtain ⟨x0, x1, x2, x3, x4, ex⟩ := seven (E.size x)
      have gx1 : ∀ (r : Nat) u, (enc x)[r]? = some u → wr.cell? ⟨b, a * 5 + r, none⟩ = some u := fun r u hu => by have := gx1 r u (by simpa using hu); simpa using this
      have gx2 : ∀ (r : Nat), r < 5 → (wr.cell? ⟨b, a * 5 + r, none⟩).isSome = true ∧ wr.frozen? ⟨b, a * 5 + r, none⟩ = false := fun r hr => by have := gx2 r hr; simpa using this
      have xc0 : wr.cell? ⟨b, a * 5, none⟩ = some x0 := gx1 0 x0 (by rw [ex]; rfl)
      have xc1 : wr.cell? ⟨b, a * 5 + 1, none⟩ = some x1 := gx1 1 x1 (by rw [ex]; rfl)
      have xc2 : wr.cell? ⟨b, a * 5 + 2, none⟩ = some x2 := gx1 2 x2 (by rw [ex]; rfl)
      have xc3 : wr.cell? ⟨b, a * 5 + 3, none⟩ = some x3 := gx1 3 x3 (by rw [ex]; rfl)
      have xc4 : wr.cell? ⟨b, a * 5 + 4, none⟩ = some x4 := gx1 4 x4 (by rw [ex]; rfl)
      obtain ⟨y0, y1, y2, y3, y4, ey⟩ := seven (E.size y)
      have gy1 : ∀ (r : Nat) u, (enc y)[r]? = some u → wr.cell? ⟨b, h * 5 + r, none⟩ = some u := fun r u hu => by have := gy1 r u (by simpa using hu); simpa using this
      have gy2 : ∀ (r : Nat), r < 5 → (wr.cell? ⟨b, h * 5 + r, none⟩).isSome = true ∧ wr.frozen? ⟨b, h * 5 + r, none⟩ = false := fun r hr => by have := gy2 r hr; simpa using this
      have yc0 : wr.cell? ⟨b, h * 5, none⟩ = some y0 := gy1 0 y0 (by rw [ey]; rfl)
      have yc1 : wr.cell? ⟨b, h * 5 + 1, none⟩ = some y1 := gy1 1 y1 (by rw [ey]; rfl)
      have yc2 : wr.cell? ⟨b, h * 5 + 2, none⟩ = some y2 := gy1 2 y2 (by rw [ey]; rfl)
      have yc3 : wr.cell? ⟨b, h * 5 + 3, none⟩ = some y3 := gy1 3 y3 (by rw [ey]; rfl)
      have yc4 : wr.cell? ⟨b, h * 5 + 4, none⟩ = some y4 := gy1 4 y4 (by rw [ey]; rfl)
      have hwB := hid_of (hw0.out.trans (But.of_below hb.out))
      have hcx := hid_of (hcmp.out y x)
      rw [ex, ey] at hcx
      replace b1 := hid_of b1
      replace b2 := hid_of b2
      clear gx1 gx2 gy1 gy2 hx' hy' b5
      go_upto_region 5 with fail
      rw [eh.out]
      refine wp_region_quiet (C := fun w' => Below wr.heap.size wr w') (by kernel_rfl) (by kernel_rfl) (below_drewN (Below.refl _ _) 1) ?_
      with_reducible refine wpQuiet_step (fun K hK => ?_)
      try refine k_quiet_if (by kernel_rfl) ?_
      refine ⟨.func (.func 59) #[] #[], fun w' _ => ?_, ?_⟩
      · first | (go_simp; done) | (go_simp; decide)
      with_reducible refine hK _ ?_
      clear hK K
      simp only [Act.put, List.setIfInBounds_toArray, List.set_cons_zero, List.set_cons_succ]
      with_reducible refine wpQuiet_step (fun K hK => ?_)
      try refine k_quiet_if (by kernel_rfl) ?_
      refine ⟨.slice (some ⟨b, 0, none⟩) n cap, fun w' _ => ?_, ?_⟩
      · first | (go_simp; done) | (go_simp; decide)
      with_reducible refine hK _ ?_
      clear hK K
      simp only [Act.put, List.setIfInBounds_toArray, List.set_cons_zero, List.set_cons_succ]
      with_reducible refine wpQuiet_step (fun K hK => ?_)
      try refine k_quiet_if (by kernel_rfl) ?_
      refine ⟨.int .i64 h, fun w' _ => ?_, ?_⟩
      · first | (go_simp; done) | (go_simp; decide)
      with_reducible refine hK _ ?_
      clear hK K
      simp only [Act.put, List.setIfInBounds_toArray, List.set_cons_zero, List.set_cons_succ]
      with_reducible refine wpQuiet_step (fun K hK => ?_)
      try refine k_quiet_if (by kernel_rfl) ?_
      refine ⟨.pointer (some ⟨b, h * 5, none⟩), fun w' _ => ?_, ?_⟩
      · first | (go_simp; done) | (go_simp; decide)
      with_reducible refine hK _ ?_
      clear hK K
      simp only [Act.put, List.setIfInBounds_toArray, List.set_cons_zero, List.set_cons_succ]
      with_reducible refine wpQuiet_step (fun K hK => ?_)
      try refine k_quiet_if (by kernel_rfl) ?_
      refine ⟨.agg #[y0, y1, y2, y3, y4], fun w' hw' => ?_, ?_⟩
      · have t0 := stay hw' yc0
        have t1 := stay hw' yc1
        have t2 := stay hw' yc2
        have t3 := stay hw' yc3
        have t4 := stay hw' yc4
        go_simp
      with_reducible refine hK _ ?_
      clear hK K
      simp only [Act.put, List.setIfInBounds_toArray, List.set_cons_zero, List.set_cons_succ]
      with_reducible refine wpQuiet_step (fun K hK => ?_)
      try refine k_quiet_if (by kernel_rfl) ?_
      refine ⟨.slice (some ⟨b, 0, none⟩) n cap, fun w' _ => ?_, ?_⟩
      · first | (go_simp; done) | (go_simp; decide)
      with_reducible refine hK _ ?_
      clear hK K
      simp only [Act.put, List.setIfInBounds_toArray, List.set_cons_zero, List.set_cons_succ]
      with_reducible refine wpQuiet_step (fun K hK => ?_)
      try refine k_quiet_if (by kernel_rfl) ?_
      refine ⟨.int .i64 a, fun w' _ => ?_, ?_⟩
      · first | (go_simp; done) | (go_simp; decide)
      with_reducible refine hK _ ?_
      clear hK K
      simp only [Act.put, List.setIfInBounds_toArray, List.set_cons_zero, List.set_cons_succ]
      with_reducible refine wpQuiet_step (fun K hK => ?_)
      try refine k_quiet_if (by kernel_rfl) ?_
      refine ⟨.pointer (some ⟨b, a * 5, none⟩), fun w' _ => ?_, ?_⟩
      · first | (go_simp; done) | (go_simp; decide)
      with_reducible refine hK _ ?_
      clear hK K
      simp only [Act.put, List.setIfInBounds_toArray, List.set_cons_zero, List.set_cons_succ]
      with_reducible refine wpQuiet_step (fun K hK => ?_)
      try refine k_quiet_if (by kernel_rfl) ?_
      refine ⟨.agg #[x0, x1, x2, x3, x4], fun w' hw' => ?_, ?_⟩
      · have t0 := stay hw' xc0
        have t1 := stay hw' xc1
        have t2 := stay hw' xc2
        have t3 := stay hw' xc3
        have t4 := stay hw' xc4
        go_simp
      with_reducible refine hK _ ?_
      clear hK K
      simp only [Act.put, List.setIfInBounds_toArray, List.set_cons_zero, List.set_cons_succ]
      with_reducible refine wpQuiet_step (fun K hK => ?_)
      try refine k_quiet_if (by kernel_rfl) ?_
      refine ⟨.int .i64 (cn y x), fun w' hw' => ?_, ?_⟩
      · go_simp
        refine (hcx.out w' (hwB.out.trans (But.of_below hw'))).mono ?_
        rintro e w'' ⟨rfl, hb⟩
        exact ⟨rfl, hw'.trans (hb.mono hw'.size)⟩
      with_reducible refine hK _ ?_
      clear hK K
      simp only [Act.put, List.setIfInBounds_toArray, List.set_cons_zero, List.set_cons_succ]
      by_cases hcz : cn y x < 0
      · have hly := hid_of (show lt y x = true by rw [hlt.out]; exact decide_eq_true hcz)
        with_reducible refine wpQuiet_step (fun K hK => ?_)
        try refine k_quiet_if (by kernel_rfl) ?_
        refine ⟨.bool true, fun w' _ => ?_, ?_⟩
        · first | (go_simp; done) | (go_simp; decide)
        with_reducible refine hK _ ?_
        clear hK K
        simp only [Act.put, List.setIfInBounds_toArray, List.set_cons_zero, List.set_cons_succ]
        refine wpQuiet_nil ?_
        intro X1 hX1
        have hb' := hid_of (hb.out.trans (hX1.mono hb.out.size))
        clear hcx hX1 hb xc0 xc1 xc2 xc3 xc4 yc0 yc1 yc2 yc3 yc4
        go_wp2_with fail
        exact ⟨⟨h + 1, j, h + 1 - m, t, by go_num, rfl, (by have := b1.out; have := hs.out; omega : m + (h + 1 - m) = h + 1), ht, by rw [show h + 1 - m = h - m + 1 by have := b1.out; have := hs.out; omega]; exact hk.out.up (by have := b2.out; have := ht.out; have := b1.out; have := hs.out; omega) hy.out hly.out, hb'⟩, by have := b1.out; have := b2.out; simp [intOf]; omega⟩
      · have hly := hid_of (show lt y x = false by rw [hlt.out]; exact decide_eq_false hcz)
        with_reducible refine wpQuiet_step (fun K hK => ?_)
        try refine k_quiet_if (by kernel_rfl) ?_
        refine ⟨.bool false, fun w' _ => ?_, ?_⟩
        · first | (go_simp; done) | (go_simp; decide)
        with_reducible refine hK _ ?_
        clear hK K
        simp only [Act.put, List.setIfInBounds_toArray, List.set_cons_zero, List.set_cons_succ]
        refine wpQuiet_nil ?_
        intro X1 hX1
        have hb' := hid_of (hb.out.trans (hX1.mono hb.out.size))
        clear hcx hX1 hb xc0 xc1 xc2 xc3 xc4 yc0 yc1 yc2 yc3 yc4
        go_wp2_with fail
        exact ⟨⟨i, h, s, h - m, rfl, rfl, hs, (by have := b1.out; have := hs.out; omega : m + (h - m) = h), hk.out.down (by have := b1.out; have := hs.out; omega) (by have := b2.out; have := ht.out; have := b1.out; have := hs.out; omega) hy.out hly.out, hb'⟩, by have := b1.out; have := b2.out; simp [intOf]; omega⟩
    · have i1 : ¬ (i : Int) < (j : Int) := by omega
      have i3 : (a : Int) + 1 ≤ (i : Int) := by have := hs.out; have := hm.out; omega
      have i5 : (i : Int) ≤ (n : Int) := by have := hs.out; have := hk.out.le; have := hk.out.end_; have := hc.out; omega
      have i4 : (i : Int) ≤ 4611686018427387904 := by have := hs.out; have := hk.out.le; have := hk.out.end_; have := hc.out; omega
      go_wp2_with fail
      have hst' : s = t := by have := hs.out; have := ht.out; have := hk.out.le; omega
      subst hst'
      have hcut : Hid (mergeL lt [x] R = onL x R s) := one_cut O hup.out s hk.out.end_ hk.out.low hk.out.high
      have hse : s ≤ R.length := hk.out.end_
      have h0 : Hid (RowE enc wr b (A ++ (onL x R 0 ++ B))) := by show RowE enc wr b (A ++ (onL x R 0 ++ B)); unfold onL; simpa using hR.out.below hb.out
      have hb0 : Hid (But b w wr) := But.of_below hb.out
      clear hR hcmp hlt hk hb hup
      go_loopw [13] (fun kv wr => ∃ k t : Nat, kv = .int .i64 k ∧ Hid (a + t = k) ∧ t ≤ s ∧ Hid (RowE enc wr b (A ++ (onL x R t ++ B))) ∧ Hid (But b w wr)) (fun kv _ => i - (intOf kv).toNat)
      case atStart => exact ⟨a, 0, rfl, rfl, Nat.zero_le _, h0, hb0⟩
      case round =>
        obtain ⟨k, q, rfl, hq, hqs, hRk, hBk⟩ := hrel
        by_cases hqq : q < s
        · have k1 : (k : Int) < (i : Int) - 1 := by have := hq.out; have := hs.out; have := hm.out; omega
          have k2 : (0 : Int) ≤ (k : Int) := by omega
          have k3 : (k : Int) < (n : Int) := by omega
          obtain ⟨p, hp⟩ : ∃ p, Hid (k + 1 = p) := ⟨_, rfl⟩
          have k4 : IntKind.i64.wrap ((k : Int) + 1) = (p : Int) := by rw [wrap_in (by omega) (by omega)]; have := hp.out; omega
          have k5 : (p : Int) < (n : Int) := by have := hp.out; omega
          have k6 : (0 : Int) ≤ (p : Int) := by omega
          obtain ⟨y, hy⟩ : ∃ y, Hid (R[q]? = some y) := ⟨R[q], List.getElem?_eq_getElem (by omega)⟩
          have hat := onL_at A x y R B q k (by have := ha.out; have := hq.out; omega) hy.out
          have hx' := hat.1
          have hy' := hat.2
          rw [hp.out] at hy'
          obtain ⟨gx1, gx2⟩ := hRk.out k x hx'
          obtain ⟨gy1, gy2⟩ := hRk.out p y hy'
          obtain ⟨x0, x1, x2, x3, x4, ex⟩ := seven (E.size x)
          have gx1 : ∀ (r : Nat) u, (enc x)[r]? = some u → wr.cell? ⟨b, k * 5 + r, none⟩ = some u := fun r u hu => by have := gx1 r u (by simpa using hu); simpa using this
          have gx2 : ∀ (r : Nat), r < 5 → (wr.cell? ⟨b, k * 5 + r, none⟩).isSome = true ∧ wr.frozen? ⟨b, k * 5 + r, none⟩ = false := fun r hr => by have := gx2 r hr; simpa using this
          have xc0 : wr.cell? ⟨b, k * 5, none⟩ = some x0 := gx1 0 x0 (by rw [ex]; rfl)
          have xc1 : wr.cell? ⟨b, k * 5 + 1, none⟩ = some x1 := gx1 1 x1 (by rw [ex]; rfl)
          have xc2 : wr.cell? ⟨b, k * 5 + 2, none⟩ = some x2 := gx1 2 x2 (by rw [ex]; rfl)
          have xc3 : wr.cell? ⟨b, k * 5 + 3, none⟩ = some x3 := gx1 3 x3 (by rw [ex]; rfl)
          have xc4 : wr.cell? ⟨b, k * 5 + 4, none⟩ = some x4 := gx1 4 x4 (by rw [ex]; rfl)
          obtain ⟨y0, y1, y2, y3, y4, ey⟩ := seven (E.size y)
          have gy1 : ∀ (r : Nat) u, (enc y)[r]? = some u → wr.cell? ⟨b, p * 5 + r, none⟩ = some u := fun r u hu => by have := gy1 r u (by simpa using hu); simpa using this
          have gy2 : ∀ (r : Nat), r < 5 → (wr.cell? ⟨b, p * 5 + r, none⟩).isSome = true ∧ wr.frozen? ⟨b, p * 5 + r, none⟩ = false := fun r hr => by have := gy2 r hr; simpa using this
          have yc0 : wr.cell? ⟨b, p * 5, none⟩ = some y0 := gy1 0 y0 (by rw [ey]; rfl)
          have yc1 : wr.cell? ⟨b, p * 5 + 1, none⟩ = some y1 := gy1 1 y1 (by rw [ey]; rfl)
          have yc2 : wr.cell? ⟨b, p * 5 + 2, none⟩ = some y2 := gy1 2 y2 (by rw [ey]; rfl)
          have yc3 : wr.cell? ⟨b, p * 5 + 3, none⟩ = some y3 := gy1 3 y3 (by rw [ey]; rfl)
          have yc4 : wr.cell? ⟨b, p * 5 + 4, none⟩ = some y4 := gy1 4 y4 (by rw [ey]; rfl)
          have ox : ∀ (r : Nat) u, (enc x)[r]? = some u → u.oneCell' = true := fun r u hu => Array.all_eq_true_iff_forall_mem.1 (E.one x) u (Array.mem_of_getElem? hu)
          have xf0 : wr.frozen? ⟨b, k * 5, none⟩ = false := (gx2 0 (by omega)).2
          have xo0 : x0.oneCell' = true := ox 0 x0 (by rw [ex]; rfl)
          have xf1 : wr.frozen? ⟨b, k * 5 + 1, none⟩ = false := (gx2 1 (by omega)).2
          have xo1 : x1.oneCell' = true := ox 1 x1 (by rw [ex]; rfl)
          have xf2 : wr.frozen? ⟨b, k * 5 + 2, none⟩ = false := (gx2 2 (by omega)).2
          have xo2 : x2.oneCell' = true := ox 2 x2 (by rw [ex]; rfl)
          have xf3 : wr.frozen? ⟨b, k * 5 + 3, none⟩ = false := (gx2 3 (by omega)).2
          have xo3 : x3.oneCell' = true := ox 3 x3 (by rw [ex]; rfl)
          have xf4 : wr.frozen? ⟨b, k * 5 + 4, none⟩ = false := (gx2 4 (by omega)).2
          have xo4 : x4.oneCell' = true := ox 4 x4 (by rw [ex]; rfl)
          have oy : ∀ (r : Nat) u, (enc y)[r]? = some u → u.oneCell' = true := fun r u hu => Array.all_eq_true_iff_forall_mem.1 (E.one y) u (Array.mem_of_getElem? hu)
          have yf0 : wr.frozen? ⟨b, p * 5, none⟩ = false := (gy2 0 (by omega)).2
          have yo0 : y0.oneCell' = true := oy 0 y0 (by rw [ey]; rfl)
          have yf1 : wr.frozen? ⟨b, p * 5 + 1, none⟩ = false := (gy2 1 (by omega)).2
          have yo1 : y1.oneCell' = true := oy 1 y1 (by rw [ey]; rfl)
          have yf2 : wr.frozen? ⟨b, p * 5 + 2, none⟩ = false := (gy2 2 (by omega)).2
          have yo2 : y2.oneCell' = true := oy 2 y2 (by rw [ey]; rfl)
          have yf3 : wr.frozen? ⟨b, p * 5 + 3, none⟩ = false := (gy2 3 (by omega)).2
          have yo3 : y3.oneCell' = true := oy 3 y3 (by rw [ey]; rfl)
          have yf4 : wr.frozen? ⟨b, p * 5 + 4, none⟩ = false := (gy2 4 (by omega)).2
          have yo4 : y4.oneCell' = true := oy 4 y4 (by rw [ey]; rfl)
          have hend : Hid (RowE enc ((wr.setCells b (k * 5) (enc y).toList).setCells b (p * 5) (enc x).toList).drew b (A ++ (onL x R (q + 1) ++ B)) ∧ But b w ((wr.setCells b (k * 5) (enc y).toList).setCells b (p * 5) (enc x).toList).drew) := by
            have hlk := (List.getElem?_eq_some_iff.1 hx').1
            have hlp := (List.getElem?_eq_some_iff.1 hy').1
            refine ⟨?_, ((hBk.out.trans (setCells_but b _ _ _)).trans (setCells_but b _ _ _)).drew⟩
            have h2 := (hRk.out.set E hlk y).set E (j := p) (by simpa using hlp) x
            rw [← hp.out, onL_step A x y R B q k (by have := ha.out; have := hq.out; omega) hy.out, hp.out] at h2
            exact h2.drew
          have n1 : ∀ r s, r < 5 → s < 5 → (p * 5 + r = k * 5 + s) = False := fun r s h1 h2 => eq_false (by have := hp.out; omega)
          have n2 : ∀ s, s < 5 → (p * 5 = k * 5 + s) = False := fun s h2 => eq_false (by have := hp.out; omega)
          have n3 : ∀ r, r < 5 → (p * 5 + r = k * 5) = False := fun r h1 => eq_false (by have := hp.out; omega)
          have n4 : (p * 5 = k * 5) = False := eq_false (by have := hp.out; omega)
          have n5 : ∀ r s, r < 5 → s < 5 → (k * 5 + s = p * 5 + r) = False := fun r s h1 h2 => eq_false (by have := hp.out; omega)
          have n6 : ∀ s, s < 5 → (k * 5 + s = p * 5) = False := fun s h2 => eq_false (by have := hp.out; omega)
          have n7 : ∀ r, r < 5 → (k * 5 = p * 5 + r) = False := fun r h1 => eq_false (by have := hp.out; omega)
          have n8 : (k * 5 = p * 5) = False := eq_false (by have := hp.out; omega)
          rw [ex, ey] at hend
          clear hRk hBk gx1 gx2 gy1 gy2 ox oy hx' hy' hat
          have hst := run_st
          go_upto_region 11 with fail
          go_region
          all_goals
            obtain ⟨X, hX⟩ : ∃ X, Hid (((((((((((wr.setCell ⟨b, k * 5, none⟩ y0).setCell ⟨b, k * 5 + 1, none⟩ y1).setCell ⟨b, k * 5 + 2, none⟩ y2).setCell ⟨b, k * 5 + 3, none⟩ y3).setCell ⟨b, k * 5 + 4, none⟩ y4).setCell ⟨b, p * 5, none⟩ x0).setCell ⟨b, p * 5 + 1, none⟩ x1).setCell ⟨b, p * 5 + 2, none⟩ x2).setCell ⟨b, p * 5 + 3, none⟩ x3).setCell ⟨b, p * 5 + 4, none⟩ x4).drew = X) := ⟨_, rfl⟩
            have hfi : Hid (RowE enc X b (A ++ (onL x R (q + 1) ++ B)) ∧ But b w X) := by rw [← hX.out]; exact hend.out
            rw [hX.out]
            clear hend hst n1 n2 n3 n4 n5 n6 n7 n8 xc0 xc1 xc2 xc3 xc4 xf0 xf1 xf2 xf3 xf4 xo0 xo1 xo2 xo3 xo4 yc0 yc1 yc2 yc3 yc4 yf0 yf1 yf2 yf3 yf4 yo0 yo1 yo2 yo3 yo4
            go_wp2_with fail
            exact ⟨⟨p, q + 1, by first | rfl | (rw [k4]) | (have := hp.out; go_num), (by have := hp.out; have := hq.out; omega : a + (q + 1) = p), by omega, hfi.out.1, hfi.out.2⟩, by have := hp.out; simp [intOf]; omega⟩
        · obtain rfl : q = s := by omega
          have k1 : ¬ (k : Int) < (i : Int) - 1 := by have := hq.out; have := hs.out; have := hm.out; omega
          rw [← hcut.out] at hRk
          go_wp2_with fail
          refine bodyPost_ret (results_none rfl _ _ _) rfl ?_
          exact ⟨rfl, hRk.out, hBk.out⟩
end
end Go.Proofs.YtgigikcopedoeaaGreat.SortedV
/-! Stable sorting over memory: merging, one element behind. -/
namespace Go.Proofs.YtgigikcopedoeaaGreat.SortedV
open Go Go.RowKit Go.Stab
section
variable {α : Type} {enc : α → Array Value}
theorem onL_back (A : List α) (x y : α) (L B : List α) (q k : Nat) (hk : A.length + q = k) (hx : L[q]? = some x) : ((A ++ (onL y L (q + 1) ++ B)).set (k + 1) x).set k y = A ++ (onL y L q ++ B) := by
  have ht : q < L.length := (List.getElem?_eq_some_iff.1 hx).1
  have e1 : L.drop q = x :: L.drop (q + 1) := by rw [List.drop_eq_getElem_cons ht]; congr 1; exact (List.getElem?_eq_some_iff.1 hx).2
  have e2 : L.take (q + 1) = L.take q ++ [x] := by rw [List.take_succ_eq_append_getElem ht]; congr 2; exact (List.getElem?_eq_some_iff.1 hx).2
  have e : A ++ (onL y L (q + 1) ++ B) = (A ++ L.take q) ++ (x :: y :: (L.drop (q + 1) ++ B)) := by unfold onL; rw [e2]; simp
  have hl : (A ++ L.take q).length = k := by simp; omega
  rw [e, List.set_append_right _ _ (by omega), List.set_append_right _ _ (by omega), hl, show k - k = 0 by omega, show k + 1 - k = 1 by omega]
  unfold onL
  rw [e1]
  simp
theorem onL_behind (A : List α) (x y : α) (L B : List α) (q k : Nat) (hk : A.length + q = k) (hx : L[q]? = some x) : (A ++ (onL y L (q + 1) ++ B))[k]? = some x ∧ (A ++ (onL y L (q + 1) ++ B))[k + 1]? = some y := by
  have ht : q < L.length := (List.getElem?_eq_some_iff.1 hx).1
  have e2 : L.take (q + 1) = L.take q ++ [x] := by rw [List.take_succ_eq_append_getElem ht]; congr 2; exact (List.getElem?_eq_some_iff.1 hx).2
  have e : A ++ (onL y L (q + 1) ++ B) = (A ++ L.take q) ++ (x :: y :: (L.drop (q + 1) ++ B)) := by unfold onL; rw [e2]; simp
  have hl : (A ++ L.take q).length = k := by simp; omega
  rw [e, List.getElem?_append_right (by omega), List.getElem?_append_right (by omega), hl, show k - k = 0 by omega, show k + 1 - k = 1 by omega]
  simp
/-- Not above. -/
def nlt (lt : α → α → Bool) : α → α → Bool := fun z u => !lt u z
set_option maxRecDepth 100000 in
set_option maxHeartbeats 4000000 in
theorem sym_last (E : Enc enc) {lt : α → α → Bool} (O : Swo lt) {b : Nat} {w0 : World} (cn : α → α → Int) (hlt : ∀ x y, lt x y = decide (cn x y < 0)) (hcmp : ∀ x y W, But b w0 W → Calls Tryz.prog 59 #[.agg (enc x), .agg (enc y)] W fun e w' => e = .returned (.int .i64 (cn x y)) ∧ Below W.heap.size W w')
    (A : List α) (y : α) (L B : List α) (n cap a m c : Nat) (w : World) (hw0 : But b w0 w) (hR : RowE enc w b (A ++ (L ++ (y :: B)))) (hup : Up lt L) (hL : L.length ≠ 1) (ha : A.length = a) (hm : a + L.length = m) (hc : m + 1 = c) (hn : c + B.length = n) (hnn : n ≤ 4611686018427387904) :
    Calls Tryz.prog 129 #[.slice (some ⟨b, 0, none⟩) n cap, .int .i64 a, .int .i64 m, .int .i64 c, .func (.func 59) #[] #[]] w fun e w' => e = .returned (.tuple #[]) ∧ RowE enc w' b (A ++ (mergeL lt L [y] ++ B)) ∧ But b w w' := by
  replace hlt := hid_of hlt
  replace hcmp := hid_of hcmp
  replace hw0 := hid_of hw0
  replace hR := hid_of hR
  replace hup := hid_of hup
  have f1 : ¬ (m : Int) - (a : Int) = 1 := by omega
  have f0 : (c : Int) - (m : Int) = 1 := by omega
  have f2 : (m : Int) < (c : Int) := by omega
  have f3 : (c : Int) ≤ (n : Int) := by omega
  have f4 : (n : Int) ≤ 4611686018427387904 := by omega
  have f5 : (0 : Int) ≤ (a : Int) := by omega
  have f6 : (m : Int) < (n : Int) := by omega
  have f7 : (c : Int) ≤ 4611686018427387904 := by omega
  have f8 : (a : Int) ≤ (m : Int) := by omega
  have f9 : (0 : Int) ≤ (m : Int) := by omega
  replace ha := hid_of ha
  replace hm := hid_of hm
  replace hc := hid_of hc
  replace hn := hid_of hn
  clear hL
  go_enter Tryz.func129, Tryz.ntmps129
  go_wp2_with fail
  go_loopw [14, 15] (fun iv jv wr => ∃ i j s t : Nat, iv = .int .i64 i ∧ jv = .int .i64 j ∧ Hid (a + s = i) ∧ Hid (a + t = j) ∧ Hid (Seek (nlt lt) y L s t) ∧ Hid (Below w.heap.size w wr)) (fun iv jv _ => (intOf jv).toNat - (intOf iv).toNat)
  case atStart => exact ⟨a, m, 0, L.length, rfl, rfl, rfl, hm, ⟨by omega, by omega, by simp, by simp⟩, Below.refl _ _⟩
  case round =>
    obtain ⟨i, j, s, t, rfl, rfl, hs, ht, hk, hb⟩ := hrel
    by_cases hij : i < j
    · have i1 : (i : Int) < (j : Int) := by omega
      have i2 : (j : Int) ≤ (m : Int) := by have := hk.out.end_; have := ht.out; have := hm.out; omega
      have i3 : (0 : Int) ≤ (i : Int) := by omega
      have i4 : (i : Int) + (j : Int) ≤ 9223372036854775807 := by omega
      obtain ⟨h, hh⟩ : ∃ h : Nat, Hid (h = (i + j) / 2) := ⟨_, rfl⟩
      have eh : Hid (((i : Int) + (j : Int)) / 2 = (h : Int)) := by show ((i : Int) + (j : Int)) / 2 = (h : Int); have := hh.out; omega
      have b1 : i ≤ h := by have := hh.out; omega
      have b2 : h < j := by have := hh.out; omega
      have b3 : (h : Int) < (n : Int) := by omega
      have b4 : (0 : Int) ≤ (h : Int) := by omega
      have b5 : h - a < L.length := by have := hk.out.end_; have := ht.out; have := hs.out; omega
      obtain ⟨x, hx⟩ : ∃ x, Hid (L[h - a]? = some x) := ⟨L[h - a], List.getElem?_eq_getElem b5⟩
      have hx' : (A ++ (L ++ (y :: B)))[h]? = some x := by
        rw [List.getElem?_append_right (by have := ha.out; have := hs.out; omega), show h - A.length = h - a by rw [ha.out], List.getElem?_append_left b5]
        exact hx.out
      have hy' : (A ++ (L ++ (y :: B)))[m]? = some y := by
        rw [List.getElem?_append_right (by have := ha.out; have := hm.out; omega), List.getElem?_append_right (by have := ha.out; have := hm.out; omega), show m - A.length - L.length = 0 by have := ha.out; have := hm.out; omega]; rfl
      obtain ⟨gx1, gx2⟩ := (hR.out.below hb.out) h x hx'
      obtain ⟨gy1, gy2⟩ := (hR.out.below hb.out) m y hy'
      obtain ⟨x0, x1, x2, x3, x4, ex⟩ := seven (E.size x)
      have gx1 : ∀ (r : Nat) u, (enc x)[r]? = some u → wr.cell? ⟨b, h * 5 + r, none⟩ = some u := fun r u hu => by have := gx1 r u (by simpa using hu); simpa using this
      have gx2 : ∀ (r : Nat), r < 5 → (wr.cell? ⟨b, h * 5 + r, none⟩).isSome = true ∧ wr.frozen? ⟨b, h * 5 + r, none⟩ = false := fun r hr => by have := gx2 r hr; simpa using this
      have xc0 : wr.cell? ⟨b, h * 5, none⟩ = some x0 := gx1 0 x0 (by rw [ex]; rfl)
      have xc1 : wr.cell? ⟨b, h * 5 + 1, none⟩ = some x1 := gx1 1 x1 (by rw [ex]; rfl)
      have xc2 : wr.cell? ⟨b, h * 5 + 2, none⟩ = some x2 := gx1 2 x2 (by rw [ex]; rfl)
      have xc3 : wr.cell? ⟨b, h * 5 + 3, none⟩ = some x3 := gx1 3 x3 (by rw [ex]; rfl)
      have xc4 : wr.cell? ⟨b, h * 5 + 4, none⟩ = some x4 := gx1 4 x4 (by rw [ex]; rfl)
      obtain ⟨y0, y1, y2, y3, y4, ey⟩ := seven (E.size y)
      have gy1 : ∀ (r : Nat) u, (enc y)[r]? = some u → wr.cell? ⟨b, m * 5 + r, none⟩ = some u := fun r u hu => by have := gy1 r u (by simpa using hu); simpa using this
      have gy2 : ∀ (r : Nat), r < 5 → (wr.cell? ⟨b, m * 5 + r, none⟩).isSome = true ∧ wr.frozen? ⟨b, m * 5 + r, none⟩ = false := fun r hr => by have := gy2 r hr; simpa using this
      have yc0 : wr.cell? ⟨b, m * 5, none⟩ = some y0 := gy1 0 y0 (by rw [ey]; rfl)
      have yc1 : wr.cell? ⟨b, m * 5 + 1, none⟩ = some y1 := gy1 1 y1 (by rw [ey]; rfl)
      have yc2 : wr.cell? ⟨b, m * 5 + 2, none⟩ = some y2 := gy1 2 y2 (by rw [ey]; rfl)
      have yc3 : wr.cell? ⟨b, m * 5 + 3, none⟩ = some y3 := gy1 3 y3 (by rw [ey]; rfl)
      have yc4 : wr.cell? ⟨b, m * 5 + 4, none⟩ = some y4 := gy1 4 y4 (by rw [ey]; rfl)
      have hwB := hid_of (hw0.out.trans (But.of_below hb.out))
      have hcx := hid_of (hcmp.out y x)
      rw [ex, ey] at hcx
      replace b1 := hid_of b1
      replace b2 := hid_of b2
      clear gx1 gx2 gy1 gy2 hx' hy' b5
      go_upto_region 17 with fail
      rw [eh.out]
      refine wp_region_quiet (C := fun w' => Below wr.heap.size wr w') (by kernel_rfl) (by kernel_rfl) (below_drewN (Below.refl _ _) 1) ?_
      with_reducible refine wpQuiet_step (fun K hK => ?_)
      try refine k_quiet_if (by kernel_rfl) ?_
      refine ⟨.func (.func 59) #[] #[], fun w' _ => ?_, ?_⟩
      · first | (go_simp; done) | (go_simp; decide)
      with_reducible refine hK _ ?_
      clear hK K
      simp only [Act.put, List.setIfInBounds_toArray, List.set_cons_zero, List.set_cons_succ]
      with_reducible refine wpQuiet_step (fun K hK => ?_)
      try refine k_quiet_if (by kernel_rfl) ?_
      refine ⟨.slice (some ⟨b, 0, none⟩) n cap, fun w' _ => ?_, ?_⟩
      · first | (go_simp; done) | (go_simp; decide)
      with_reducible refine hK _ ?_
      clear hK K
      simp only [Act.put, List.setIfInBounds_toArray, List.set_cons_zero, List.set_cons_succ]
      with_reducible refine wpQuiet_step (fun K hK => ?_)
      try refine k_quiet_if (by kernel_rfl) ?_
      refine ⟨.int .i64 m, fun w' _ => ?_, ?_⟩
      · first | (go_simp; done) | (go_simp; decide)
      with_reducible refine hK _ ?_
      clear hK K
      simp only [Act.put, List.setIfInBounds_toArray, List.set_cons_zero, List.set_cons_succ]
      with_reducible refine wpQuiet_step (fun K hK => ?_)
      try refine k_quiet_if (by kernel_rfl) ?_
      refine ⟨.pointer (some ⟨b, m * 5, none⟩), fun w' _ => ?_, ?_⟩
      · first | (go_simp; done) | (go_simp; decide)
      with_reducible refine hK _ ?_
      clear hK K
      simp only [Act.put, List.setIfInBounds_toArray, List.set_cons_zero, List.set_cons_succ]
      with_reducible refine wpQuiet_step (fun K hK => ?_)
      try refine k_quiet_if (by kernel_rfl) ?_
      refine ⟨.agg #[y0, y1, y2, y3, y4], fun w' hw' => ?_, ?_⟩
      · have t0 := stay hw' yc0
        have t1 := stay hw' yc1
        have t2 := stay hw' yc2
        have t3 := stay hw' yc3
        have t4 := stay hw' yc4
        go_simp
      with_reducible refine hK _ ?_
      clear hK K
      simp only [Act.put, List.setIfInBounds_toArray, List.set_cons_zero, List.set_cons_succ]
      with_reducible refine wpQuiet_step (fun K hK => ?_)
      try refine k_quiet_if (by kernel_rfl) ?_
      refine ⟨.slice (some ⟨b, 0, none⟩) n cap, fun w' _ => ?_, ?_⟩
      · first | (go_simp; done) | (go_simp; decide)
      with_reducible refine hK _ ?_
      clear hK K
      simp only [Act.put, List.setIfInBounds_toArray, List.set_cons_zero, List.set_cons_succ]
      with_reducible refine wpQuiet_step (fun K hK => ?_)
      try refine k_quiet_if (by kernel_rfl) ?_
      refine ⟨.int .i64 h, fun w' _ => ?_, ?_⟩
      · first | (go_simp; done) | (go_simp; decide)
      with_reducible refine hK _ ?_
      clear hK K
      simp only [Act.put, List.setIfInBounds_toArray, List.set_cons_zero, List.set_cons_succ]
      with_reducible refine wpQuiet_step (fun K hK => ?_)
      try refine k_quiet_if (by kernel_rfl) ?_
      refine ⟨.pointer (some ⟨b, h * 5, none⟩), fun w' _ => ?_, ?_⟩
      · first | (go_simp; done) | (go_simp; decide)
      with_reducible refine hK _ ?_
      clear hK K
      simp only [Act.put, List.setIfInBounds_toArray, List.set_cons_zero, List.set_cons_succ]
      with_reducible refine wpQuiet_step (fun K hK => ?_)
      try refine k_quiet_if (by kernel_rfl) ?_
      refine ⟨.agg #[x0, x1, x2, x3, x4], fun w' hw' => ?_, ?_⟩
      · have t0 := stay hw' xc0
        have t1 := stay hw' xc1
        have t2 := stay hw' xc2
        have t3 := stay hw' xc3
        have t4 := stay hw' xc4
        go_simp
      with_reducible refine hK _ ?_
      clear hK K
      simp only [Act.put, List.setIfInBounds_toArray, List.set_cons_zero, List.set_cons_succ]
      with_reducible refine wpQuiet_step (fun K hK => ?_)
      try refine k_quiet_if (by kernel_rfl) ?_
      refine ⟨.int .i64 (cn y x), fun w' hw' => ?_, ?_⟩
      · go_simp
        refine (hcx.out w' (hwB.out.trans (But.of_below hw'))).mono ?_
        rintro e w'' ⟨rfl, hb⟩
        exact ⟨rfl, hw'.trans (hb.mono hw'.size)⟩
      with_reducible refine hK _ ?_
      clear hK K
      simp only [Act.put, List.setIfInBounds_toArray, List.set_cons_zero, List.set_cons_succ]
      by_cases hcz : cn y x < 0
      · have hly := hid_of (show nlt lt x y = false by unfold nlt; rw [hlt.out, decide_eq_true hcz]; rfl)
        with_reducible refine wpQuiet_step (fun K hK => ?_)
        try refine k_quiet_if (by kernel_rfl) ?_
        refine ⟨.bool true, fun w' _ => ?_, ?_⟩
        · first | (go_simp; done) | (go_simp; decide)
        with_reducible refine hK _ ?_
        clear hK K
        simp only [Act.put, List.setIfInBounds_toArray, List.set_cons_zero, List.set_cons_succ]
        with_reducible refine wpQuiet_step (fun K hK => ?_)
        try refine k_quiet_if (by kernel_rfl) ?_
        refine ⟨.bool false, fun w' _ => ?_, ?_⟩
        · first | (go_simp; done) | (go_simp; decide)
        with_reducible refine hK _ ?_
        clear hK K
        simp only [Act.put, List.setIfInBounds_toArray, List.set_cons_zero, List.set_cons_succ]
        refine wpQuiet_nil ?_
        intro X1 hX1
        have hb' := hid_of (hb.out.trans (hX1.mono hb.out.size))
        clear hcx hX1 hb xc0 xc1 xc2 xc3 xc4 yc0 yc1 yc2 yc3 yc4
        go_wp2_with fail
        exact ⟨⟨i, h, s, h - a, rfl, rfl, hs, (by have := b1.out; have := hs.out; omega : a + (h - a) = h), hk.out.down (by have := b1.out; have := hs.out; omega) (by have := b2.out; have := ht.out; have := b1.out; have := hs.out; omega) hx.out hly.out, hb'⟩, by have := b1.out; have := b2.out; simp [intOf]; omega⟩
      · have hly := hid_of (show nlt lt x y = true by unfold nlt; rw [hlt.out, decide_eq_false hcz]; rfl)
        with_reducible refine wpQuiet_step (fun K hK => ?_)
        try refine k_quiet_if (by kernel_rfl) ?_
        refine ⟨.bool false, fun w' _ => ?_, ?_⟩
        · first | (go_simp; done) | (go_simp; decide)
        with_reducible refine hK _ ?_
        clear hK K
        simp only [Act.put, List.setIfInBounds_toArray, List.set_cons_zero, List.set_cons_succ]
        with_reducible refine wpQuiet_step (fun K hK => ?_)
        try refine k_quiet_if (by kernel_rfl) ?_
        refine ⟨.bool true, fun w' _ => ?_, ?_⟩
        · first | (go_simp; done) | (go_simp; decide)
        with_reducible refine hK _ ?_
        clear hK K
        simp only [Act.put, List.setIfInBounds_toArray, List.set_cons_zero, List.set_cons_succ]
        refine wpQuiet_nil ?_
        intro X1 hX1
        have hb' := hid_of (hb.out.trans (hX1.mono hb.out.size))
        clear hcx hX1 hb xc0 xc1 xc2 xc3 xc4 yc0 yc1 yc2 yc3 yc4
        go_wp2_with fail
        exact ⟨⟨h + 1, j, h + 1 - a, t, by go_num, rfl, (by have := b1.out; have := hs.out; omega : a + (h + 1 - a) = h + 1), ht, by rw [show h + 1 - a = h - a + 1 by have := b1.out; have := hs.out; omega]; exact hk.out.up (by have := b2.out; have := ht.out; have := b1.out; have := hs.out; omega) hx.out hly.out, hb'⟩, by have := b1.out; have := b2.out; simp [intOf]; omega⟩
    · have i1 : ¬ (i : Int) < (j : Int) := by omega
      have i3 : (0 : Int) ≤ (i : Int) := by omega
      have i5 : (i : Int) ≤ (m : Int) := by have := hs.out; have := hk.out.le; have := hk.out.end_; have := hm.out; omega
      go_wp2_with fail
      have hst' : s = t := by have := hs.out; have := ht.out; have := hk.out.le; omega
      subst hst'
      have hcut : Hid (mergeL lt L [y] = onL y L s) := last_cut O hup.out s hk.out.end_ (fun x h1 h2 => by have := hk.out.low x h1 h2; unfold nlt at this; simpa using this) (fun x h2 => by have := hk.out.high x h2; unfold nlt at this; simpa using this)
      have hse : s ≤ L.length := hk.out.end_
      have h0 : Hid (RowE enc wr b (A ++ (onL y L L.length ++ B))) := by show RowE enc wr b (A ++ (onL y L L.length ++ B)); unfold onL; simpa using hR.out.below hb.out
      have hb0 : Hid (But b w wr) := But.of_below hb.out
      clear hR hcmp hlt hk hb hup
      go_loopw [17] (fun kv wr => ∃ k t : Nat, kv = .int .i64 k ∧ Hid (a + t = k) ∧ Hid (s ≤ t) ∧ Hid (t ≤ L.length) ∧ Hid (RowE enc wr b (A ++ (onL y L t ++ B))) ∧ Hid (But b w wr)) (fun kv _ => (intOf kv).toNat)
      case atStart => exact ⟨m, L.length, rfl, hm, hse, Nat.le_refl _, h0, hb0⟩
      case round =>
        obtain ⟨k, r, rfl, hr, hrs, hrl, hRk, hBk⟩ := hrel
        by_cases hqq : s < r
        · have k1 : (i : Int) < (k : Int) := by have := hr.out; have := hs.out; omega
          have k3 : (k : Int) < (n : Int) := by have := hr.out; have := hm.out; have := hrl.out; omega
          have k2 : (0 : Int) ≤ (k : Int) := by omega
          obtain ⟨q, rfl⟩ : ∃ q, r = q + 1 := ⟨r - 1, by omega⟩
          obtain ⟨p, hp⟩ : ∃ p, Hid (p + 1 = k) := ⟨k - 1, by show k - 1 + 1 = k; omega⟩
          have k4 : IntKind.i64.wrap ((k : Int) - 1) = (p : Int) := by rw [wrap_in (by omega) (by omega)]; have := hp.out; omega
          have k5 : (p : Int) < (n : Int) := by have := hp.out; omega
          have k6 : (0 : Int) ≤ (p : Int) := by omega
          obtain ⟨x, hx⟩ : ∃ x, Hid (L[q]? = some x) := ⟨L[q]'(by have := hrl.out; omega), List.getElem?_eq_getElem (by have := hrl.out; omega)⟩
          have hat := onL_behind A x y L B q p (by have := ha.out; have := hr.out; have := hp.out; omega) hx.out
          have hx' := hat.1
          have hy' := hat.2
          rw [hp.out] at hy'
          obtain ⟨gx1, gx2⟩ := hRk.out p x hx'
          obtain ⟨gy1, gy2⟩ := hRk.out k y hy'
          obtain ⟨x0, x1, x2, x3, x4, ex⟩ := seven (E.size x)
          have gx1 : ∀ (r : Nat) u, (enc x)[r]? = some u → wr.cell? ⟨b, p * 5 + r, none⟩ = some u := fun r u hu => by have := gx1 r u (by simpa using hu); simpa using this
          have gx2 : ∀ (r : Nat), r < 5 → (wr.cell? ⟨b, p * 5 + r, none⟩).isSome = true ∧ wr.frozen? ⟨b, p * 5 + r, none⟩ = false := fun r hr => by have := gx2 r hr; simpa using this
          have xc0 : wr.cell? ⟨b, p * 5, none⟩ = some x0 := gx1 0 x0 (by rw [ex]; rfl)
          have xc1 : wr.cell? ⟨b, p * 5 + 1, none⟩ = some x1 := gx1 1 x1 (by rw [ex]; rfl)
          have xc2 : wr.cell? ⟨b, p * 5 + 2, none⟩ = some x2 := gx1 2 x2 (by rw [ex]; rfl)
          have xc3 : wr.cell? ⟨b, p * 5 + 3, none⟩ = some x3 := gx1 3 x3 (by rw [ex]; rfl)
          have xc4 : wr.cell? ⟨b, p * 5 + 4, none⟩ = some x4 := gx1 4 x4 (by rw [ex]; rfl)
          obtain ⟨y0, y1, y2, y3, y4, ey⟩ := seven (E.size y)
          have gy1 : ∀ (r : Nat) u, (enc y)[r]? = some u → wr.cell? ⟨b, k * 5 + r, none⟩ = some u := fun r u hu => by have := gy1 r u (by simpa using hu); simpa using this
          have gy2 : ∀ (r : Nat), r < 5 → (wr.cell? ⟨b, k * 5 + r, none⟩).isSome = true ∧ wr.frozen? ⟨b, k * 5 + r, none⟩ = false := fun r hr => by have := gy2 r hr; simpa using this
          have yc0 : wr.cell? ⟨b, k * 5, none⟩ = some y0 := gy1 0 y0 (by rw [ey]; rfl)
          have yc1 : wr.cell? ⟨b, k * 5 + 1, none⟩ = some y1 := gy1 1 y1 (by rw [ey]; rfl)
          have yc2 : wr.cell? ⟨b, k * 5 + 2, none⟩ = some y2 := gy1 2 y2 (by rw [ey]; rfl)
          have yc3 : wr.cell? ⟨b, k * 5 + 3, none⟩ = some y3 := gy1 3 y3 (by rw [ey]; rfl)
          have yc4 : wr.cell? ⟨b, k * 5 + 4, none⟩ = some y4 := gy1 4 y4 (by rw [ey]; rfl)
          have ox : ∀ (r : Nat) u, (enc x)[r]? = some u → u.oneCell' = true := fun r u hu => Array.all_eq_true_iff_forall_mem.1 (E.one x) u (Array.mem_of_getElem? hu)
          have xf0 : wr.frozen? ⟨b, p * 5, none⟩ = false := (gx2 0 (by omega)).2
          have xo0 : x0.oneCell' = true := ox 0 x0 (by rw [ex]; rfl)
          have xf1 : wr.frozen? ⟨b, p * 5 + 1, none⟩ = false := (gx2 1 (by omega)).2
          have xo1 : x1.oneCell' = true := ox 1 x1 (by rw [ex]; rfl)
          have xf2 : wr.frozen? ⟨b, p * 5 + 2, none⟩ = false := (gx2 2 (by omega)).2
          have xo2 : x2.oneCell' = true := ox 2 x2 (by rw [ex]; rfl)
          have xf3 : wr.frozen? ⟨b, p * 5 + 3, none⟩ = false := (gx2 3 (by omega)).2
          have xo3 : x3.oneCell' = true := ox 3 x3 (by rw [ex]; rfl)
          have xf4 : wr.frozen? ⟨b, p * 5 + 4, none⟩ = false := (gx2 4 (by omega)).2
          have xo4 : x4.oneCell' = true := ox 4 x4 (by rw [ex]; rfl)
          have oy : ∀ (r : Nat) u, (enc y)[r]? = some u → u.oneCell' = true := fun r u hu => Array.all_eq_true_iff_forall_mem.1 (E.one y) u (Array.mem_of_getElem? hu)
          have yf0 : wr.frozen? ⟨b, k * 5, none⟩ = false := (gy2 0 (by omega)).2
          have yo0 : y0.oneCell' = true := oy 0 y0 (by rw [ey]; rfl)
          have yf1 : wr.frozen? ⟨b, k * 5 + 1, none⟩ = false := (gy2 1 (by omega)).2
          have yo1 : y1.oneCell' = true := oy 1 y1 (by rw [ey]; rfl)
          have yf2 : wr.frozen? ⟨b, k * 5 + 2, none⟩ = false := (gy2 2 (by omega)).2
          have yo2 : y2.oneCell' = true := oy 2 y2 (by rw [ey]; rfl)
          have yf3 : wr.frozen? ⟨b, k * 5 + 3, none⟩ = false := (gy2 3 (by omega)).2
          have yo3 : y3.oneCell' = true := oy 3 y3 (by rw [ey]; rfl)
          have yf4 : wr.frozen? ⟨b, k * 5 + 4, none⟩ = false := (gy2 4 (by omega)).2
          have yo4 : y4.oneCell' = true := oy 4 y4 (by rw [ey]; rfl)
          have hend : Hid (RowE enc ((wr.setCells b (k * 5) (enc x).toList).setCells b (p * 5) (enc y).toList).drew b (A ++ (onL y L q ++ B)) ∧ But b w ((wr.setCells b (k * 5) (enc x).toList).setCells b (p * 5) (enc y).toList).drew) := by
            have hlp := (List.getElem?_eq_some_iff.1 hx').1
            have hlk := (List.getElem?_eq_some_iff.1 hy').1
            refine ⟨?_, ((hBk.out.trans (setCells_but b _ _ _)).trans (setCells_but b _ _ _)).drew⟩
            have h2 := (hRk.out.set E hlk x).set E (j := p) (by simpa using hlp) y
            rw [show (A ++ (onL y L (q + 1) ++ B)).set k x = (A ++ (onL y L (q + 1) ++ B)).set (p + 1) x by rw [hp.out], onL_back A x y L B q p (by have := ha.out; have := hr.out; have := hp.out; omega) hx.out] at h2
            exact h2.drew
          have n1 : ∀ r s, r < 5 → s < 5 → (p * 5 + r = k * 5 + s) = False := fun r s h1 h2 => eq_false (by have := hp.out; omega)
          have n2 : ∀ s, s < 5 → (p * 5 = k * 5 + s) = False := fun s h2 => eq_false (by have := hp.out; omega)
          have n3 : ∀ r, r < 5 → (p * 5 + r = k * 5) = False := fun r h1 => eq_false (by have := hp.out; omega)
          have n4 : (p * 5 = k * 5) = False := eq_false (by have := hp.out; omega)
          have n5 : ∀ r s, r < 5 → s < 5 → (k * 5 + s = p * 5 + r) = False := fun r s h1 h2 => eq_false (by have := hp.out; omega)
          have n6 : ∀ s, s < 5 → (k * 5 + s = p * 5) = False := fun s h2 => eq_false (by have := hp.out; omega)
          have n7 : ∀ r, r < 5 → (k * 5 = p * 5 + r) = False := fun r h1 => eq_false (by have := hp.out; omega)
          have n8 : (k * 5 = p * 5) = False := eq_false (by have := hp.out; omega)
          rw [ex, ey] at hend
          clear hRk hBk gx1 gx2 gy1 gy2 ox oy hx' hy' hat
          have hst := run_st
          go_upto_region 23 with fail
          go_region
          all_goals
            obtain ⟨X, hX⟩ : ∃ X, Hid (((((((((((wr.setCell ⟨b, k * 5, none⟩ x0).setCell ⟨b, k * 5 + 1, none⟩ x1).setCell ⟨b, k * 5 + 2, none⟩ x2).setCell ⟨b, k * 5 + 3, none⟩ x3).setCell ⟨b, k * 5 + 4, none⟩ x4).setCell ⟨b, p * 5, none⟩ y0).setCell ⟨b, p * 5 + 1, none⟩ y1).setCell ⟨b, p * 5 + 2, none⟩ y2).setCell ⟨b, p * 5 + 3, none⟩ y3).setCell ⟨b, p * 5 + 4, none⟩ y4).drew = X) := ⟨_, rfl⟩
            have hfi : Hid (RowE enc X b (A ++ (onL y L q ++ B)) ∧ But b w X) := by rw [← hX.out]; exact hend.out
            rw [hX.out]
            clear hend hst n1 n2 n3 n4 n5 n6 n7 n8 xc0 xc1 xc2 xc3 xc4 xf0 xf1 xf2 xf3 xf4 xo0 xo1 xo2 xo3 xo4 yc0 yc1 yc2 yc3 yc4 yf0 yf1 yf2 yf3 yf4 yo0 yo1 yo2 yo3 yo4
            go_wp2_with fail
            exact ⟨⟨p, q, by first | rfl | (rw [k4]) | (have := hp.out; go_num), (by have := hp.out; have := hr.out; omega : a + q = p), (by omega : s ≤ q), (by have := hrl.out; omega : q ≤ L.length), hfi.out.1, hfi.out.2⟩, by have := hp.out; simp [intOf]; omega⟩
        · obtain rfl : r = s := by have := hrs.out; omega
          have k1 : ¬ (i : Int) < (k : Int) := by have := hr.out; have := hs.out; omega
          rw [← hcut.out] at hRk
          go_wp2_with fail
          refine bodyPost_ret (results_none rfl _ _ _) rfl ?_
          exact ⟨rfl, hRk.out, hBk.out⟩
end
end Go.Proofs.YtgigikcopedoeaaGreat.SortedV
/-! Stable sorting over memory: merging in general: where it is cut. -/
namespace Go.Proofs.YtgigikcopedoeaaGreat.SortedV
open Go Go.RowKit Go.Stab
section
variable {α : Type} {enc : α → Array Value}
/-- The search for the cut: s of L and H - s of R, or t of L and H - t of R. -/
structure Cut (lt : α → α → Bool) (L R : List α) (H s t : Nat) : Prop where
  le : s ≤ t
  tH : t ≤ H
  tl : t ≤ L.length
  sr : H ≤ R.length + s
  low : ∀ x y, 0 < s → L[s - 1]? = some x → R[H - s]? = some y → lt y x = false
  high : ∀ x y, L[t]? = some x → 0 < H - t → R[H - t - 1]? = some y → lt y x = true
theorem Cut.up {lt : α → α → Bool} {L R : List α} {H s t u : Nat} {x y : α} (k : Cut lt L R H s t) (h1 : s ≤ u) (h2 : u < t) (hx : L[u]? = some x) (hy : R[H - 1 - u]? = some y) (h : lt y x = false) : Cut lt L R H (u + 1) t :=
  ⟨by omega, k.tH, k.tl, by have := k.sr; omega, fun x' y' _ hx' hy' => by
    rw [show u + 1 - 1 = u by omega, hx] at hx'
    rw [show H - (u + 1) = H - 1 - u by omega, hy] at hy'
    cases hx'; cases hy'; exact h, k.high⟩
theorem Cut.down {lt : α → α → Bool} {L R : List α} {H s t u : Nat} {x y : α} (k : Cut lt L R H s t) (h1 : s ≤ u) (h2 : u < t) (hx : L[u]? = some x) (hy : R[H - 1 - u]? = some y) (h : lt y x = true) : Cut lt L R H s u :=
  ⟨h1, by have := k.tH; omega, by have := k.tl; omega, k.sr, k.low, fun x' y' hx' _ hy' => by
    rw [hx] at hx'
    rw [show H - u - 1 = H - 1 - u by omega, hy] at hy'
    cases hx'; cases hy'; exact h⟩
/-- What stands behind is no less. -/
theorem Cut.far {lt : α → α → Bool} {L R : List α} {H : Nat} (h1 : H < L.length) (h2 : R.length ≤ H) : Cut lt L R H (H - R.length) H :=
  ⟨by omega, by omega, by omega, by omega, fun x y h0 _ hy => by
    have := (List.getElem?_eq_some_iff.1 hy).1
    omega, fun x y _ h0 _ => by omega⟩
theorem Cut.near {lt : α → α → Bool} {L R : List α} {H : Nat} (h1 : L.length ≤ H) (h2 : H ≤ R.length) : Cut lt L R H 0 L.length :=
  ⟨by omega, by omega, by omega, by omega, fun x y h0 _ _ => by omega, fun x y hx _ _ => by
    have := (List.getElem?_eq_some_iff.1 hx).1
    omega⟩
theorem Cut.done {lt : α → α → Bool} (O : Swo lt) {L R : List α} {H s : Nat} (k : Cut lt L R H s s) (hl : Up lt L) (hr : Up lt R) : mergeL lt L R = mergeL lt (L.take s) (R.take (H - s)) ++ mergeL lt (L.drop s) (R.drop (H - s)) :=
  merge_cut O hl hr s (H - s) (fun x y hx h0 hy => k.high x y hx h0 hy) k.low k.tl (by have := k.sr; omega)
theorem Up.take {lt : α → α → Bool} {l : List α} (h : Up lt l) (n : Nat) : Up lt (l.take n) := by
  rw [← List.take_append_drop n l] at h
  exact (Up.append h).1
theorem Up.drop {lt : α → α → Bool} {l : List α} (h : Up lt l) (n : Nat) : Up lt (l.drop n) := by
  rw [← List.take_append_drop n l] at h
  exact (Up.append h).2.1
/-- What symMerge promises of lists that are s long together. -/
def SymOk (enc : α → Array Value) (lt : α → α → Bool) (w0 : World) (b n cap s : Nat) : Prop :=
  ∀ (A L R B : List α) (a m c : Nat) (w : World), But b w0 w → RowE enc w b (A ++ (L ++ (R ++ B))) → Up lt L → Up lt R → 0 < L.length → 0 < R.length → L.length + R.length = s → A.length = a → a + L.length = m → m + R.length = c → c + B.length = n →
    Calls Tryz.prog 129 #[.slice (some ⟨b, 0, none⟩) n cap, .int .i64 a, .int .i64 m, .int .i64 c, .func (.func 59) #[] #[]] w fun e w' => e = .returned (.tuple #[]) ∧ RowE enc w' b (A ++ (mergeL lt L R ++ B)) ∧ But b w w'
end
end Go.Proofs.YtgigikcopedoeaaGreat.SortedV
/-! Stable sorting over memory: merging in general. -/
namespace Go.Proofs.YtgigikcopedoeaaGreat.SortedV
open Go Go.RowKit Go.Stab
section
variable {α : Type} {enc : α → Array Value}
set_option maxRecDepth 100000 in
set_option maxHeartbeats 8000000 in
theorem sym_step (E : Enc enc) {lt : α → α → Bool} (O : Swo lt) {b : Nat} {w0 : World} (cn : α → α → Int) (hlt : ∀ x y, lt x y = decide (cn x y < 0)) (hcmp : ∀ x y W, But b w0 W → Calls Tryz.prog 59 #[.agg (enc x), .agg (enc y)] W fun e w' => e = .returned (.int .i64 (cn x y)) ∧ Below W.heap.size W w')
    (A L R B : List α) (n cap a m c : Nat) (w : World) (hw0 : But b w0 w) (ih : ∀ s, s < L.length + R.length → SymOk enc lt w0 b n cap s) (hR : RowE enc w b (A ++ (L ++ (R ++ B)))) (hul : Up lt L) (hur : Up lt R) (hL : 1 < L.length) (hRr : 1 < R.length) (ha : A.length = a) (hm : a + L.length = m) (hc : m + R.length = c) (hn : c + B.length = n) (hnn : n ≤ 4611686018427387904) :
    Calls Tryz.prog 129 #[.slice (some ⟨b, 0, none⟩) n cap, .int .i64 a, .int .i64 m, .int .i64 c, .func (.func 59) #[] #[]] w fun e w' => e = .returned (.tuple #[]) ∧ RowE enc w' b (A ++ (mergeL lt L R ++ B)) ∧ But b w w' := by
  replace hlt := hid_of hlt
  replace hcmp := hid_of hcmp
  replace hw0 := hid_of hw0
  replace hR := hid_of hR
  replace ih := hid_of ih
  obtain ⟨H, hH⟩ : ∃ H, Hid (H = (L.length + R.length) / 2) := ⟨_, rfl⟩
  obtain ⟨md, hmd⟩ : ∃ md, Hid (a + H = md) := ⟨_, rfl⟩
  obtain ⟨N, hN⟩ : ∃ N, Hid (md + m = N) := ⟨_, rfl⟩
  obtain ⟨P, hP⟩ : ∃ P, Hid (P + 1 = N) := ⟨N - 1, by show N - 1 + 1 = N; have := hN.out; omega⟩
  have emd : Hid (((a : Int) + (c : Int)) / 2 = (md : Int)) := by show ((a : Int) + (c : Int)) / 2 = (md : Int); have := hH.out; have := hmd.out; omega
  have eN : Hid ((md : Int) + (m : Int) = (N : Int)) := by show (md : Int) + (m : Int) = (N : Int); have := hN.out; omega
  have eP : Hid ((N : Int) - 1 = (P : Int)) := by show (N : Int) - 1 = (P : Int); have := hP.out; omega
  have f1 : ¬ (m : Int) - (a : Int) = 1 := by omega
  have f0 : ¬ (c : Int) - (m : Int) = 1 := by omega
  have f2 : (m : Int) < (c : Int) := by omega
  have f3 : (c : Int) ≤ (n : Int) := by omega
  have f4 : (n : Int) ≤ 4611686018427387904 := by omega
  have f5 : (0 : Int) ≤ (a : Int) := by omega
  have f7 : (c : Int) ≤ 4611686018427387904 := by omega
  have f8 : (a : Int) < (m : Int) := by omega
  have f9 : (md : Int) < (c : Int) := by have := hH.out; have := hmd.out; omega
  have f10 : (a : Int) < (md : Int) := by have := hH.out; have := hmd.out; omega
  have f11 : (N : Int) ≤ 9223372036854775807 := by have := hN.out; omega
  have f12 : (1 : Int) ≤ (N : Int) := by have := hN.out; omega
  replace ha := hid_of ha
  replace hm := hid_of hm
  replace hc := hid_of hc
  replace hn := hid_of hn
  replace hL := hid_of hL
  replace hRr := hid_of hRr
  go_enter Tryz.func129, Tryz.ntmps129
  go_upto_region 25 with fail
  rw [emd.out]
  go_upto_region 26 with fail
  rw [eN.out]
  by_cases hcase : md < m
  · have g1 : (md : Int) < (m : Int) := by omega
    obtain ⟨S0, hS0⟩ : ∃ S0, Hid (a + (H - R.length) = S0) := ⟨_, rfl⟩
    have eS : Hid ((N : Int) - (c : Int) = (S0 : Int)) := by show (N : Int) - (c : Int) = (S0 : Int); have := hS0.out; have := hN.out; have := hH.out; have := hmd.out; have := hm.out; have := hc.out; omega
    have g2 : (c : Int) ≤ (N : Int) := by have := hN.out; have := hH.out; have := hmd.out; have := hm.out; have := hc.out; omega
    have hk0 : Hid (Cut lt L R H (H - R.length) H) := Cut.far (by have := hmd.out; have := hm.out; omega) (by have := hH.out; have := hmd.out; have := hm.out; omega)
    have hs0 : Hid (a + H = md) := hmd
    go_upto_region 32 with fail
    rw [eS.out]
    go_wp2_with fail
    rw [eP.out]
    go_loopw [20, 21] (fun iv jv wr => ∃ i j s t : Nat, iv = .int .i64 i ∧ jv = .int .i64 j ∧ Hid (a + s = i) ∧ Hid (a + t = j) ∧ Hid (Cut lt L R H s t) ∧ Hid (Below w.heap.size w wr)) (fun iv jv _ => (intOf jv).toNat - (intOf iv).toNat)
    case atStart => exact ⟨S0, md, H - R.length, H, rfl, rfl, hS0, hs0, hk0, Below.refl _ _⟩
    case round =>
      clear hk0
      obtain ⟨i, j, s, t, rfl, rfl, hs, ht, hk, hb⟩ := hrel
      by_cases hij : i < j
      · have i1 : (i : Int) < (j : Int) := by omega
        have i2 : (j : Int) ≤ (m : Int) := by have := hk.out.tl; have := ht.out; have := hm.out; omega
        have i3 : (0 : Int) ≤ (i : Int) := by omega
        have i4 : (i : Int) + (j : Int) ≤ 9223372036854775807 := by omega
        obtain ⟨h, hh⟩ : ∃ h : Nat, Hid (h = (i + j) / 2) := ⟨_, rfl⟩
        have eh : Hid (((i : Int) + (j : Int)) / 2 = (h : Int)) := by show ((i : Int) + (j : Int)) / 2 = (h : Int); have := hh.out; omega
        have b1 : i ≤ h := by have := hh.out; omega
        have b2 : h < j := by have := hh.out; omega
        have b3 : (h : Int) < (n : Int) := by omega
        have b4 : (0 : Int) ≤ (h : Int) := by omega
        have b5 : h - a < L.length := by have := hk.out.tl; have := ht.out; have := hs.out; omega
        have b6 : H - 1 - (h - a) < R.length := by have := hk.out.sr; have := hk.out.tH; have := ht.out; have := hs.out; omega
        obtain ⟨z, hz⟩ : ∃ z, Hid (m + (H - 1 - (h - a)) = z) := ⟨_, rfl⟩
        have ez : IntKind.i64.wrap ((P : Int) - (h : Int)) = (z : Int) := by have := hz.out; have := hP.out; have := hN.out; have := hmd.out; have := hk.out.tH; have := ht.out; have := hs.out; rw [wrap_in (by omega) (by omega)]; omega
        have b7 : (z : Int) < (n : Int) := by have := hz.out; have := hc.out; omega
        have b8 : (0 : Int) ≤ (z : Int) := by omega
        obtain ⟨x, hx⟩ : ∃ x, Hid (L[h - a]? = some x) := ⟨L[h - a], List.getElem?_eq_getElem b5⟩
        obtain ⟨y, hy⟩ : ∃ y, Hid (R[H - 1 - (h - a)]? = some y) := ⟨R[H - 1 - (h - a)], List.getElem?_eq_getElem b6⟩
        have hx' : (A ++ (L ++ (R ++ B)))[h]? = some x := by
          rw [List.getElem?_append_right (by have := ha.out; have := hs.out; omega), show h - A.length = h - a by rw [ha.out], List.getElem?_append_left b5]
          exact hx.out
        have hy' : (A ++ (L ++ (R ++ B)))[z]? = some y := by
          rw [List.getElem?_append_right (by have := ha.out; have := hz.out; have := hm.out; omega), List.getElem?_append_right (by have := ha.out; have := hz.out; have := hm.out; omega), show z - A.length - L.length = H - 1 - (h - a) by have := ha.out; have := hz.out; have := hm.out; omega, List.getElem?_append_left b6]
          exact hy.out
        obtain ⟨gx1, gx2⟩ := (hR.out.below hb.out) h x hx'
        obtain ⟨gy1, gy2⟩ := (hR.out.below hb.out) z y hy'
        obtain ⟨x0, x1, x2, x3, x4, ex⟩ := seven (E.size x)
        have gx1 : ∀ (r : Nat) u, (enc x)[r]? = some u → wr.cell? ⟨b, h * 5 + r, none⟩ = some u := fun r u hu => by have := gx1 r u (by simpa using hu); simpa using this
        have gx2 : ∀ (r : Nat), r < 5 → (wr.cell? ⟨b, h * 5 + r, none⟩).isSome = true ∧ wr.frozen? ⟨b, h * 5 + r, none⟩ = false := fun r hr => by have := gx2 r hr; simpa using this
        have xc0 : wr.cell? ⟨b, h * 5, none⟩ = some x0 := gx1 0 x0 (by rw [ex]; rfl)
        have xc1 : wr.cell? ⟨b, h * 5 + 1, none⟩ = some x1 := gx1 1 x1 (by rw [ex]; rfl)
        have xc2 : wr.cell? ⟨b, h * 5 + 2, none⟩ = some x2 := gx1 2 x2 (by rw [ex]; rfl)
        have xc3 : wr.cell? ⟨b, h * 5 + 3, none⟩ = some x3 := gx1 3 x3 (by rw [ex]; rfl)
        have xc4 : wr.cell? ⟨b, h * 5 + 4, none⟩ = some x4 := gx1 4 x4 (by rw [ex]; rfl)
        obtain ⟨y0, y1, y2, y3, y4, ey⟩ := seven (E.size y)
        have gy1 : ∀ (r : Nat) u, (enc y)[r]? = some u → wr.cell? ⟨b, z * 5 + r, none⟩ = some u := fun r u hu => by have := gy1 r u (by simpa using hu); simpa using this
        have gy2 : ∀ (r : Nat), r < 5 → (wr.cell? ⟨b, z * 5 + r, none⟩).isSome = true ∧ wr.frozen? ⟨b, z * 5 + r, none⟩ = false := fun r hr => by have := gy2 r hr; simpa using this
        have yc0 : wr.cell? ⟨b, z * 5, none⟩ = some y0 := gy1 0 y0 (by rw [ey]; rfl)
        have yc1 : wr.cell? ⟨b, z * 5 + 1, none⟩ = some y1 := gy1 1 y1 (by rw [ey]; rfl)
        have yc2 : wr.cell? ⟨b, z * 5 + 2, none⟩ = some y2 := gy1 2 y2 (by rw [ey]; rfl)
        have yc3 : wr.cell? ⟨b, z * 5 + 3, none⟩ = some y3 := gy1 3 y3 (by rw [ey]; rfl)
        have yc4 : wr.cell? ⟨b, z * 5 + 4, none⟩ = some y4 := gy1 4 y4 (by rw [ey]; rfl)
        have hwB := hid_of (hw0.out.trans (But.of_below hb.out))
        have hcx := hid_of (hcmp.out y x)
        rw [ex, ey] at hcx
        replace b1 := hid_of b1
        replace b2 := hid_of b2
        clear gx1 gx2 gy1 gy2 hx' hy' b5 b6
        go_upto_region 35 with fail
        rw [eh.out]
        refine wp_region_quiet (C := fun w' => Below wr.heap.size wr w') (by kernel_rfl) (by kernel_rfl) (below_drewN (Below.refl _ _) 1) ?_
        with_reducible refine wpQuiet_step (fun K hK => ?_)
        try refine k_quiet_if (by kernel_rfl) ?_
        refine ⟨.func (.func 59) #[] #[], fun w' _ => ?_, ?_⟩
        · first | (go_simp; done) | (go_simp; decide)
        with_reducible refine hK _ ?_
        clear hK K
        simp only [Act.put, List.setIfInBounds_toArray, List.set_cons_zero, List.set_cons_succ]
        with_reducible refine wpQuiet_step (fun K hK => ?_)
        try refine k_quiet_if (by kernel_rfl) ?_
        refine ⟨.slice (some ⟨b, 0, none⟩) n cap, fun w' _ => ?_, ?_⟩
        · first | (go_simp; done) | (go_simp; decide)
        with_reducible refine hK _ ?_
        clear hK K
        simp only [Act.put, List.setIfInBounds_toArray, List.set_cons_zero, List.set_cons_succ]
        with_reducible refine wpQuiet_step (fun K hK => ?_)
        try refine k_quiet_if (by kernel_rfl) ?_
        refine ⟨.int .i64 P, fun w' _ => ?_, ?_⟩
        · first | (go_simp; done) | (go_simp; decide)
        with_reducible refine hK _ ?_
        clear hK K
        simp only [Act.put, List.setIfInBounds_toArray, List.set_cons_zero, List.set_cons_succ]
        with_reducible refine wpQuiet_step (fun K hK => ?_)
        try refine k_quiet_if (by kernel_rfl) ?_
        refine ⟨.int .i64 h, fun w' _ => ?_, ?_⟩
        · first | (go_simp; done) | (go_simp; decide)
        with_reducible refine hK _ ?_
        clear hK K
        simp only [Act.put, List.setIfInBounds_toArray, List.set_cons_zero, List.set_cons_succ]
        with_reducible refine wpQuiet_step (fun K hK => ?_)
        try refine k_quiet_if (by kernel_rfl) ?_
        refine ⟨.int .i64 z, fun w' _ => ?_, ?_⟩
        · first | (go_simp; done) | (go_simp; decide)
        with_reducible refine hK _ ?_
        clear hK K
        simp only [Act.put, List.setIfInBounds_toArray, List.set_cons_zero, List.set_cons_succ]
        with_reducible refine wpQuiet_step (fun K hK => ?_)
        try refine k_quiet_if (by kernel_rfl) ?_
        refine ⟨.pointer (some ⟨b, z * 5, none⟩), fun w' _ => ?_, ?_⟩
        · first | (go_simp; done) | (go_simp; decide)
        with_reducible refine hK _ ?_
        clear hK K
        simp only [Act.put, List.setIfInBounds_toArray, List.set_cons_zero, List.set_cons_succ]
        with_reducible refine wpQuiet_step (fun K hK => ?_)
        try refine k_quiet_if (by kernel_rfl) ?_
        refine ⟨.agg #[y0, y1, y2, y3, y4], fun w' hw' => ?_, ?_⟩
        · have t0 := stay hw' yc0
          have t1 := stay hw' yc1
          have t2 := stay hw' yc2
          have t3 := stay hw' yc3
          have t4 := stay hw' yc4
          go_simp
        with_reducible refine hK _ ?_
        clear hK K
        simp only [Act.put, List.setIfInBounds_toArray, List.set_cons_zero, List.set_cons_succ]
        with_reducible refine wpQuiet_step (fun K hK => ?_)
        try refine k_quiet_if (by kernel_rfl) ?_
        refine ⟨.slice (some ⟨b, 0, none⟩) n cap, fun w' _ => ?_, ?_⟩
        · first | (go_simp; done) | (go_simp; decide)
        with_reducible refine hK _ ?_
        clear hK K
        simp only [Act.put, List.setIfInBounds_toArray, List.set_cons_zero, List.set_cons_succ]
        with_reducible refine wpQuiet_step (fun K hK => ?_)
        try refine k_quiet_if (by kernel_rfl) ?_
        refine ⟨.int .i64 h, fun w' _ => ?_, ?_⟩
        · first | (go_simp; done) | (go_simp; decide)
        with_reducible refine hK _ ?_
        clear hK K
        simp only [Act.put, List.setIfInBounds_toArray, List.set_cons_zero, List.set_cons_succ]
        with_reducible refine wpQuiet_step (fun K hK => ?_)
        try refine k_quiet_if (by kernel_rfl) ?_
        refine ⟨.pointer (some ⟨b, h * 5, none⟩), fun w' _ => ?_, ?_⟩
        · first | (go_simp; done) | (go_simp; decide)
        with_reducible refine hK _ ?_
        clear hK K
        simp only [Act.put, List.setIfInBounds_toArray, List.set_cons_zero, List.set_cons_succ]
        with_reducible refine wpQuiet_step (fun K hK => ?_)
        try refine k_quiet_if (by kernel_rfl) ?_
        refine ⟨.agg #[x0, x1, x2, x3, x4], fun w' hw' => ?_, ?_⟩
        · have t0 := stay hw' xc0
          have t1 := stay hw' xc1
          have t2 := stay hw' xc2
          have t3 := stay hw' xc3
          have t4 := stay hw' xc4
          go_simp
        with_reducible refine hK _ ?_
        clear hK K
        simp only [Act.put, List.setIfInBounds_toArray, List.set_cons_zero, List.set_cons_succ]
        with_reducible refine wpQuiet_step (fun K hK => ?_)
        try refine k_quiet_if (by kernel_rfl) ?_
        refine ⟨.int .i64 (cn y x), fun w' hw' => ?_, ?_⟩
        · go_simp
          refine (hcx.out w' (hwB.out.trans (But.of_below hw'))).mono ?_
          rintro e w'' ⟨rfl, hb⟩
          exact ⟨rfl, hw'.trans (hb.mono hw'.size)⟩
        with_reducible refine hK _ ?_
        clear hK K
        simp only [Act.put, List.setIfInBounds_toArray, List.set_cons_zero, List.set_cons_succ]
        by_cases hcz : cn y x < 0
        · have hly := hid_of (show lt y x = true by rw [hlt.out]; exact decide_eq_true hcz)
          with_reducible refine wpQuiet_step (fun K hK => ?_)
          try refine k_quiet_if (by kernel_rfl) ?_
          refine ⟨.bool true, fun w' _ => ?_, ?_⟩
          · first | (go_simp; done) | (go_simp; decide)
          with_reducible refine hK _ ?_
          clear hK K
          simp only [Act.put, List.setIfInBounds_toArray, List.set_cons_zero, List.set_cons_succ]
          with_reducible refine wpQuiet_step (fun K hK => ?_)
          try refine k_quiet_if (by kernel_rfl) ?_
          refine ⟨.bool false, fun w' _ => ?_, ?_⟩
          · first | (go_simp; done) | (go_simp; decide)
          with_reducible refine hK _ ?_
          clear hK K
          simp only [Act.put, List.setIfInBounds_toArray, List.set_cons_zero, List.set_cons_succ]
          refine wpQuiet_nil ?_
          intro X1 hX1
          have hb' := hid_of (hb.out.trans (hX1.mono hb.out.size))
          clear hcx hX1 hb xc0 xc1 xc2 xc3 xc4 yc0 yc1 yc2 yc3 yc4
          go_wp2_with fail
          exact ⟨⟨i, h, s, h - a, rfl, rfl, hs, (by have := b1.out; have := hs.out; omega : a + (h - a) = h), hk.out.down (by have := b1.out; have := hs.out; omega) (by have := b2.out; have := ht.out; have := b1.out; have := hs.out; omega) hx.out hy.out hly.out, hb'⟩, by have := b1.out; have := b2.out; simp [intOf]; omega⟩
        · have hly := hid_of (show lt y x = false by rw [hlt.out]; exact decide_eq_false hcz)
          with_reducible refine wpQuiet_step (fun K hK => ?_)
          try refine k_quiet_if (by kernel_rfl) ?_
          refine ⟨.bool false, fun w' _ => ?_, ?_⟩
          · first | (go_simp; done) | (go_simp; decide)
          with_reducible refine hK _ ?_
          clear hK K
          simp only [Act.put, List.setIfInBounds_toArray, List.set_cons_zero, List.set_cons_succ]
          with_reducible refine wpQuiet_step (fun K hK => ?_)
          try refine k_quiet_if (by kernel_rfl) ?_
          refine ⟨.bool true, fun w' _ => ?_, ?_⟩
          · first | (go_simp; done) | (go_simp; decide)
          with_reducible refine hK _ ?_
          clear hK K
          simp only [Act.put, List.setIfInBounds_toArray, List.set_cons_zero, List.set_cons_succ]
          refine wpQuiet_nil ?_
          intro X1 hX1
          have hb' := hid_of (hb.out.trans (hX1.mono hb.out.size))
          clear hcx hX1 hb xc0 xc1 xc2 xc3 xc4 yc0 yc1 yc2 yc3 yc4
          go_wp2_with fail
          exact ⟨⟨h + 1, j, h + 1 - a, t, by go_num, rfl, (by have := b1.out; have := hs.out; omega : a + (h + 1 - a) = h + 1), ht, by rw [show h + 1 - a = h - a + 1 by have := b1.out; have := hs.out; omega]; exact hk.out.up (by have := b1.out; have := hs.out; omega) (by have := b2.out; have := ht.out; have := b1.out; have := hs.out; omega) hx.out hy.out hly.out, hb'⟩, by have := b1.out; have := b2.out; simp [intOf]; omega⟩
      · have i1 : ¬ (i : Int) < (j : Int) := by omega
        have i0 : (0 : Int) ≤ (i : Int) := by omega
        have hst' : s = t := by have := hs.out; have := ht.out; have := hk.out.le; omega
        subst hst'
        obtain ⟨Q, hQ⟩ : ∃ Q, Hid (H - s = Q) := ⟨_, rfl⟩
        obtain ⟨en, hen⟩ : ∃ en, Hid (m + Q = en) := ⟨_, rfl⟩
        have hsH := hk.out.tH
        have hsl := hk.out.tl
        have hsr := hk.out.sr
        have hHH := hH.out
        have hLL := hL.out
        have hRR := hRr.out
        have hmm := hm.out
        have hcc := hc.out
        have hnn' := hn.out
        have hQQ := hQ.out
        have hss := hs.out
        have hdd := hmd.out
        have hee := hen.out
        have hNN := hN.out
        have haa := ha.out
        have een : Hid ((N : Int) - (i : Int) = (en : Int)) := by show (N : Int) - (i : Int) = (en : Int); omega
        have g3 : (i : Int) ≤ (N : Int) := by omega
        have hmg : Hid (mergeL lt L R = mergeL lt (L.take s) (R.take Q) ++ mergeL lt (L.drop s) (R.drop Q)) := by rw [← hQ.out]; exact hk.out.done O hul hur
        have l1 : (L.take s).length = s := by rw [List.length_take]; omega
        have l2 : (L.drop s).length = L.length - s := by rw [List.length_drop]
        have l3 : (R.take Q).length = Q := by rw [List.length_take]; omega
        have l4 : (R.drop Q).length = R.length - Q := by rw [List.length_drop]
        have u1 := Up.take hul s
        have u2 := Up.drop hul s
        have u3 := Up.take hur Q
        have u4 := Up.drop hur Q
        have row0 : Hid (RowE enc wr b (A ++ (L.take s ++ (L.drop s ++ (R.take Q ++ (R.drop Q ++ B)))))) := by
          rw [← List.append_assoc (L.take s), List.take_append_drop, ← List.append_assoc (R.take Q), List.take_append_drop]
          exact hR.out.below hb.out
        have but0 : Hid (But b w wr) := But.of_below hb.out
        clear hR hk hb hlt hcmp
        obtain ⟨L1, eL1⟩ : ∃ L1, L.take s = L1 := ⟨_, rfl⟩
        obtain ⟨L2, eL2⟩ : ∃ L2, L.drop s = L2 := ⟨_, rfl⟩
        obtain ⟨R1, eR1⟩ : ∃ R1, R.take Q = R1 := ⟨_, rfl⟩
        obtain ⟨R2, eR2⟩ : ∃ R2, R.drop Q = R2 := ⟨_, rfl⟩
        rw [eL1] at l1 u1 row0 hmg
        rw [eL2] at l2 u2 row0 hmg
        rw [eR1] at l3 u3 row0 hmg
        rw [eR2] at l4 u4 row0 hmg
        clear eL1 eL2 eR1 eR2
        have fin : Hid (s = 0 ∧ 0 < Q ∧ Q < R.length ∨ s = 0 ∧ Q = R.length ∨ s = L.length ∧ Q = 0 ∨ s = L.length ∧ 0 < Q ∧ Q < R.length ∨ 0 < s ∧ s < L.length ∧ Q = 0 ∨ 0 < s ∧ s < L.length ∧ 0 < Q ∧ Q < R.length ∨ 0 < s ∧ s < L.length ∧ Q = R.length) := by
          show _ ∨ _
          omega
        rcases fin.out with hx | hx | hx | hx | hx | hx | hx
        · have hx := hx
          have v1 : (i : Int) < (m : Int) := by omega
          have v2 : (m : Int) < (en : Int) := by omega
          have v3 : ¬ (a : Int) < (i : Int) := by omega
          have v4 : (i : Int) < (md : Int) := by omega
          have v5 : (md : Int) < (en : Int) := by omega
          have v6 : (en : Int) < (c : Int) := by omega
          have call1 := hid_of (rotate_any E (A ++ L1) L2 R1 (R2 ++ B) b n cap i m en (.func (.func 59) #[] #[]) wr (by simpa [List.append_assoc] using row0.out) (by simp; omega) (by simp; omega) (by omega) (by simp; omega) (by omega) (by omega) hnn)
          rw [show (A ++ L1) ++ (R1 ++ (L2 ++ (R2 ++ B))) = A ++ (L1 ++ (R1 ++ (L2 ++ (R2 ++ B)))) from List.append_assoc _ _ _] at call1
          have keep2 := hid_of (fun W (hW : RowE enc W b (A ++ (L1 ++ (R1 ++ (L2 ++ (R2 ++ B)))))) => show RowE enc W b (A ++ (mergeL lt L1 R1 ++ (L2 ++ (R2 ++ B)))) by have e : L1 = [] := List.eq_nil_of_length_eq_zero (by omega); rw [e] at hW ⊢; rw [nil_mergeL]; exact hW)
          have call3 := hid_of (fun W (hB : But b w0 W) (hW : RowE enc W b (A ++ (mergeL lt L1 R1 ++ (L2 ++ (R2 ++ B))))) => ih.out (L.length - s + (R.length - Q)) (by omega) (A ++ mergeL lt L1 R1) L2 R2 B md en c W hB (by simpa [List.append_assoc] using hW) u2 u4 (by omega) (by omega) (by omega) (by rw [List.length_append, mergeL_length]; omega) (by omega) (by omega) (by omega))
          clear hsH hsl hsr hHH hLL hRR hmm hcc hnn' hQQ hss hdd hee hNN haa hx l1 l2 l3 l4 u1 u2 u3 u4 fin row0
          go_upto_region 39 with fail
          rw [een.out]
          go_wp2_with fail
          refine call1.out.mono ?_
          rintro e X1 ⟨rfl, row1, b1⟩
          replace row1 := hid_of row1
          have but1 := hid_of (but0.out.trans b1)
          clear b1 but0 call1
          go_wp2_with fail
          refine (call3.out X1 (hw0.out.trans but1.out) (keep2.out X1 row1.out)).mono ?_
          rintro e X3 ⟨rfl, row3, b1⟩
          rw [List.append_assoc, ← List.append_assoc (mergeL lt L1 R1), ← hmg.out] at row3
          replace row3 := hid_of row3
          have but3 := hid_of (but1.out.trans b1)
          clear b1 call3
          go_wp2_with fail
          exact bodyPost_end (results_none rfl _ _ _) rfl ⟨rfl, row3.out, but3.out⟩
        · have hx := hx
          have v1 : (i : Int) < (m : Int) := by omega
          have v2 : (m : Int) < (en : Int) := by omega
          have v3 : ¬ (a : Int) < (i : Int) := by omega
          have v4 : (i : Int) < (md : Int) := by omega
          have v5 : (md : Int) < (en : Int) := by omega
          have v6 : ¬ (en : Int) < (c : Int) := by omega
          have call1 := hid_of (rotate_any E (A ++ L1) L2 R1 (R2 ++ B) b n cap i m en (.func (.func 59) #[] #[]) wr (by simpa [List.append_assoc] using row0.out) (by simp; omega) (by simp; omega) (by omega) (by simp; omega) (by omega) (by omega) hnn)
          rw [show (A ++ L1) ++ (R1 ++ (L2 ++ (R2 ++ B))) = A ++ (L1 ++ (R1 ++ (L2 ++ (R2 ++ B)))) from List.append_assoc _ _ _] at call1
          have keep2 := hid_of (fun W (hW : RowE enc W b (A ++ (L1 ++ (R1 ++ (L2 ++ (R2 ++ B)))))) => show RowE enc W b (A ++ (mergeL lt L1 R1 ++ (L2 ++ (R2 ++ B)))) by have e : L1 = [] := List.eq_nil_of_length_eq_zero (by omega); rw [e] at hW ⊢; rw [nil_mergeL]; exact hW)
          have keep3 := hid_of (fun W (hW : RowE enc W b (A ++ (mergeL lt L1 R1 ++ (L2 ++ (R2 ++ B))))) => show RowE enc W b (A ++ (mergeL lt L R ++ B)) by have e : R2 = [] := List.eq_nil_of_length_eq_zero (by omega); rw [hmg.out]; rw [e] at hW ⊢; rw [mergeL_nil]; simpa [List.append_assoc] using hW)
          clear hsH hsl hsr hHH hLL hRR hmm hcc hnn' hQQ hss hdd hee hNN haa hx l1 l2 l3 l4 u1 u2 u3 u4 fin row0
          go_upto_region 39 with fail
          rw [een.out]
          go_wp2_with fail
          refine call1.out.mono ?_
          rintro e X1 ⟨rfl, row1, b1⟩
          replace row1 := hid_of row1
          have but1 := hid_of (but0.out.trans b1)
          clear b1 but0 call1
          go_wp2_with fail
          exact bodyPost_end (results_none rfl _ _ _) rfl ⟨rfl, (keep3.out X1 (keep2.out X1 row1.out)), but1.out⟩
        · exfalso; omega
        · exfalso; omega
        · have hx := hx
          have v1 : (i : Int) < (m : Int) := by omega
          have v2 : ¬ (m : Int) < (en : Int) := by omega
          have v3 : (a : Int) < (i : Int) := by omega
          have v4 : ¬ (i : Int) < (md : Int) := by omega
          have v5 : (md : Int) < (en : Int) := by omega
          have v6 : (en : Int) < (c : Int) := by omega
          have nil : R1 = [] := List.eq_nil_of_length_eq_zero (by omega)
          have row1 : Hid (RowE enc wr b (A ++ (L1 ++ (R1 ++ (L2 ++ (R2 ++ B)))))) := by have h := row0.out; rw [nil] at h ⊢; exact h
          clear nil
          have keep2 := hid_of (fun W (hW : RowE enc W b (A ++ (L1 ++ (R1 ++ (L2 ++ (R2 ++ B)))))) => show RowE enc W b (A ++ (mergeL lt L1 R1 ++ (L2 ++ (R2 ++ B)))) by have e : R1 = [] := List.eq_nil_of_length_eq_zero (by omega); rw [e] at hW ⊢; rw [mergeL_nil]; exact hW)
          have call3 := hid_of (fun W (hB : But b w0 W) (hW : RowE enc W b (A ++ (mergeL lt L1 R1 ++ (L2 ++ (R2 ++ B))))) => ih.out (L.length - s + (R.length - Q)) (by omega) (A ++ mergeL lt L1 R1) L2 R2 B md en c W hB (by simpa [List.append_assoc] using hW) u2 u4 (by omega) (by omega) (by omega) (by rw [List.length_append, mergeL_length]; omega) (by omega) (by omega) (by omega))
          clear hsH hsl hsr hHH hLL hRR hmm hcc hnn' hQQ hss hdd hee hNN haa hx l1 l2 l3 l4 u1 u2 u3 u4 fin row0
          go_upto_region 39 with fail
          rw [een.out]
          go_wp2_with fail
          refine (call3.out wr (hw0.out.trans but0.out) (keep2.out wr row1.out)).mono ?_
          rintro e X3 ⟨rfl, row3, b1⟩
          rw [List.append_assoc, ← List.append_assoc (mergeL lt L1 R1), ← hmg.out] at row3
          replace row3 := hid_of row3
          have but3 := hid_of (but0.out.trans b1)
          clear b1 call3
          go_wp2_with fail
          exact bodyPost_end (results_none rfl _ _ _) rfl ⟨rfl, row3.out, but3.out⟩
        · have hx := hx
          have v1 : (i : Int) < (m : Int) := by omega
          have v2 : (m : Int) < (en : Int) := by omega
          have v3 : (a : Int) < (i : Int) := by omega
          have v4 : (i : Int) < (md : Int) := by omega
          have v5 : (md : Int) < (en : Int) := by omega
          have v6 : (en : Int) < (c : Int) := by omega
          have call1 := hid_of (rotate_any E (A ++ L1) L2 R1 (R2 ++ B) b n cap i m en (.func (.func 59) #[] #[]) wr (by simpa [List.append_assoc] using row0.out) (by simp; omega) (by simp; omega) (by omega) (by simp; omega) (by omega) (by omega) hnn)
          rw [show (A ++ L1) ++ (R1 ++ (L2 ++ (R2 ++ B))) = A ++ (L1 ++ (R1 ++ (L2 ++ (R2 ++ B)))) from List.append_assoc _ _ _] at call1
          have call2 := hid_of (fun W (hB : But b w0 W) (hW : RowE enc W b (A ++ (L1 ++ (R1 ++ (L2 ++ (R2 ++ B)))))) => ih.out (s + Q) (by omega) A L1 R1 (L2 ++ (R2 ++ B)) a i md W hB hW u1 u3 (by omega) (by omega) (by omega) (by omega) (by omega) (by omega) (by simp; omega))
          have call3 := hid_of (fun W (hB : But b w0 W) (hW : RowE enc W b (A ++ (mergeL lt L1 R1 ++ (L2 ++ (R2 ++ B))))) => ih.out (L.length - s + (R.length - Q)) (by omega) (A ++ mergeL lt L1 R1) L2 R2 B md en c W hB (by simpa [List.append_assoc] using hW) u2 u4 (by omega) (by omega) (by omega) (by rw [List.length_append, mergeL_length]; omega) (by omega) (by omega) (by omega))
          clear hsH hsl hsr hHH hLL hRR hmm hcc hnn' hQQ hss hdd hee hNN haa hx l1 l2 l3 l4 u1 u2 u3 u4 fin row0
          go_upto_region 39 with fail
          rw [een.out]
          go_wp2_with fail
          refine call1.out.mono ?_
          rintro e X1 ⟨rfl, row1, b1⟩
          replace row1 := hid_of row1
          have but1 := hid_of (but0.out.trans b1)
          clear b1 but0 call1
          go_wp2_with fail
          refine (call2.out X1 (hw0.out.trans but1.out) row1.out).mono ?_
          rintro e X2 ⟨rfl, row2, b1⟩
          replace row2 := hid_of row2
          have but2 := hid_of (but1.out.trans b1)
          clear b1 row1 call2
          go_wp2_with fail
          refine (call3.out X2 (hw0.out.trans but2.out) row2.out).mono ?_
          rintro e X3 ⟨rfl, row3, b1⟩
          rw [List.append_assoc, ← List.append_assoc (mergeL lt L1 R1), ← hmg.out] at row3
          replace row3 := hid_of row3
          have but3 := hid_of (but2.out.trans b1)
          clear b1 call3
          go_wp2_with fail
          exact bodyPost_end (results_none rfl _ _ _) rfl ⟨rfl, row3.out, but3.out⟩
        · have hx := hx
          have v1 : (i : Int) < (m : Int) := by omega
          have v2 : (m : Int) < (en : Int) := by omega
          have v3 : (a : Int) < (i : Int) := by omega
          have v4 : (i : Int) < (md : Int) := by omega
          have v5 : (md : Int) < (en : Int) := by omega
          have v6 : ¬ (en : Int) < (c : Int) := by omega
          have call1 := hid_of (rotate_any E (A ++ L1) L2 R1 (R2 ++ B) b n cap i m en (.func (.func 59) #[] #[]) wr (by simpa [List.append_assoc] using row0.out) (by simp; omega) (by simp; omega) (by omega) (by simp; omega) (by omega) (by omega) hnn)
          rw [show (A ++ L1) ++ (R1 ++ (L2 ++ (R2 ++ B))) = A ++ (L1 ++ (R1 ++ (L2 ++ (R2 ++ B)))) from List.append_assoc _ _ _] at call1
          have call2 := hid_of (fun W (hB : But b w0 W) (hW : RowE enc W b (A ++ (L1 ++ (R1 ++ (L2 ++ (R2 ++ B)))))) => ih.out (s + Q) (by omega) A L1 R1 (L2 ++ (R2 ++ B)) a i md W hB hW u1 u3 (by omega) (by omega) (by omega) (by omega) (by omega) (by omega) (by simp; omega))
          have keep3 := hid_of (fun W (hW : RowE enc W b (A ++ (mergeL lt L1 R1 ++ (L2 ++ (R2 ++ B))))) => show RowE enc W b (A ++ (mergeL lt L R ++ B)) by have e : R2 = [] := List.eq_nil_of_length_eq_zero (by omega); rw [hmg.out]; rw [e] at hW ⊢; rw [mergeL_nil]; simpa [List.append_assoc] using hW)
          clear hsH hsl hsr hHH hLL hRR hmm hcc hnn' hQQ hss hdd hee hNN haa hx l1 l2 l3 l4 u1 u2 u3 u4 fin row0
          go_upto_region 39 with fail
          rw [een.out]
          go_wp2_with fail
          refine call1.out.mono ?_
          rintro e X1 ⟨rfl, row1, b1⟩
          replace row1 := hid_of row1
          have but1 := hid_of (but0.out.trans b1)
          clear b1 but0 call1
          go_wp2_with fail
          refine (call2.out X1 (hw0.out.trans but1.out) row1.out).mono ?_
          rintro e X2 ⟨rfl, row2, b1⟩
          replace row2 := hid_of row2
          have but2 := hid_of (but1.out.trans b1)
          clear b1 row1 call2
          go_wp2_with fail
          exact bodyPost_end (results_none rfl _ _ _) rfl ⟨rfl, (keep3.out X2 row2.out), but2.out⟩
  · have g1 : ¬ (md : Int) < (m : Int) := by omega
    have hk0 : Hid (Cut lt L R H 0 L.length) := Cut.near (by have := hmd.out; have := hm.out; omega) (by have := hH.out; have := hmd.out; have := hm.out; omega)
    go_upto_region 32 with fail
    go_wp2_with fail
    rw [eP.out]
    go_loopw [20, 21] (fun iv jv wr => ∃ i j s t : Nat, iv = .int .i64 i ∧ jv = .int .i64 j ∧ Hid (a + s = i) ∧ Hid (a + t = j) ∧ Hid (Cut lt L R H s t) ∧ Hid (Below w.heap.size w wr)) (fun iv jv _ => (intOf jv).toNat - (intOf iv).toNat)
    case atStart => exact ⟨a, m, 0, L.length, rfl, rfl, rfl, hm, hk0, Below.refl _ _⟩
    case round =>
      clear hk0
      obtain ⟨i, j, s, t, rfl, rfl, hs, ht, hk, hb⟩ := hrel
      by_cases hij : i < j
      · have i1 : (i : Int) < (j : Int) := by omega
        have i2 : (j : Int) ≤ (m : Int) := by have := hk.out.tl; have := ht.out; have := hm.out; omega
        have i3 : (0 : Int) ≤ (i : Int) := by omega
        have i4 : (i : Int) + (j : Int) ≤ 9223372036854775807 := by omega
        obtain ⟨h, hh⟩ : ∃ h : Nat, Hid (h = (i + j) / 2) := ⟨_, rfl⟩
        have eh : Hid (((i : Int) + (j : Int)) / 2 = (h : Int)) := by show ((i : Int) + (j : Int)) / 2 = (h : Int); have := hh.out; omega
        have b1 : i ≤ h := by have := hh.out; omega
        have b2 : h < j := by have := hh.out; omega
        have b3 : (h : Int) < (n : Int) := by omega
        have b4 : (0 : Int) ≤ (h : Int) := by omega
        have b5 : h - a < L.length := by have := hk.out.tl; have := ht.out; have := hs.out; omega
        have b6 : H - 1 - (h - a) < R.length := by have := hk.out.sr; have := hk.out.tH; have := ht.out; have := hs.out; omega
        obtain ⟨z, hz⟩ : ∃ z, Hid (m + (H - 1 - (h - a)) = z) := ⟨_, rfl⟩
        have ez : IntKind.i64.wrap ((P : Int) - (h : Int)) = (z : Int) := by have := hz.out; have := hP.out; have := hN.out; have := hmd.out; have := hk.out.tH; have := ht.out; have := hs.out; rw [wrap_in (by omega) (by omega)]; omega
        have b7 : (z : Int) < (n : Int) := by have := hz.out; have := hc.out; omega
        have b8 : (0 : Int) ≤ (z : Int) := by omega
        obtain ⟨x, hx⟩ : ∃ x, Hid (L[h - a]? = some x) := ⟨L[h - a], List.getElem?_eq_getElem b5⟩
        obtain ⟨y, hy⟩ : ∃ y, Hid (R[H - 1 - (h - a)]? = some y) := ⟨R[H - 1 - (h - a)], List.getElem?_eq_getElem b6⟩
        have hx' : (A ++ (L ++ (R ++ B)))[h]? = some x := by
          rw [List.getElem?_append_right (by have := ha.out; have := hs.out; omega), show h - A.length = h - a by rw [ha.out], List.getElem?_append_left b5]
          exact hx.out
        have hy' : (A ++ (L ++ (R ++ B)))[z]? = some y := by
          rw [List.getElem?_append_right (by have := ha.out; have := hz.out; have := hm.out; omega), List.getElem?_append_right (by have := ha.out; have := hz.out; have := hm.out; omega), show z - A.length - L.length = H - 1 - (h - a) by have := ha.out; have := hz.out; have := hm.out; omega, List.getElem?_append_left b6]
          exact hy.out
        obtain ⟨gx1, gx2⟩ := (hR.out.below hb.out) h x hx'
        obtain ⟨gy1, gy2⟩ := (hR.out.below hb.out) z y hy'
        obtain ⟨x0, x1, x2, x3, x4, ex⟩ := seven (E.size x)
        have gx1 : ∀ (r : Nat) u, (enc x)[r]? = some u → wr.cell? ⟨b, h * 5 + r, none⟩ = some u := fun r u hu => by have := gx1 r u (by simpa using hu); simpa using this
        have gx2 : ∀ (r : Nat), r < 5 → (wr.cell? ⟨b, h * 5 + r, none⟩).isSome = true ∧ wr.frozen? ⟨b, h * 5 + r, none⟩ = false := fun r hr => by have := gx2 r hr; simpa using this
        have xc0 : wr.cell? ⟨b, h * 5, none⟩ = some x0 := gx1 0 x0 (by rw [ex]; rfl)
        have xc1 : wr.cell? ⟨b, h * 5 + 1, none⟩ = some x1 := gx1 1 x1 (by rw [ex]; rfl)
        have xc2 : wr.cell? ⟨b, h * 5 + 2, none⟩ = some x2 := gx1 2 x2 (by rw [ex]; rfl)
        have xc3 : wr.cell? ⟨b, h * 5 + 3, none⟩ = some x3 := gx1 3 x3 (by rw [ex]; rfl)
        have xc4 : wr.cell? ⟨b, h * 5 + 4, none⟩ = some x4 := gx1 4 x4 (by rw [ex]; rfl)
        obtain ⟨y0, y1, y2, y3, y4, ey⟩ := seven (E.size y)
        have gy1 : ∀ (r : Nat) u, (enc y)[r]? = some u → wr.cell? ⟨b, z * 5 + r, none⟩ = some u := fun r u hu => by have := gy1 r u (by simpa using hu); simpa using this
        have gy2 : ∀ (r : Nat), r < 5 → (wr.cell? ⟨b, z * 5 + r, none⟩).isSome = true ∧ wr.frozen? ⟨b, z * 5 + r, none⟩ = false := fun r hr => by have := gy2 r hr; simpa using this
        have yc0 : wr.cell? ⟨b, z * 5, none⟩ = some y0 := gy1 0 y0 (by rw [ey]; rfl)
        have yc1 : wr.cell? ⟨b, z * 5 + 1, none⟩ = some y1 := gy1 1 y1 (by rw [ey]; rfl)
        have yc2 : wr.cell? ⟨b, z * 5 + 2, none⟩ = some y2 := gy1 2 y2 (by rw [ey]; rfl)
        have yc3 : wr.cell? ⟨b, z * 5 + 3, none⟩ = some y3 := gy1 3 y3 (by rw [ey]; rfl)
        have yc4 : wr.cell? ⟨b, z * 5 + 4, none⟩ = some y4 := gy1 4 y4 (by rw [ey]; rfl)
        have hwB := hid_of (hw0.out.trans (But.of_below hb.out))
        have hcx := hid_of (hcmp.out y x)
        rw [ex, ey] at hcx
        replace b1 := hid_of b1
        replace b2 := hid_of b2
        clear gx1 gx2 gy1 gy2 hx' hy' b5 b6
        go_upto_region 35 with fail
        rw [eh.out]
        refine wp_region_quiet (C := fun w' => Below wr.heap.size wr w') (by kernel_rfl) (by kernel_rfl) (below_drewN (Below.refl _ _) 1) ?_
        with_reducible refine wpQuiet_step (fun K hK => ?_)
        try refine k_quiet_if (by kernel_rfl) ?_
        refine ⟨.func (.func 59) #[] #[], fun w' _ => ?_, ?_⟩
        · first | (go_simp; done) | (go_simp; decide)
        with_reducible refine hK _ ?_
        clear hK K
        simp only [Act.put, List.setIfInBounds_toArray, List.set_cons_zero, List.set_cons_succ]
        with_reducible refine wpQuiet_step (fun K hK => ?_)
        try refine k_quiet_if (by kernel_rfl) ?_
        refine ⟨.slice (some ⟨b, 0, none⟩) n cap, fun w' _ => ?_, ?_⟩
        · first | (go_simp; done) | (go_simp; decide)
        with_reducible refine hK _ ?_
        clear hK K
        simp only [Act.put, List.setIfInBounds_toArray, List.set_cons_zero, List.set_cons_succ]
        with_reducible refine wpQuiet_step (fun K hK => ?_)
        try refine k_quiet_if (by kernel_rfl) ?_
        refine ⟨.int .i64 P, fun w' _ => ?_, ?_⟩
        · first | (go_simp; done) | (go_simp; decide)
        with_reducible refine hK _ ?_
        clear hK K
        simp only [Act.put, List.setIfInBounds_toArray, List.set_cons_zero, List.set_cons_succ]
        with_reducible refine wpQuiet_step (fun K hK => ?_)
        try refine k_quiet_if (by kernel_rfl) ?_
        refine ⟨.int .i64 h, fun w' _ => ?_, ?_⟩
        · first | (go_simp; done) | (go_simp; decide)
        with_reducible refine hK _ ?_
        clear hK K
        simp only [Act.put, List.setIfInBounds_toArray, List.set_cons_zero, List.set_cons_succ]
        with_reducible refine wpQuiet_step (fun K hK => ?_)
        try refine k_quiet_if (by kernel_rfl) ?_
        refine ⟨.int .i64 z, fun w' _ => ?_, ?_⟩
        · first | (go_simp; done) | (go_simp; decide)
        with_reducible refine hK _ ?_
        clear hK K
        simp only [Act.put, List.setIfInBounds_toArray, List.set_cons_zero, List.set_cons_succ]
        with_reducible refine wpQuiet_step (fun K hK => ?_)
        try refine k_quiet_if (by kernel_rfl) ?_
        refine ⟨.pointer (some ⟨b, z * 5, none⟩), fun w' _ => ?_, ?_⟩
        · first | (go_simp; done) | (go_simp; decide)
        with_reducible refine hK _ ?_
        clear hK K
        simp only [Act.put, List.setIfInBounds_toArray, List.set_cons_zero, List.set_cons_succ]
        with_reducible refine wpQuiet_step (fun K hK => ?_)
        try refine k_quiet_if (by kernel_rfl) ?_
        refine ⟨.agg #[y0, y1, y2, y3, y4], fun w' hw' => ?_, ?_⟩
        · have t0 := stay hw' yc0
          have t1 := stay hw' yc1
          have t2 := stay hw' yc2
          have t3 := stay hw' yc3
          have t4 := stay hw' yc4
          go_simp
        with_reducible refine hK _ ?_
        clear hK K
        simp only [Act.put, List.setIfInBounds_toArray, List.set_cons_zero, List.set_cons_succ]
        with_reducible refine wpQuiet_step (fun K hK => ?_)
        try refine k_quiet_if (by kernel_rfl) ?_
        refine ⟨.slice (some ⟨b, 0, none⟩) n cap, fun w' _ => ?_, ?_⟩
        · first | (go_simp; done) | (go_simp; decide)
        with_reducible refine hK _ ?_
        clear hK K
        simp only [Act.put, List.setIfInBounds_toArray, List.set_cons_zero, List.set_cons_succ]
        with_reducible refine wpQuiet_step (fun K hK => ?_)
        try refine k_quiet_if (by kernel_rfl) ?_
        refine ⟨.int .i64 h, fun w' _ => ?_, ?_⟩
        · first | (go_simp; done) | (go_simp; decide)
        with_reducible refine hK _ ?_
        clear hK K
        simp only [Act.put, List.setIfInBounds_toArray, List.set_cons_zero, List.set_cons_succ]
        with_reducible refine wpQuiet_step (fun K hK => ?_)
        try refine k_quiet_if (by kernel_rfl) ?_
        refine ⟨.pointer (some ⟨b, h * 5, none⟩), fun w' _ => ?_, ?_⟩
        · first | (go_simp; done) | (go_simp; decide)
        with_reducible refine hK _ ?_
        clear hK K
        simp only [Act.put, List.setIfInBounds_toArray, List.set_cons_zero, List.set_cons_succ]
        with_reducible refine wpQuiet_step (fun K hK => ?_)
        try refine k_quiet_if (by kernel_rfl) ?_
        refine ⟨.agg #[x0, x1, x2, x3, x4], fun w' hw' => ?_, ?_⟩
        · have t0 := stay hw' xc0
          have t1 := stay hw' xc1
          have t2 := stay hw' xc2
          have t3 := stay hw' xc3
          have t4 := stay hw' xc4
          go_simp
        with_reducible refine hK _ ?_
        clear hK K
        simp only [Act.put, List.setIfInBounds_toArray, List.set_cons_zero, List.set_cons_succ]
        with_reducible refine wpQuiet_step (fun K hK => ?_)
        try refine k_quiet_if (by kernel_rfl) ?_
        refine ⟨.int .i64 (cn y x), fun w' hw' => ?_, ?_⟩
        · go_simp
          refine (hcx.out w' (hwB.out.trans (But.of_below hw'))).mono ?_
          rintro e w'' ⟨rfl, hb⟩
          exact ⟨rfl, hw'.trans (hb.mono hw'.size)⟩
        with_reducible refine hK _ ?_
        clear hK K
        simp only [Act.put, List.setIfInBounds_toArray, List.set_cons_zero, List.set_cons_succ]
        by_cases hcz : cn y x < 0
        · have hly := hid_of (show lt y x = true by rw [hlt.out]; exact decide_eq_true hcz)
          with_reducible refine wpQuiet_step (fun K hK => ?_)
          try refine k_quiet_if (by kernel_rfl) ?_
          refine ⟨.bool true, fun w' _ => ?_, ?_⟩
          · first | (go_simp; done) | (go_simp; decide)
          with_reducible refine hK _ ?_
          clear hK K
          simp only [Act.put, List.setIfInBounds_toArray, List.set_cons_zero, List.set_cons_succ]
          with_reducible refine wpQuiet_step (fun K hK => ?_)
          try refine k_quiet_if (by kernel_rfl) ?_
          refine ⟨.bool false, fun w' _ => ?_, ?_⟩
          · first | (go_simp; done) | (go_simp; decide)
          with_reducible refine hK _ ?_
          clear hK K
          simp only [Act.put, List.setIfInBounds_toArray, List.set_cons_zero, List.set_cons_succ]
          refine wpQuiet_nil ?_
          intro X1 hX1
          have hb' := hid_of (hb.out.trans (hX1.mono hb.out.size))
          clear hcx hX1 hb xc0 xc1 xc2 xc3 xc4 yc0 yc1 yc2 yc3 yc4
          go_wp2_with fail
          exact ⟨⟨i, h, s, h - a, rfl, rfl, hs, (by have := b1.out; have := hs.out; omega : a + (h - a) = h), hk.out.down (by have := b1.out; have := hs.out; omega) (by have := b2.out; have := ht.out; have := b1.out; have := hs.out; omega) hx.out hy.out hly.out, hb'⟩, by have := b1.out; have := b2.out; simp [intOf]; omega⟩
        · have hly := hid_of (show lt y x = false by rw [hlt.out]; exact decide_eq_false hcz)
          with_reducible refine wpQuiet_step (fun K hK => ?_)
          try refine k_quiet_if (by kernel_rfl) ?_
          refine ⟨.bool false, fun w' _ => ?_, ?_⟩
          · first | (go_simp; done) | (go_simp; decide)
          with_reducible refine hK _ ?_
          clear hK K
          simp only [Act.put, List.setIfInBounds_toArray, List.set_cons_zero, List.set_cons_succ]
          with_reducible refine wpQuiet_step (fun K hK => ?_)
          try refine k_quiet_if (by kernel_rfl) ?_
          refine ⟨.bool true, fun w' _ => ?_, ?_⟩
          · first | (go_simp; done) | (go_simp; decide)
          with_reducible refine hK _ ?_
          clear hK K
          simp only [Act.put, List.setIfInBounds_toArray, List.set_cons_zero, List.set_cons_succ]
          refine wpQuiet_nil ?_
          intro X1 hX1
          have hb' := hid_of (hb.out.trans (hX1.mono hb.out.size))
          clear hcx hX1 hb xc0 xc1 xc2 xc3 xc4 yc0 yc1 yc2 yc3 yc4
          go_wp2_with fail
          exact ⟨⟨h + 1, j, h + 1 - a, t, by go_num, rfl, (by have := b1.out; have := hs.out; omega : a + (h + 1 - a) = h + 1), ht, by rw [show h + 1 - a = h - a + 1 by have := b1.out; have := hs.out; omega]; exact hk.out.up (by have := b1.out; have := hs.out; omega) (by have := b2.out; have := ht.out; have := b1.out; have := hs.out; omega) hx.out hy.out hly.out, hb'⟩, by have := b1.out; have := b2.out; simp [intOf]; omega⟩
      · have i1 : ¬ (i : Int) < (j : Int) := by omega
        have i0 : (0 : Int) ≤ (i : Int) := by omega
        have hst' : s = t := by have := hs.out; have := ht.out; have := hk.out.le; omega
        subst hst'
        obtain ⟨Q, hQ⟩ : ∃ Q, Hid (H - s = Q) := ⟨_, rfl⟩
        obtain ⟨en, hen⟩ : ∃ en, Hid (m + Q = en) := ⟨_, rfl⟩
        have hsH := hk.out.tH
        have hsl := hk.out.tl
        have hsr := hk.out.sr
        have hHH := hH.out
        have hLL := hL.out
        have hRR := hRr.out
        have hmm := hm.out
        have hcc := hc.out
        have hnn' := hn.out
        have hQQ := hQ.out
        have hss := hs.out
        have hdd := hmd.out
        have hee := hen.out
        have hNN := hN.out
        have haa := ha.out
        have een : Hid ((N : Int) - (i : Int) = (en : Int)) := by show (N : Int) - (i : Int) = (en : Int); omega
        have g3 : (i : Int) ≤ (N : Int) := by omega
        have hmg : Hid (mergeL lt L R = mergeL lt (L.take s) (R.take Q) ++ mergeL lt (L.drop s) (R.drop Q)) := by rw [← hQ.out]; exact hk.out.done O hul hur
        have l1 : (L.take s).length = s := by rw [List.length_take]; omega
        have l2 : (L.drop s).length = L.length - s := by rw [List.length_drop]
        have l3 : (R.take Q).length = Q := by rw [List.length_take]; omega
        have l4 : (R.drop Q).length = R.length - Q := by rw [List.length_drop]
        have u1 := Up.take hul s
        have u2 := Up.drop hul s
        have u3 := Up.take hur Q
        have u4 := Up.drop hur Q
        have row0 : Hid (RowE enc wr b (A ++ (L.take s ++ (L.drop s ++ (R.take Q ++ (R.drop Q ++ B)))))) := by
          rw [← List.append_assoc (L.take s), List.take_append_drop, ← List.append_assoc (R.take Q), List.take_append_drop]
          exact hR.out.below hb.out
        have but0 : Hid (But b w wr) := But.of_below hb.out
        clear hR hk hb hlt hcmp
        obtain ⟨L1, eL1⟩ : ∃ L1, L.take s = L1 := ⟨_, rfl⟩
        obtain ⟨L2, eL2⟩ : ∃ L2, L.drop s = L2 := ⟨_, rfl⟩
        obtain ⟨R1, eR1⟩ : ∃ R1, R.take Q = R1 := ⟨_, rfl⟩
        obtain ⟨R2, eR2⟩ : ∃ R2, R.drop Q = R2 := ⟨_, rfl⟩
        rw [eL1] at l1 u1 row0 hmg
        rw [eL2] at l2 u2 row0 hmg
        rw [eR1] at l3 u3 row0 hmg
        rw [eR2] at l4 u4 row0 hmg
        clear eL1 eL2 eR1 eR2
        have fin : Hid (s = 0 ∧ 0 < Q ∧ Q < R.length ∨ s = 0 ∧ Q = R.length ∨ s = L.length ∧ Q = 0 ∨ s = L.length ∧ 0 < Q ∧ Q < R.length ∨ 0 < s ∧ s < L.length ∧ Q = 0 ∨ 0 < s ∧ s < L.length ∧ 0 < Q ∧ Q < R.length ∨ 0 < s ∧ s < L.length ∧ Q = R.length) := by
          show _ ∨ _
          omega
        rcases fin.out with hx | hx | hx | hx | hx | hx | hx
        · have hx := hx
          have v1 : (i : Int) < (m : Int) := by omega
          have v2 : (m : Int) < (en : Int) := by omega
          have v3 : ¬ (a : Int) < (i : Int) := by omega
          have v4 : (i : Int) < (md : Int) := by omega
          have v5 : (md : Int) < (en : Int) := by omega
          have v6 : (en : Int) < (c : Int) := by omega
          have call1 := hid_of (rotate_any E (A ++ L1) L2 R1 (R2 ++ B) b n cap i m en (.func (.func 59) #[] #[]) wr (by simpa [List.append_assoc] using row0.out) (by simp; omega) (by simp; omega) (by omega) (by simp; omega) (by omega) (by omega) hnn)
          rw [show (A ++ L1) ++ (R1 ++ (L2 ++ (R2 ++ B))) = A ++ (L1 ++ (R1 ++ (L2 ++ (R2 ++ B)))) from List.append_assoc _ _ _] at call1
          have keep2 := hid_of (fun W (hW : RowE enc W b (A ++ (L1 ++ (R1 ++ (L2 ++ (R2 ++ B)))))) => show RowE enc W b (A ++ (mergeL lt L1 R1 ++ (L2 ++ (R2 ++ B)))) by have e : L1 = [] := List.eq_nil_of_length_eq_zero (by omega); rw [e] at hW ⊢; rw [nil_mergeL]; exact hW)
          have call3 := hid_of (fun W (hB : But b w0 W) (hW : RowE enc W b (A ++ (mergeL lt L1 R1 ++ (L2 ++ (R2 ++ B))))) => ih.out (L.length - s + (R.length - Q)) (by omega) (A ++ mergeL lt L1 R1) L2 R2 B md en c W hB (by simpa [List.append_assoc] using hW) u2 u4 (by omega) (by omega) (by omega) (by rw [List.length_append, mergeL_length]; omega) (by omega) (by omega) (by omega))
          clear hsH hsl hsr hHH hLL hRR hmm hcc hnn' hQQ hss hdd hee hNN haa hx l1 l2 l3 l4 u1 u2 u3 u4 fin row0
          go_upto_region 39 with fail
          rw [een.out]
          go_wp2_with fail
          refine call1.out.mono ?_
          rintro e X1 ⟨rfl, row1, b1⟩
          replace row1 := hid_of row1
          have but1 := hid_of (but0.out.trans b1)
          clear b1 but0 call1
          go_wp2_with fail
          refine (call3.out X1 (hw0.out.trans but1.out) (keep2.out X1 row1.out)).mono ?_
          rintro e X3 ⟨rfl, row3, b1⟩
          rw [List.append_assoc, ← List.append_assoc (mergeL lt L1 R1), ← hmg.out] at row3
          replace row3 := hid_of row3
          have but3 := hid_of (but1.out.trans b1)
          clear b1 call3
          go_wp2_with fail
          exact bodyPost_end (results_none rfl _ _ _) rfl ⟨rfl, row3.out, but3.out⟩
        · have hx := hx
          have v1 : (i : Int) < (m : Int) := by omega
          have v2 : (m : Int) < (en : Int) := by omega
          have v3 : ¬ (a : Int) < (i : Int) := by omega
          have v4 : (i : Int) < (md : Int) := by omega
          have v5 : (md : Int) < (en : Int) := by omega
          have v6 : ¬ (en : Int) < (c : Int) := by omega
          have call1 := hid_of (rotate_any E (A ++ L1) L2 R1 (R2 ++ B) b n cap i m en (.func (.func 59) #[] #[]) wr (by simpa [List.append_assoc] using row0.out) (by simp; omega) (by simp; omega) (by omega) (by simp; omega) (by omega) (by omega) hnn)
          rw [show (A ++ L1) ++ (R1 ++ (L2 ++ (R2 ++ B))) = A ++ (L1 ++ (R1 ++ (L2 ++ (R2 ++ B)))) from List.append_assoc _ _ _] at call1
          have keep2 := hid_of (fun W (hW : RowE enc W b (A ++ (L1 ++ (R1 ++ (L2 ++ (R2 ++ B)))))) => show RowE enc W b (A ++ (mergeL lt L1 R1 ++ (L2 ++ (R2 ++ B)))) by have e : L1 = [] := List.eq_nil_of_length_eq_zero (by omega); rw [e] at hW ⊢; rw [nil_mergeL]; exact hW)
          have keep3 := hid_of (fun W (hW : RowE enc W b (A ++ (mergeL lt L1 R1 ++ (L2 ++ (R2 ++ B))))) => show RowE enc W b (A ++ (mergeL lt L R ++ B)) by have e : R2 = [] := List.eq_nil_of_length_eq_zero (by omega); rw [hmg.out]; rw [e] at hW ⊢; rw [mergeL_nil]; simpa [List.append_assoc] using hW)
          clear hsH hsl hsr hHH hLL hRR hmm hcc hnn' hQQ hss hdd hee hNN haa hx l1 l2 l3 l4 u1 u2 u3 u4 fin row0
          go_upto_region 39 with fail
          rw [een.out]
          go_wp2_with fail
          refine call1.out.mono ?_
          rintro e X1 ⟨rfl, row1, b1⟩
          replace row1 := hid_of row1
          have but1 := hid_of (but0.out.trans b1)
          clear b1 but0 call1
          go_wp2_with fail
          exact bodyPost_end (results_none rfl _ _ _) rfl ⟨rfl, (keep3.out X1 (keep2.out X1 row1.out)), but1.out⟩
        · have hx := hx
          have v1 : ¬ (i : Int) < (m : Int) := by omega
          have v2 : ¬ (m : Int) < (en : Int) := by omega
          have v3 : (a : Int) < (i : Int) := by omega
          have v4 : ¬ (i : Int) < (md : Int) := by omega
          have v5 : ¬ (md : Int) < (en : Int) := by omega
          have v6 : (en : Int) < (c : Int) := by omega
          have nil : L2 = [] := List.eq_nil_of_length_eq_zero (by omega)
          have row1 : Hid (RowE enc wr b (A ++ (L1 ++ (R1 ++ (L2 ++ (R2 ++ B)))))) := by have h := row0.out; rw [nil] at h ⊢; exact h
          clear nil
          have keep2 := hid_of (fun W (hW : RowE enc W b (A ++ (L1 ++ (R1 ++ (L2 ++ (R2 ++ B)))))) => show RowE enc W b (A ++ (mergeL lt L1 R1 ++ (L2 ++ (R2 ++ B)))) by have e : R1 = [] := List.eq_nil_of_length_eq_zero (by omega); rw [e] at hW ⊢; rw [mergeL_nil]; exact hW)
          have keep3 := hid_of (fun W (hW : RowE enc W b (A ++ (mergeL lt L1 R1 ++ (L2 ++ (R2 ++ B))))) => show RowE enc W b (A ++ (mergeL lt L R ++ B)) by have e : L2 = [] := List.eq_nil_of_length_eq_zero (by omega); rw [hmg.out]; rw [e] at hW ⊢; rw [nil_mergeL]; simpa [List.append_assoc] using hW)
          clear hsH hsl hsr hHH hLL hRR hmm hcc hnn' hQQ hss hdd hee hNN haa hx l1 l2 l3 l4 u1 u2 u3 u4 fin row0
          go_upto_region 39 with fail
          rw [een.out]
          go_wp2_with fail
          exact bodyPost_end (results_none rfl _ _ _) rfl ⟨rfl, (keep3.out wr (keep2.out wr row1.out)), but0.out⟩
        · have hx := hx
          have v1 : ¬ (i : Int) < (m : Int) := by omega
          have v2 : (m : Int) < (en : Int) := by omega
          have v3 : (a : Int) < (i : Int) := by omega
          have v4 : (i : Int) < (md : Int) := by omega
          have v5 : ¬ (md : Int) < (en : Int) := by omega
          have v6 : (en : Int) < (c : Int) := by omega
          have nil : L2 = [] := List.eq_nil_of_length_eq_zero (by omega)
          have row1 : Hid (RowE enc wr b (A ++ (L1 ++ (R1 ++ (L2 ++ (R2 ++ B)))))) := by have h := row0.out; rw [nil] at h ⊢; exact h
          clear nil
          have call2 := hid_of (fun W (hB : But b w0 W) (hW : RowE enc W b (A ++ (L1 ++ (R1 ++ (L2 ++ (R2 ++ B)))))) => ih.out (s + Q) (by omega) A L1 R1 (L2 ++ (R2 ++ B)) a i md W hB hW u1 u3 (by omega) (by omega) (by omega) (by omega) (by omega) (by omega) (by simp; omega))
          have keep3 := hid_of (fun W (hW : RowE enc W b (A ++ (mergeL lt L1 R1 ++ (L2 ++ (R2 ++ B))))) => show RowE enc W b (A ++ (mergeL lt L R ++ B)) by have e : L2 = [] := List.eq_nil_of_length_eq_zero (by omega); rw [hmg.out]; rw [e] at hW ⊢; rw [nil_mergeL]; simpa [List.append_assoc] using hW)
          clear hsH hsl hsr hHH hLL hRR hmm hcc hnn' hQQ hss hdd hee hNN haa hx l1 l2 l3 l4 u1 u2 u3 u4 fin row0
          go_upto_region 39 with fail
          rw [een.out]
          go_wp2_with fail
          refine (call2.out wr (hw0.out.trans but0.out) row1.out).mono ?_
          rintro e X2 ⟨rfl, row2, b1⟩
          replace row2 := hid_of row2
          have but2 := hid_of (but0.out.trans b1)
          clear b1 row1 call2
          go_wp2_with fail
          exact bodyPost_end (results_none rfl _ _ _) rfl ⟨rfl, (keep3.out X2 row2.out), but2.out⟩
        · have hx := hx
          have v1 : (i : Int) < (m : Int) := by omega
          have v2 : ¬ (m : Int) < (en : Int) := by omega
          have v3 : (a : Int) < (i : Int) := by omega
          have v4 : ¬ (i : Int) < (md : Int) := by omega
          have v5 : (md : Int) < (en : Int) := by omega
          have v6 : (en : Int) < (c : Int) := by omega
          have nil : R1 = [] := List.eq_nil_of_length_eq_zero (by omega)
          have row1 : Hid (RowE enc wr b (A ++ (L1 ++ (R1 ++ (L2 ++ (R2 ++ B)))))) := by have h := row0.out; rw [nil] at h ⊢; exact h
          clear nil
          have keep2 := hid_of (fun W (hW : RowE enc W b (A ++ (L1 ++ (R1 ++ (L2 ++ (R2 ++ B)))))) => show RowE enc W b (A ++ (mergeL lt L1 R1 ++ (L2 ++ (R2 ++ B)))) by have e : R1 = [] := List.eq_nil_of_length_eq_zero (by omega); rw [e] at hW ⊢; rw [mergeL_nil]; exact hW)
          have call3 := hid_of (fun W (hB : But b w0 W) (hW : RowE enc W b (A ++ (mergeL lt L1 R1 ++ (L2 ++ (R2 ++ B))))) => ih.out (L.length - s + (R.length - Q)) (by omega) (A ++ mergeL lt L1 R1) L2 R2 B md en c W hB (by simpa [List.append_assoc] using hW) u2 u4 (by omega) (by omega) (by omega) (by rw [List.length_append, mergeL_length]; omega) (by omega) (by omega) (by omega))
          clear hsH hsl hsr hHH hLL hRR hmm hcc hnn' hQQ hss hdd hee hNN haa hx l1 l2 l3 l4 u1 u2 u3 u4 fin row0
          go_upto_region 39 with fail
          rw [een.out]
          go_wp2_with fail
          refine (call3.out wr (hw0.out.trans but0.out) (keep2.out wr row1.out)).mono ?_
          rintro e X3 ⟨rfl, row3, b1⟩
          rw [List.append_assoc, ← List.append_assoc (mergeL lt L1 R1), ← hmg.out] at row3
          replace row3 := hid_of row3
          have but3 := hid_of (but0.out.trans b1)
          clear b1 call3
          go_wp2_with fail
          exact bodyPost_end (results_none rfl _ _ _) rfl ⟨rfl, row3.out, but3.out⟩
        · have hx := hx
          have v1 : (i : Int) < (m : Int) := by omega
          have v2 : (m : Int) < (en : Int) := by omega
          have v3 : (a : Int) < (i : Int) := by omega
          have v4 : (i : Int) < (md : Int) := by omega
          have v5 : (md : Int) < (en : Int) := by omega
          have v6 : (en : Int) < (c : Int) := by omega
          have call1 := hid_of (rotate_any E (A ++ L1) L2 R1 (R2 ++ B) b n cap i m en (.func (.func 59) #[] #[]) wr (by simpa [List.append_assoc] using row0.out) (by simp; omega) (by simp; omega) (by omega) (by simp; omega) (by omega) (by omega) hnn)
          rw [show (A ++ L1) ++ (R1 ++ (L2 ++ (R2 ++ B))) = A ++ (L1 ++ (R1 ++ (L2 ++ (R2 ++ B)))) from List.append_assoc _ _ _] at call1
          have call2 := hid_of (fun W (hB : But b w0 W) (hW : RowE enc W b (A ++ (L1 ++ (R1 ++ (L2 ++ (R2 ++ B)))))) => ih.out (s + Q) (by omega) A L1 R1 (L2 ++ (R2 ++ B)) a i md W hB hW u1 u3 (by omega) (by omega) (by omega) (by omega) (by omega) (by omega) (by simp; omega))
          have call3 := hid_of (fun W (hB : But b w0 W) (hW : RowE enc W b (A ++ (mergeL lt L1 R1 ++ (L2 ++ (R2 ++ B))))) => ih.out (L.length - s + (R.length - Q)) (by omega) (A ++ mergeL lt L1 R1) L2 R2 B md en c W hB (by simpa [List.append_assoc] using hW) u2 u4 (by omega) (by omega) (by omega) (by rw [List.length_append, mergeL_length]; omega) (by omega) (by omega) (by omega))
          clear hsH hsl hsr hHH hLL hRR hmm hcc hnn' hQQ hss hdd hee hNN haa hx l1 l2 l3 l4 u1 u2 u3 u4 fin row0
          go_upto_region 39 with fail
          rw [een.out]
          go_wp2_with fail
          refine call1.out.mono ?_
          rintro e X1 ⟨rfl, row1, b1⟩
          replace row1 := hid_of row1
          have but1 := hid_of (but0.out.trans b1)
          clear b1 but0 call1
          go_wp2_with fail
          refine (call2.out X1 (hw0.out.trans but1.out) row1.out).mono ?_
          rintro e X2 ⟨rfl, row2, b1⟩
          replace row2 := hid_of row2
          have but2 := hid_of (but1.out.trans b1)
          clear b1 row1 call2
          go_wp2_with fail
          refine (call3.out X2 (hw0.out.trans but2.out) row2.out).mono ?_
          rintro e X3 ⟨rfl, row3, b1⟩
          rw [List.append_assoc, ← List.append_assoc (mergeL lt L1 R1), ← hmg.out] at row3
          replace row3 := hid_of row3
          have but3 := hid_of (but2.out.trans b1)
          clear b1 call3
          go_wp2_with fail
          exact bodyPost_end (results_none rfl _ _ _) rfl ⟨rfl, row3.out, but3.out⟩
        · exfalso; omega
end
end Go.Proofs.YtgigikcopedoeaaGreat.SortedV
/-! Stable sorting over memory: merging, of any two lists. -/
namespace Go.Proofs.YtgigikcopedoeaaGreat.SortedV
open Go Go.RowKit Go.Stab
section
variable {α : Type} {enc : α → Array Value}
theorem sym_any (E : Enc enc) {lt : α → α → Bool} (O : Swo lt) {b : Nat} {w0 : World} (cn : α → α → Int) (hlt : ∀ x y, lt x y = decide (cn x y < 0)) (hcmp : ∀ x y W, But b w0 W → Calls Tryz.prog 59 #[.agg (enc x), .agg (enc y)] W fun e w' => e = .returned (.int .i64 (cn x y)) ∧ Below W.heap.size W w') (n cap : Nat) (hnn : n ≤ 4611686018427387904) (s : Nat) : SymOk enc lt w0 b n cap s := by
  induction s using Nat.strongRecOn with
  | _ s ih =>
    intro A L R B a m c w hw0 hR hul hur h0 h1 hs ha hm hc hn
    by_cases e1 : L.length = 1
    · obtain ⟨x, rfl⟩ := List.length_eq_one_iff.1 e1
      exact sym_one E O cn hlt hcmp A x R B n cap a m c w hw0 hR hur ha hm hc hn hnn
    · by_cases e2 : R.length = 1
      · obtain ⟨y, rfl⟩ := List.length_eq_one_iff.1 e2
        exact sym_last E O cn hlt hcmp A y L B n cap a m c w hw0 hR hul e1 ha hm hc hn hnn
      · exact sym_step E O cn hlt hcmp A L R B n cap a m c w hw0 (fun s' h => ih s' (by omega)) hR hul hur (by omega) (by omega) ha hm hc hn hnn
end
end Go.Proofs.YtgigikcopedoeaaGreat.SortedV
/-! Stable sorting over memory: block by block. -/
namespace Go.Stab
variable {α : Type}
theorem blocks_next (lt : α → α → Bool) {s : Nat} (hs : 0 < s) {l : List α} : blocks lt s l = isort lt (l.take s) ++ blocks lt s (l.drop s) := by
  rcases Nat.lt_or_ge s l.length with h' | h'
  · exact blocks_long lt hs h'
  · rw [blocks_short lt h', List.take_of_length_le h', List.drop_eq_nil_of_le h', blocks_short lt (by simp), show isort lt ([] : List α) = [] from rfl, List.append_nil]
/-- What is done of a pass, and what is still to come. -/
structure Part (lt : α → α → Bool) (s : Nat) (D P R : List α) (a n : Nat) : Prop where
  len : P.length = a
  sum : a + R.length = n
  all : blocks lt s D = P ++ blocks lt s R
theorem Part.zero (lt : α → α → Bool) (s : Nat) (D : List α) : Part lt s D [] D 0 D.length := ⟨rfl, by omega, rfl⟩
theorem Part.step {lt : α → α → Bool} {s : Nat} (hs : 0 < s) {D P R : List α} {a n : Nat} (h : Part lt s D P R a n) (hl : a + s ≤ n) : Part lt s D (P ++ isort lt (R.take s)) (R.drop s) (a + s) n := by
  have h1 := h.sum
  refine ⟨by rw [List.length_append, h.len, isort_length, List.length_take]; omega, by rw [List.length_drop]; omega, ?_⟩
  rw [h.all, blocks_next lt hs, List.append_assoc]
theorem Part.last {lt : α → α → Bool} {s : Nat} {D P R : List α} {a n : Nat} (h : Part lt s D P R a n) (hl : n ≤ a + s) : blocks lt s D = P ++ isort lt R := by
  have h1 := h.sum
  rw [h.all, blocks_short lt (by omega)]
theorem two_blocks (lt : α → α → Bool) {s : Nat} (hs : 0 < s) {R : List α} : blocks lt s R = isort lt (R.take s) ++ (isort lt ((R.drop s).take s) ++ blocks lt s (R.drop (2 * s))) := by
  rw [blocks_next lt hs, blocks_next lt hs (l := R.drop s), List.drop_drop, show s + s = 2 * s by omega]
theorem rest_blocks (lt : α → α → Bool) {s : Nat} (hs : 0 < s) {R : List α} (h2 : R.length ≤ 2 * s) : blocks lt s R = isort lt (R.take s) ++ isort lt (R.drop s) := by
  rw [blocks_next lt hs, blocks_short lt (l := R.drop s) (by rw [List.length_drop]; omega)]
theorem mergeL_map {β : Type} (f : α → β) {lt : α → α → Bool} {lt' : β → β → Bool} (h : ∀ x y, lt x y = lt' (f x) (f y)) : ∀ (l r : List α), (mergeL lt l r).map f = mergeL lt' (l.map f) (r.map f)
  | [], r => by simp [nil_mergeL]
  | x :: l, [] => by simp [mergeL_nil]
  | x :: l, y :: r => by
    rw [mergeL_cons, List.map_cons, List.map_cons, mergeL_cons, h]
    split
    · rw [List.map_cons, mergeL_map f h (x :: l) r, List.map_cons]
    · rw [List.map_cons, mergeL_map f h l (y :: r), List.map_cons]
termination_by l r => l.length + r.length
theorem isort_map {β : Type} (f : α → β) {lt : α → α → Bool} {lt' : β → β → Bool} (h : ∀ x y, lt x y = lt' (f x) (f y)) (l : List α) : (isort lt l).map f = isort lt' (l.map f) := by
  unfold isort
  rw [List.foldl_map]
  suffices ∀ (l s : List α), (l.foldl (fun s y => mergeL lt s [y]) s).map f = l.foldl (fun s y => mergeL lt' s [f y]) (s.map f) from this l []
  intro l
  induction l with
  | nil => intro s; rfl
  | cons y l ih => intro s; rw [List.foldl_cons, List.foldl_cons, ih, mergeL_map f h]; rfl
end Go.Stab
namespace Go.Proofs.YtgigikcopedoeaaGreat.SortedV
open Go Go.RowKit Go.Stab
section
variable {α : Type} {enc : α → Array Value}
set_option maxRecDepth 100000 in
set_option maxHeartbeats 8000000 in
theorem stable_any (E : Enc enc) {lt : α → α → Bool} (O : Swo lt) {b : Nat} {w0 : World} (cn : α → α → Int) (hlt : ∀ x y, lt x y = decide (cn x y < 0)) (hcmp : ∀ x y W, But b w0 W → Calls Tryz.prog 59 #[.agg (enc x), .agg (enc y)] W fun e w' => e = .returned (.int .i64 (cn x y)) ∧ Below W.heap.size W w')
    (D : List α) (n cap : Nat) (w : World) (hw0 : But b w0 w) (hR : RowE enc w b D) (hn : D.length = n) (hnn : n ≤ 1152921504606846976) :
    Calls Tryz.prog 112 #[.slice (some ⟨b, 0, none⟩) n cap, .int .i64 n, .func (.func 59) #[] #[]] w fun e w' => e = .returned (.tuple #[]) ∧ RowE enc w' b (isort lt D) ∧ But b w w' := by
  have insert := hid_of (fun (A M B : List α) (a c : Nat) (W : World) (h1 : But b w0 W) (h2 : RowE enc W b (A ++ (M ++ B))) (h3 : A.length = a) (h4 : a + M.length = c) (h5 : c + B.length = n) => insert_any E O cn hlt hcmp A M B n cap a c W h1 h2 h3 h4 h5 (by omega))
  have sym := hid_of (fun (A L R B : List α) (a m c : Nat) (W : World) (h0 : But b w0 W) (h1 : RowE enc W b (A ++ (L ++ (R ++ B)))) (hl : Up lt L) (hr : Up lt R) (h2 : 0 < L.length) (h3 : 0 < R.length) (h4 : A.length = a) (h5 : a + L.length = m) (h6 : m + R.length = c) (h7 : c + B.length = n) => sym_any E O cn hlt hcmp n cap (by omega) (L.length + R.length) A L R B a m c W h0 h1 hl hr h2 h3 rfl h4 h5 h6 h7)
  have p0 : Hid (Part lt 20 D [] D 0 n) := by rw [← hn]; exact Part.zero lt 20 D
  replace hw0 := hid_of hw0
  replace hR := hid_of hR
  replace hn := hid_of hn
  have n1 : (n : Int) ≤ 1152921504606846976 := by omega
  have n0 : (0 : Int) ≤ (n : Int) := by omega
  clear hlt hcmp
  go_enter Tryz.func112, Tryz.ntmps112
  go_wp2_with fail
  go_loopw [7, 8] (fun av bv wr => ∃ (a c : Nat) (P R : List α), av = .int .i64 a ∧ bv = .int .i64 c ∧ Hid (a + 20 = c) ∧ a ≤ n ∧ Hid (Part lt 20 D P R a n) ∧ Hid (RowE enc wr b (P ++ R)) ∧ Hid (But b w wr)) (fun av _ _ => n - (intOf av).toNat)
  case atStart => exact ⟨0, 20, [], D, rfl, rfl, rfl, Nat.zero_le _, p0, hR, hid_of (But.refl b w)⟩
  case round =>
    clear p0
    obtain ⟨a, c, P, R, rfl, rfl, hac, han, hp, hr, hb⟩ := hrel
    have a0 : (0 : Int) ≤ (a : Int) := by omega
    have a1 : (a : Int) ≤ 1152921504606846976 := by omega
    have c1 : (c : Int) ≤ 1152921504606847000 := by have := hac.out; omega
    have c0 : (0 : Int) ≤ (c : Int) := by omega
    by_cases hcn : c ≤ n
    · have hcn' : (c : Int) ≤ (n : Int) := by omega
      have call := hid_of (insert.out P (R.take 20) (R.drop 20) a c wr (hw0.out.trans hb.out) (by rw [List.take_append_drop]; exact hr.out) hp.out.len (by have := hp.out.sum; have := hac.out; rw [List.length_take]; omega) (by have := hp.out.sum; have := hac.out; rw [List.length_drop]; omega))
      have hp' : Hid (Part lt 20 D (P ++ isort lt (R.take 20)) (R.drop 20) c n) := by have := hac.out; subst this; exact hp.out.step (by omega) (by omega)
      obtain ⟨c', hc'⟩ : ∃ c' : Nat, Hid (c + 20 = c') := ⟨_, rfl⟩
      have ec : Hid ((c : Int) + 20 = (c' : Int)) := by show (c : Int) + 20 = (c' : Int); have := hc'.out; omega
      have hm : Hid (n - c < n - a) := by show n - c < n - a; have := hac.out; omega
      go_wp2_with fail
      refine call.out.mono ?_
      rintro e X ⟨rfl, hx, hbx⟩
      have hx' : Hid (RowE enc X b ((P ++ isort lt (R.take 20)) ++ R.drop 20)) := by rw [List.append_assoc]; exact hx
      have hb' := hid_of (hb.out.trans hbx)
      clear call hx hbx hr hb hp insert sym
      go_wp2_with fail
      rw [ec.out]
      exact ⟨⟨c, c', _, _, rfl, rfl, hc', hcn, hp', hx', hb'⟩, by simp only [intOf]; exact hm.out⟩
    · have hcn' : ¬ (c : Int) ≤ (n : Int) := by omega
      have call := hid_of (insert.out P R [] a n wr (hw0.out.trans hb.out) (by rw [List.append_nil]; exact hr.out) hp.out.len hp.out.sum (by simp))
      have he : Hid (P ++ (isort lt R ++ []) = blocks lt 20 D) := by show _ = _; rw [List.append_nil, hp.out.last (by have := hac.out; omega)]
      rw [he.out] at call
      clear he hac hp hr a0 a1 c1 c0 insert
      go_wp2_with fail
      refine call.out.mono ?_
      rintro e X ⟨rfl, hx, hbx⟩
      replace hx := hid_of hx
      have hb' := hid_of (hb.out.trans hbx)
      clear call hbx hb hcn hcn' han
      go_wp2_with fail
      go_loopw [6, 7, 8, 9] (fun sv _ _ _ wr => ∃ s : Nat, sv = .int .i64 s ∧ 0 < s ∧ Hid (RowE enc wr b (blocks lt s D)) ∧ Hid (But b w wr)) (fun sv _ _ _ _ => n - (intOf sv).toNat)
      case atStart => exact ⟨20, rfl, by omega, hx, hb'⟩
      case round =>
        clear hx hb'
        obtain ⟨s, rfl, hs, hx, hb⟩ := hrel
        by_cases hsn : s < n
        · have hsn' : (s : Int) < (n : Int) := by omega
          have s0 : (0 : Int) ≤ (s : Int) := by omega
          have s1 : (s : Int) ≤ 1152921504606846976 := by omega
          obtain ⟨S2, hS2⟩ : ∃ S2 : Nat, Hid (2 * s = S2) := ⟨_, rfl⟩
          have eS : Hid (2 * (s : Int) = (S2 : Int)) := by show 2 * (s : Int) = (S2 : Int); have := hS2.out; omega
          have eS' : Hid ((s : Int) * 2 = (S2 : Int)) := by show (s : Int) * 2 = (S2 : Int); have := hS2.out; omega
          have s2 : (S2 : Int) ≤ 2305843009213693952 := by have := hS2.out; omega
          have s3 : (0 : Int) ≤ (S2 : Int) := by omega
          have hm2 : Hid (0 < S2 ∧ n - S2 < n - s) := by show _ ∧ _; have := hS2.out; omega
          have q0 : Hid (Part lt S2 D [] D 0 n) := by rw [← hn.out]; exact Part.zero lt S2 D
          go_upto_region 9 with fail
          rw [eS.out]
          go_loopw [7, 8] (fun av bv wr => ∃ (a c : Nat) (P R : List α), av = .int .i64 a ∧ bv = .int .i64 c ∧ Hid (a + S2 = c) ∧ a ≤ n ∧ Hid (Part lt S2 D P R a n) ∧ Hid (RowE enc wr b (P ++ blocks lt s R)) ∧ Hid (But b w wr)) (fun av _ _ => n - (intOf av).toNat)
          case atStart => exact ⟨0, S2, [], D, rfl, rfl, by show 0 + S2 = S2; omega, Nat.zero_le _, q0, hx, hb⟩
          case round =>
            clear q0 hx hb
            obtain ⟨a, c, P, R, rfl, rfl, hac, han, hp, hr, hb⟩ := hrel
            have a0 : (0 : Int) ≤ (a : Int) := by omega
            have a1 : (a : Int) ≤ 1152921504606846976 := by omega
            have c1 : (c : Int) ≤ 3458764513820540928 := by have := hac.out; omega
            have c0 : (0 : Int) ≤ (c : Int) := by omega
            obtain ⟨m, hmm⟩ : ∃ m : Nat, Hid (a + s = m) := ⟨_, rfl⟩
            have em : Hid ((a : Int) + (s : Int) = (m : Int)) := by show (a : Int) + (s : Int) = (m : Int); have := hmm.out; omega
            by_cases hcn : c ≤ n
            · have hcn' : (c : Int) ≤ (n : Int) := by omega
              have call := hid_of (sym.out P (isort lt (R.take s)) (isort lt ((R.drop s).take s)) (blocks lt s (R.drop (2 * s))) a m c wr (hw0.out.trans hb.out) (by have h := hr.out; rw [two_blocks lt hs] at h; exact h) (isort_up O _) (isort_up O _)
                (by rw [isort_length, List.length_take]; have := hp.out.sum; have := hac.out; have := hS2.out; omega) (by rw [isort_length, List.length_take, List.length_drop]; have := hp.out.sum; have := hac.out; have := hS2.out; omega) hp.out.len (by rw [isort_length, List.length_take]; have := hmm.out; have := hp.out.sum; have := hac.out; have := hS2.out; omega) (by rw [isort_length, List.length_take, List.length_drop]; have := hmm.out; have := hp.out.sum; have := hac.out; have := hS2.out; omega) (by rw [blocks_length lt hs _ _ (Nat.le_refl _), List.length_drop]; have := hp.out.sum; have := hac.out; have := hS2.out; omega))
              rw [blocks_twice O, ← List.append_assoc, hS2.out] at call
              have hp' : Hid (Part lt S2 D (P ++ isort lt (R.take S2)) (R.drop S2) c n) := by have := hac.out; subst this; exact hp.out.step hm2.out.1 (by omega)
              obtain ⟨c', hc'⟩ : ∃ c' : Nat, Hid (c + S2 = c') := ⟨_, rfl⟩
              have ec : Hid ((c : Int) + (S2 : Int) = (c' : Int)) := by show (c : Int) + (S2 : Int) = (c' : Int); have := hc'.out; omega
              have hm : Hid (n - c < n - a) := by show n - c < n - a; have := hac.out; have := hm2.out; omega
              go_wp2_with fail
              rw [em.out]
              refine call.out.mono ?_
              rintro e X ⟨rfl, hx, hbx⟩
              replace hx := hid_of hx
              have hb' := hid_of (hb.out.trans hbx)
              clear call hbx hr hb hp sym
              go_wp2_with fail
              rw [eS.out, ec.out]
              exact ⟨⟨c, c', _, _, rfl, rfl, hc', hcn, hp', hx, hb'⟩, by simp only [intOf]; exact hm.out⟩
            · have hcn' : ¬ (c : Int) ≤ (n : Int) := by omega
              have m1 : (m : Int) ≤ 3458764513820540928 := by have := hmm.out; omega
              by_cases hmn : m < n
              · have hmn' : (m : Int) < (n : Int) := by omega
                have call := hid_of (sym.out P (isort lt (R.take s)) (isort lt (R.drop s)) [] a m n wr (hw0.out.trans hb.out) (by have h := hr.out; rw [rest_blocks lt hs (by have := hp.out.sum; have := hac.out; have := hS2.out; omega)] at h; rw [List.append_nil]; exact h) (isort_up O _) (isort_up O _)
                  (by rw [isort_length, List.length_take]; have := hp.out.sum; have := hmm.out; omega) (by rw [isort_length, List.length_drop]; have := hp.out.sum; have := hmm.out; omega) hp.out.len (by rw [isort_length, List.length_take]; have := hp.out.sum; have := hmm.out; omega) (by rw [isort_length, List.length_drop]; have := hp.out.sum; have := hmm.out; omega) (by simp))
                rw [blocks_rest O, List.append_nil, ← hp.out.last (by have := hac.out; omega)] at call
                go_upto_region 14 with fail
                rw [em.out]
                go_wp2_with fail
                refine call.out.mono ?_
                rintro e X ⟨rfl, hx, hbx⟩
                replace hx := hid_of hx
                have hb' := hid_of (hb.out.trans hbx)
                clear call hbx hr hb hp sym
                go_wp2_with fail
                rw [eS'.out]
                exact ⟨⟨S2, rfl, hm2.out.1, hx, hb'⟩, by simp only [intOf]; exact hm2.out.2⟩
              · have hmn' : ¬ (m : Int) < (n : Int) := by omega
                have hx : Hid (RowE enc wr b (blocks lt S2 D)) := by
                  have h := hr.out
                  rw [blocks_short lt (by have := hp.out.sum; have := hmm.out; omega), ← hp.out.last (by have := hac.out; omega)] at h
                  exact h
                clear hr hp sym
                go_upto_region 14 with fail
                rw [em.out]
                go_wp2_with fail
                rw [eS'.out]
                exact ⟨⟨S2, rfl, hm2.out.1, hx, hb⟩, by simp only [intOf]; exact hm2.out.2⟩
        · have hsn' : ¬ (s : Int) < (n : Int) := by omega
          rw [blocks_short lt (by have := hn.out; omega)] at hx
          clear sym
          go_wp2_with fail
          exact bodyPost_end (results_none rfl _ _ _) rfl ⟨rfl, hx.out, hb.out⟩
end
end Go.Proofs.YtgigikcopedoeaaGreat.SortedV
/-! slices.SortStableFunc. -/
namespace Go.Proofs.YtgigikcopedoeaaGreat.SortedV
open Go Go.RowKit Go.Stab
section
variable {α : Type} {enc : α → Array Value}
theorem sort_any (E : Enc enc) {lt : α → α → Bool} (O : Swo lt) {b : Nat} {w0 : World} (cn : α → α → Int) (hlt : ∀ x y, lt x y = decide (cn x y < 0)) (hcmp : ∀ x y W, But b w0 W → Calls Tryz.prog 59 #[.agg (enc x), .agg (enc y)] W fun e w' => e = .returned (.int .i64 (cn x y)) ∧ Below W.heap.size W w')
    (D : List α) (n cap : Nat) (w : World) (hw0 : But b w0 w) (hR : RowE enc w b D) (hn : D.length = n) (hnn : n ≤ 1152921504606846976) :
    Calls Tryz.prog 77 #[.slice (some ⟨b, 0, none⟩) n cap, .func (.func 59) #[] #[]] w fun e w' => e = .returned (.tuple #[]) ∧ RowE enc w' b (isort lt D) ∧ But b w w' := by
  have call := hid_of (stable_any E O cn hlt hcmp D n cap w hw0 hR hn hnn)
  clear hlt hcmp hw0 hR hn
  go_enter Tryz.func77, Tryz.ntmps77
  go_wp2_with fail
  refine call.out.mono ?_
  rintro e X ⟨rfl, hx, hb⟩
  replace hx := hid_of hx
  replace hb := hid_of hb
  clear call
  go_wp2_with fail
  exact bodyPost_end (results_none rfl _ _ _) rfl ⟨rfl, hx.out, hb.out⟩
end
end Go.Proofs.YtgigikcopedoeaaGreat.SortedV
