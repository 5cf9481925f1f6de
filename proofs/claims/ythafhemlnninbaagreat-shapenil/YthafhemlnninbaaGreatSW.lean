import Derived.Test.YthafhemlnninbaaGreatSV
/-! Stable sorting over memory: merging, one element behind. -/
namespace Go.Proofs.YthafhemlnninbaaGreat.Sorted
open Go Go.RowKit Go.Stab
section
variable {α : Type} {enc : α → Array Value} {rv : Value}
theorem onL_back (A : List α) (x y : α) (L B : List α) (q k : Nat) (hk : A.length + q = k) (hx : L[q]? = some x) : ((A ++ (onL y L (q + 1) ++ B)).set (k + 1) x).set k y = A ++ (onL y L q ++ B) := by
  have ht : q < L.length := (List.getElem?_eq_some_iff.1 hx).1
  have e1 : L.drop q = x :: L.drop (q + 1) := by rw [List.drop_eq_getElem_cons ht]; congr 1; exact (List.getElem?_eq_some_iff.1 hx).2
  have e2 : L.take (q + 1) = L.take q ++ [x] := by rw [List.take_succ_eq_append_getElem ht]; congr 2; exact (List.getElem?_eq_some_iff.1 hx).2
  have e : A ++ (onL y L (q + 1) ++ B) = (A ++ L.take q) ++ (x :: y :: (L.drop (q + 1) ++ B)) := by unfold onL; rw [e2]; simp
  have hl : (A ++ L.take q).length = k := by simp; omega
  rw [e, List.set_append_right _ _ (by omega), List.set_append_right _ _ (by omega), hl, show k - k = 0 by omega, show k + 1 - k = 1 by omega]
  unfold onL
  rw [e1]
  simp
theorem onL_behind (A : List α) (x y : α) (L B : List α) (q k : Nat) (hk : A.length + q = k) (hx : L[q]? = some x) : (A ++ (onL y L (q + 1) ++ B))[k]? = some x ∧ (A ++ (onL y L (q + 1) ++ B))[k + 1]? = some y := by
  have ht : q < L.length := (List.getElem?_eq_some_iff.1 hx).1
  have e2 : L.take (q + 1) = L.take q ++ [x] := by rw [List.take_succ_eq_append_getElem ht]; congr 2; exact (List.getElem?_eq_some_iff.1 hx).2
  have e : A ++ (onL y L (q + 1) ++ B) = (A ++ L.take q) ++ (x :: y :: (L.drop (q + 1) ++ B)) := by unfold onL; rw [e2]; simp
  have hl : (A ++ L.take q).length = k := by simp; omega
  rw [e, List.getElem?_append_right (by omega), List.getElem?_append_right (by omega), hl, show k - k = 0 by omega, show k + 1 - k = 1 by omega]
  simp
/-- Not above. -/
def nlt (lt : α → α → Bool) : α → α → Bool := fun z u => !lt u z
set_option maxRecDepth 100000 in
set_option maxHeartbeats 4000000 in
theorem sym_last (E : Enc enc) {lt : α → α → Bool} (O : Swo lt) {b : Nat} {w0 : World} (cn : α → α → Int) (hlt : ∀ x y, lt x y = decide (cn x y < 0)) (hcmp : ∀ x y W, But b w0 W → Calls Tryz.prog 38 #[rv, .agg (enc x), .agg (enc y)] W fun e w' => e = .returned (.int .i64 (cn x y)) ∧ Below W.heap.size W w')
    (A : List α) (y : α) (L B : List α) (n cap a m c : Nat) (w : World) (hw0 : But b w0 w) (hR : RowE enc w b (A ++ (L ++ (y :: B)))) (hup : Up lt L) (hL : L.length ≠ 1) (ha : A.length = a) (hm : a + L.length = m) (hc : m + 1 = c) (hn : c + B.length = n) (hnn : n ≤ 4611686018427387904) :
    Calls Tryz.prog 93 #[.slice (some ⟨b, 0, none⟩) n cap, .int .i64 a, .int .i64 m, .int .i64 c, .func (.func 38) #[rv] #[]] w fun e w' => e = .returned (.tuple #[]) ∧ RowE enc w' b (A ++ (mergeL lt L [y] ++ B)) ∧ But b w w' := by
  replace hlt := hid_of hlt
  replace hcmp := hid_of hcmp
  replace hw0 := hid_of hw0
  replace hR := hid_of hR
  replace hup := hid_of hup
  have f1 : ¬ (m : Int) - (a : Int) = 1 := by omega
  have f0 : (c : Int) - (m : Int) = 1 := by omega
  have f2 : (m : Int) < (c : Int) := by omega
  have f3 : (c : Int) ≤ (n : Int) := by omega
  have f4 : (n : Int) ≤ 4611686018427387904 := by omega
  have f5 : (0 : Int) ≤ (a : Int) := by omega
  have f6 : (m : Int) < (n : Int) := by omega
  have f7 : (c : Int) ≤ 4611686018427387904 := by omega
  have f8 : (a : Int) ≤ (m : Int) := by omega
  have f9 : (0 : Int) ≤ (m : Int) := by omega
  replace ha := hid_of ha
  replace hm := hid_of hm
  replace hc := hid_of hc
  replace hn := hid_of hn
  clear hL
  go_enter Tryz.func93, Tryz.ntmps93
  go_wp2_with fail
  go_loopw [14, 15] (fun iv jv wr => ∃ i j s t : Nat, iv = .int .i64 i ∧ jv = .int .i64 j ∧ Hid (a + s = i) ∧ Hid (a + t = j) ∧ Hid (Seek (nlt lt) y L s t) ∧ Hid (Below w.heap.size w wr)) (fun iv jv _ => (intOf jv).toNat - (intOf iv).toNat)
  case atStart => exact ⟨a, m, 0, L.length, rfl, rfl, rfl, hm, ⟨by omega, by omega, by simp, by simp⟩, Below.refl _ _⟩
  case round =>
    obtain ⟨i, j, s, t, rfl, rfl, hs, ht, hk, hb⟩ := hrel
    by_cases hij : i < j
    · have i1 : (i : Int) < (j : Int) := by omega
      have i2 : (j : Int) ≤ (m : Int) := by have := hk.out.end_; have := ht.out; have := hm.out; omega
      have i3 : (0 : Int) ≤ (i : Int) := by omega
      have i4 : (i : Int) + (j : Int) ≤ 9223372036854775807 := by omega
      obtain ⟨h, hh⟩ : ∃ h : Nat, Hid (h = (i + j) / 2) := ⟨_, rfl⟩
      have eh : Hid (((i : Int) + (j : Int)) / 2 = (h : Int)) := by show ((i : Int) + (j : Int)) / 2 = (h : Int); have := hh.out; omega
      have b1 : i ≤ h := by have := hh.out; omega
      have b2 : h < j := by have := hh.out; omega
      have b3 : (h : Int) < (n : Int) := by omega
      have b4 : (0 : Int) ≤ (h : Int) := by omega
      have b5 : h - a < L.length := by have := hk.out.end_; have := ht.out; have := hs.out; omega
      obtain ⟨x, hx⟩ : ∃ x, Hid (L[h - a]? = some x) := ⟨L[h - a], List.getElem?_eq_getElem b5⟩
      have hx' : (A ++ (L ++ (y :: B)))[h]? = some x := by
        rw [List.getElem?_append_right (by have := ha.out; have := hs.out; omega), show h - A.length = h - a by rw [ha.out], List.getElem?_append_left b5]
        exact hx.out
      have hy' : (A ++ (L ++ (y :: B)))[m]? = some y := by
        rw [List.getElem?_append_right (by have := ha.out; have := hm.out; omega), List.getElem?_append_right (by have := ha.out; have := hm.out; omega), show m - A.length - L.length = 0 by have := ha.out; have := hm.out; omega]; rfl
      obtain ⟨gx1, gx2⟩ := (hR.out.below hb.out) h x hx'
      obtain ⟨gy1, gy2⟩ := (hR.out.below hb.out) m y hy'
      obtain ⟨x0, x1, x2, x3, x4, x5, x6, x7, ex⟩ := seven (E.size x)
      have gx1 : ∀ (r : Nat) u, (enc x)[r]? = some u → wr.cell? ⟨b, h * 8 + r, none⟩ = some u := fun r u hu => by have := gx1 r u (by simpa using hu); simpa using this
      have gx2 : ∀ (r : Nat), r < 8 → (wr.cell? ⟨b, h * 8 + r, none⟩).isSome = true ∧ wr.frozen? ⟨b, h * 8 + r, none⟩ = false := fun r hr => by have := gx2 r hr; simpa using this
      have xc0 : wr.cell? ⟨b, h * 8, none⟩ = some x0 := gx1 0 x0 (by rw [ex]; rfl)
      have xc1 : wr.cell? ⟨b, h * 8 + 1, none⟩ = some x1 := gx1 1 x1 (by rw [ex]; rfl)
      have xc2 : wr.cell? ⟨b, h * 8 + 2, none⟩ = some x2 := gx1 2 x2 (by rw [ex]; rfl)
      have xc3 : wr.cell? ⟨b, h * 8 + 3, none⟩ = some x3 := gx1 3 x3 (by rw [ex]; rfl)
      have xc4 : wr.cell? ⟨b, h * 8 + 4, none⟩ = some x4 := gx1 4 x4 (by rw [ex]; rfl)
      have xc5 : wr.cell? ⟨b, h * 8 + 5, none⟩ = some x5 := gx1 5 x5 (by rw [ex]; rfl)
      have xc6 : wr.cell? ⟨b, h * 8 + 6, none⟩ = some x6 := gx1 6 x6 (by rw [ex]; rfl)
      have xc7 : wr.cell? ⟨b, h * 8 + 7, none⟩ = some x7 := gx1 7 x7 (by rw [ex]; rfl)
      obtain ⟨y0, y1, y2, y3, y4, y5, y6, y7, ey⟩ := seven (E.size y)
      have gy1 : ∀ (r : Nat) u, (enc y)[r]? = some u → wr.cell? ⟨b, m * 8 + r, none⟩ = some u := fun r u hu => by have := gy1 r u (by simpa using hu); simpa using this
      have gy2 : ∀ (r : Nat), r < 8 → (wr.cell? ⟨b, m * 8 + r, none⟩).isSome = true ∧ wr.frozen? ⟨b, m * 8 + r, none⟩ = false := fun r hr => by have := gy2 r hr; simpa using this
      have yc0 : wr.cell? ⟨b, m * 8, none⟩ = some y0 := gy1 0 y0 (by rw [ey]; rfl)
      have yc1 : wr.cell? ⟨b, m * 8 + 1, none⟩ = some y1 := gy1 1 y1 (by rw [ey]; rfl)
      have yc2 : wr.cell? ⟨b, m * 8 + 2, none⟩ = some y2 := gy1 2 y2 (by rw [ey]; rfl)
      have yc3 : wr.cell? ⟨b, m * 8 + 3, none⟩ = some y3 := gy1 3 y3 (by rw [ey]; rfl)
      have yc4 : wr.cell? ⟨b, m * 8 + 4, none⟩ = some y4 := gy1 4 y4 (by rw [ey]; rfl)
      have yc5 : wr.cell? ⟨b, m * 8 + 5, none⟩ = some y5 := gy1 5 y5 (by rw [ey]; rfl)
      have yc6 : wr.cell? ⟨b, m * 8 + 6, none⟩ = some y6 := gy1 6 y6 (by rw [ey]; rfl)
      have yc7 : wr.cell? ⟨b, m * 8 + 7, none⟩ = some y7 := gy1 7 y7 (by rw [ey]; rfl)
      have hwB := hid_of (hw0.out.trans (But.of_below hb.out))
      have hcx := hid_of (hcmp.out y x)
      rw [ex, ey] at hcx
      replace b1 := hid_of b1
      replace b2 := hid_of b2
      clear gx1 gx2 gy1 gy2 hx' hy' b5
      go_upto_region 17 with fail
      rw [eh.out]
      refine wp_region_quiet (C := fun w' => Below wr.heap.size wr w') (by kernel_rfl) (by kernel_rfl) (below_drewN (Below.refl _ _) 1) ?_
      with_reducible refine wpQuiet_step (fun K hK => ?_)
      try refine k_quiet_if (by kernel_rfl) ?_
      refine ⟨.func (.func 38) #[rv] #[], fun w' _ => ?_, ?_⟩
      · first | (go_simp; done) | (go_simp; decide)
      with_reducible refine hK _ ?_
      clear hK K
      simp only [Act.put, List.setIfInBounds_toArray, List.set_cons_zero, List.set_cons_succ]
      with_reducible refine wpQuiet_step (fun K hK => ?_)
      try refine k_quiet_if (by kernel_rfl) ?_
      refine ⟨.slice (some ⟨b, 0, none⟩) n cap, fun w' _ => ?_, ?_⟩
      · first | (go_simp; done) | (go_simp; decide)
      with_reducible refine hK _ ?_
      clear hK K
      simp only [Act.put, List.setIfInBounds_toArray, List.set_cons_zero, List.set_cons_succ]
      with_reducible refine wpQuiet_step (fun K hK => ?_)
      try refine k_quiet_if (by kernel_rfl) ?_
      refine ⟨.int .i64 m, fun w' _ => ?_, ?_⟩
      · first | (go_simp; done) | (go_simp; decide)
      with_reducible refine hK _ ?_
      clear hK K
      simp only [Act.put, List.setIfInBounds_toArray, List.set_cons_zero, List.set_cons_succ]
      with_reducible refine wpQuiet_step (fun K hK => ?_)
      try refine k_quiet_if (by kernel_rfl) ?_
      refine ⟨.pointer (some ⟨b, m * 8, none⟩), fun w' _ => ?_, ?_⟩
      · first | (go_simp; done) | (go_simp; decide)
      with_reducible refine hK _ ?_
      clear hK K
      simp only [Act.put, List.setIfInBounds_toArray, List.set_cons_zero, List.set_cons_succ]
      with_reducible refine wpQuiet_step (fun K hK => ?_)
      try refine k_quiet_if (by kernel_rfl) ?_
      refine ⟨.agg #[y0, y1, y2, y3, y4, y5, y6, y7], fun w' hw' => ?_, ?_⟩
      · have t0 := stay hw' yc0
        have t1 := stay hw' yc1
        have t2 := stay hw' yc2
        have t3 := stay hw' yc3
        have t4 := stay hw' yc4
        have t5 := stay hw' yc5
        have t6 := stay hw' yc6
        have t7 := stay hw' yc7
        go_simp
      with_reducible refine hK _ ?_
      clear hK K
      simp only [Act.put, List.setIfInBounds_toArray, List.set_cons_zero, List.set_cons_succ]
      with_reducible refine wpQuiet_step (fun K hK => ?_)
      try refine k_quiet_if (by kernel_rfl) ?_
      refine ⟨.slice (some ⟨b, 0, none⟩) n cap, fun w' _ => ?_, ?_⟩
      · first | (go_simp; done) | (go_simp; decide)
      with_reducible refine hK _ ?_
      clear hK K
      simp only [Act.put, List.setIfInBounds_toArray, List.set_cons_zero, List.set_cons_succ]
      with_reducible refine wpQuiet_step (fun K hK => ?_)
      try refine k_quiet_if (by kernel_rfl) ?_
      refine ⟨.int .i64 h, fun w' _ => ?_, ?_⟩
      · first | (go_simp; done) | (go_simp; decide)
      with_reducible refine hK _ ?_
      clear hK K
      simp only [Act.put, List.setIfInBounds_toArray, List.set_cons_zero, List.set_cons_succ]
      with_reducible refine wpQuiet_step (fun K hK => ?_)
      try refine k_quiet_if (by kernel_rfl) ?_
      refine ⟨.pointer (some ⟨b, h * 8, none⟩), fun w' _ => ?_, ?_⟩
      · first | (go_simp; done) | (go_simp; decide)
      with_reducible refine hK _ ?_
      clear hK K
      simp only [Act.put, List.setIfInBounds_toArray, List.set_cons_zero, List.set_cons_succ]
      with_reducible refine wpQuiet_step (fun K hK => ?_)
      try refine k_quiet_if (by kernel_rfl) ?_
      refine ⟨.agg #[x0, x1, x2, x3, x4, x5, x6, x7], fun w' hw' => ?_, ?_⟩
      · have t0 := stay hw' xc0
        have t1 := stay hw' xc1
        have t2 := stay hw' xc2
        have t3 := stay hw' xc3
        have t4 := stay hw' xc4
        have t5 := stay hw' xc5
        have t6 := stay hw' xc6
        have t7 := stay hw' xc7
        go_simp
      with_reducible refine hK _ ?_
      clear hK K
      simp only [Act.put, List.setIfInBounds_toArray, List.set_cons_zero, List.set_cons_succ]
      with_reducible refine wpQuiet_step (fun K hK => ?_)
      try refine k_quiet_if (by kernel_rfl) ?_
      refine ⟨.int .i64 (cn y x), fun w' hw' => ?_, ?_⟩
      · go_simp
        refine (hcx.out w' (hwB.out.trans (But.of_below hw'))).mono ?_
        rintro e w'' ⟨rfl, hb⟩
        exact ⟨rfl, hw'.trans (hb.mono hw'.size)⟩
      with_reducible refine hK _ ?_
      clear hK K
      simp only [Act.put, List.setIfInBounds_toArray, List.set_cons_zero, List.set_cons_succ]
      by_cases hcz : cn y x < 0
      · have hly := hid_of (show nlt lt x y = false by unfold nlt; rw [hlt.out, decide_eq_true hcz]; rfl)
        with_reducible refine wpQuiet_step (fun K hK => ?_)
        try refine k_quiet_if (by kernel_rfl) ?_
        refine ⟨.bool true, fun w' _ => ?_, ?_⟩
        · first | (go_simp; done) | (go_simp; decide)
        with_reducible refine hK _ ?_
        clear hK K
        simp only [Act.put, List.setIfInBounds_toArray, List.set_cons_zero, List.set_cons_succ]
        with_reducible refine wpQuiet_step (fun K hK => ?_)
        try refine k_quiet_if (by kernel_rfl) ?_
        refine ⟨.bool false, fun w' _ => ?_, ?_⟩
        · first | (go_simp; done) | (go_simp; decide)
        with_reducible refine hK _ ?_
        clear hK K
        simp only [Act.put, List.setIfInBounds_toArray, List.set_cons_zero, List.set_cons_succ]
        refine wpQuiet_nil ?_
        intro X1 hX1
        have hb' := hid_of (hb.out.trans (hX1.mono hb.out.size))
        clear hcx hX1 hb xc0 xc1 xc2 xc3 xc4 xc5 xc6 xc7 yc0 yc1 yc2 yc3 yc4 yc5 yc6 yc7
        go_wp2_with fail
        exact ⟨⟨i, h, s, h - a, rfl, rfl, hs, (by have := b1.out; have := hs.out; omega : a + (h - a) = h), hk.out.down (by have := b1.out; have := hs.out; omega) (by have := b2.out; have := ht.out; have := b1.out; have := hs.out; omega) hx.out hly.out, hb'⟩, by have := b1.out; have := b2.out; simp [intOf]; omega⟩
      · have hly := hid_of (show nlt lt x y = true by unfold nlt; rw [hlt.out, decide_eq_false hcz]; rfl)
        with_reducible refine wpQuiet_step (fun K hK => ?_)
        try refine k_quiet_if (by kernel_rfl) ?_
        refine ⟨.bool false, fun w' _ => ?_, ?_⟩
        · first | (go_simp; done) | (go_simp; decide)
        with_reducible refine hK _ ?_
        clear hK K
        simp only [Act.put, List.setIfInBounds_toArray, List.set_cons_zero, List.set_cons_succ]
        with_reducible refine wpQuiet_step (fun K hK => ?_)
        try refine k_quiet_if (by kernel_rfl) ?_
        refine ⟨.bool true, fun w' _ => ?_, ?_⟩
        · first | (go_simp; done) | (go_simp; decide)
        with_reducible refine hK _ ?_
        clear hK K
        simp only [Act.put, List.setIfInBounds_toArray, List.set_cons_zero, List.set_cons_succ]
        refine wpQuiet_nil ?_
        intro X1 hX1
        have hb' := hid_of (hb.out.trans (hX1.mono hb.out.size))
        clear hcx hX1 hb xc0 xc1 xc2 xc3 xc4 xc5 xc6 xc7 yc0 yc1 yc2 yc3 yc4 yc5 yc6 yc7
        go_wp2_with fail
        exact ⟨⟨h + 1, j, h + 1 - a, t, by go_num, rfl, (by have := b1.out; have := hs.out; omega : a + (h + 1 - a) = h + 1), ht, by rw [show h + 1 - a = h - a + 1 by have := b1.out; have := hs.out; omega]; exact hk.out.up (by have := b2.out; have := ht.out; have := b1.out; have := hs.out; omega) hx.out hly.out, hb'⟩, by have := b1.out; have := b2.out; simp [intOf]; omega⟩
    · have i1 : ¬ (i : Int) < (j : Int) := by omega
      have i3 : (0 : Int) ≤ (i : Int) := by omega
      have i5 : (i : Int) ≤ (m : Int) := by have := hs.out; have := hk.out.le; have := hk.out.end_; have := hm.out; omega
      go_wp2_with fail
      have hst' : s = t := by have := hs.out; have := ht.out; have := hk.out.le; omega
      subst hst'
      have hcut : Hid (mergeL lt L [y] = onL y L s) := last_cut O hup.out s hk.out.end_ (fun x h1 h2 => by have := hk.out.low x h1 h2; unfold nlt at this; simpa using this) (fun x h2 => by have := hk.out.high x h2; unfold nlt at this; simpa using this)
      have hse : s ≤ L.length := hk.out.end_
      have h0 : Hid (RowE enc wr b (A ++ (onL y L L.length ++ B))) := by show RowE enc wr b (A ++ (onL y L L.length ++ B)); unfold onL; simpa using hR.out.below hb.out
      have hb0 : Hid (But b w wr) := But.of_below hb.out
      clear hR hcmp hlt hk hb hup
      go_loopw [17] (fun kv wr => ∃ k t : Nat, kv = .int .i64 k ∧ Hid (a + t = k) ∧ Hid (s ≤ t) ∧ Hid (t ≤ L.length) ∧ Hid (RowE enc wr b (A ++ (onL y L t ++ B))) ∧ Hid (But b w wr)) (fun kv _ => (intOf kv).toNat)
      case atStart => exact ⟨m, L.length, rfl, hm, hse, Nat.le_refl _, h0, hb0⟩
      case round =>
        obtain ⟨k, r, rfl, hr, hrs, hrl, hRk, hBk⟩ := hrel
        by_cases hqq : s < r
        · have k1 : (i : Int) < (k : Int) := by have := hr.out; have := hs.out; omega
          have k3 : (k : Int) < (n : Int) := by have := hr.out; have := hm.out; have := hrl.out; omega
          have k2 : (0 : Int) ≤ (k : Int) := by omega
          obtain ⟨q, rfl⟩ : ∃ q, r = q + 1 := ⟨r - 1, by omega⟩
          obtain ⟨p, hp⟩ : ∃ p, Hid (p + 1 = k) := ⟨k - 1, by show k - 1 + 1 = k; omega⟩
          have k4 : IntKind.i64.wrap ((k : Int) - 1) = (p : Int) := by rw [wrap_in (by omega) (by omega)]; have := hp.out; omega
          have k5 : (p : Int) < (n : Int) := by have := hp.out; omega
          have k6 : (0 : Int) ≤ (p : Int) := by omega
          obtain ⟨x, hx⟩ : ∃ x, Hid (L[q]? = some x) := ⟨L[q]'(by have := hrl.out; omega), List.getElem?_eq_getElem (by have := hrl.out; omega)⟩
          have hat := onL_behind A x y L B q p (by have := ha.out; have := hr.out; have := hp.out; omega) hx.out
          have hx' := hat.1
          have hy' := hat.2
          rw [hp.out] at hy'
          obtain ⟨gx1, gx2⟩ := hRk.out p x hx'
          obtain ⟨gy1, gy2⟩ := hRk.out k y hy'
          obtain ⟨x0, x1, x2, x3, x4, x5, x6, x7, ex⟩ := seven (E.size x)
          have gx1 : ∀ (r : Nat) u, (enc x)[r]? = some u → wr.cell? ⟨b, p * 8 + r, none⟩ = some u := fun r u hu => by have := gx1 r u (by simpa using hu); simpa using this
          have gx2 : ∀ (r : Nat), r < 8 → (wr.cell? ⟨b, p * 8 + r, none⟩).isSome = true ∧ wr.frozen? ⟨b, p * 8 + r, none⟩ = false := fun r hr => by have := gx2 r hr; simpa using this
          have xc0 : wr.cell? ⟨b, p * 8, none⟩ = some x0 := gx1 0 x0 (by rw [ex]; rfl)
          have xc1 : wr.cell? ⟨b, p * 8 + 1, none⟩ = some x1 := gx1 1 x1 (by rw [ex]; rfl)
          have xc2 : wr.cell? ⟨b, p * 8 + 2, none⟩ = some x2 := gx1 2 x2 (by rw [ex]; rfl)
          have xc3 : wr.cell? ⟨b, p * 8 + 3, none⟩ = some x3 := gx1 3 x3 (by rw [ex]; rfl)
          have xc4 : wr.cell? ⟨b, p * 8 + 4, none⟩ = some x4 := gx1 4 x4 (by rw [ex]; rfl)
          have xc5 : wr.cell? ⟨b, p * 8 + 5, none⟩ = some x5 := gx1 5 x5 (by rw [ex]; rfl)
          have xc6 : wr.cell? ⟨b, p * 8 + 6, none⟩ = some x6 := gx1 6 x6 (by rw [ex]; rfl)
          have xc7 : wr.cell? ⟨b, p * 8 + 7, none⟩ = some x7 := gx1 7 x7 (by rw [ex]; rfl)
          obtain ⟨y0, y1, y2, y3, y4, y5, y6, y7, ey⟩ := seven (E.size y)
          have gy1 : ∀ (r : Nat) u, (enc y)[r]? = some u → wr.cell? ⟨b, k * 8 + r, none⟩ = some u := fun r u hu => by have := gy1 r u (by simpa using hu); simpa using this
          have gy2 : ∀ (r : Nat), r < 8 → (wr.cell? ⟨b, k * 8 + r, none⟩).isSome = true ∧ wr.frozen? ⟨b, k * 8 + r, none⟩ = false := fun r hr => by have := gy2 r hr; simpa using this
          have yc0 : wr.cell? ⟨b, k * 8, none⟩ = some y0 := gy1 0 y0 (by rw [ey]; rfl)
          have yc1 : wr.cell? ⟨b, k * 8 + 1, none⟩ = some y1 := gy1 1 y1 (by rw [ey]; rfl)
          have yc2 : wr.cell? ⟨b, k * 8 + 2, none⟩ = some y2 := gy1 2 y2 (by rw [ey]; rfl)
          have yc3 : wr.cell? ⟨b, k * 8 + 3, none⟩ = some y3 := gy1 3 y3 (by rw [ey]; rfl)
          have yc4 : wr.cell? ⟨b, k * 8 + 4, none⟩ = some y4 := gy1 4 y4 (by rw [ey]; rfl)
          have yc5 : wr.cell? ⟨b, k * 8 + 5, none⟩ = some y5 := gy1 5 y5 (by rw [ey]; rfl)
          have yc6 : wr.cell? ⟨b, k * 8 + 6, none⟩ = some y6 := gy1 6 y6 (by rw [ey]; rfl)
          have yc7 : wr.cell? ⟨b, k * 8 + 7, none⟩ = some y7 := gy1 7 y7 (by rw [ey]; rfl)
          have ox : ∀ (r : Nat) u, (enc x)[r]? = some u → u.oneCell' = true := fun r u hu => Array.all_eq_true_iff_forall_mem.1 (E.one x) u (Array.mem_of_getElem? hu)
          have xf0 : wr.frozen? ⟨b, p * 8, none⟩ = false := (gx2 0 (by omega)).2
          have xo0 : x0.oneCell' = true := ox 0 x0 (by rw [ex]; rfl)
          have xf1 : wr.frozen? ⟨b, p * 8 + 1, none⟩ = false := (gx2 1 (by omega)).2
          have xo1 : x1.oneCell' = true := ox 1 x1 (by rw [ex]; rfl)
          have xf2 : wr.frozen? ⟨b, p * 8 + 2, none⟩ = false := (gx2 2 (by omega)).2
          have xo2 : x2.oneCell' = true := ox 2 x2 (by rw [ex]; rfl)
          have xf3 : wr.frozen? ⟨b, p * 8 + 3, none⟩ = false := (gx2 3 (by omega)).2
          have xo3 : x3.oneCell' = true := ox 3 x3 (by rw [ex]; rfl)
          have xf4 : wr.frozen? ⟨b, p * 8 + 4, none⟩ = false := (gx2 4 (by omega)).2
          have xo4 : x4.oneCell' = true := ox 4 x4 (by rw [ex]; rfl)
          have xf5 : wr.frozen? ⟨b, p * 8 + 5, none⟩ = false := (gx2 5 (by omega)).2
          have xo5 : x5.oneCell' = true := ox 5 x5 (by rw [ex]; rfl)
          have xf6 : wr.frozen? ⟨b, p * 8 + 6, none⟩ = false := (gx2 6 (by omega)).2
          have xf7 : wr.frozen? ⟨b, p * 8 + 7, none⟩ = false := (gx2 7 (by omega)).2
          have xo6 : x6.oneCell' = true := ox 6 x6 (by rw [ex]; rfl)
          have xo7 : x7.oneCell' = true := ox 7 x7 (by rw [ex]; rfl)
          have oy : ∀ (r : Nat) u, (enc y)[r]? = some u → u.oneCell' = true := fun r u hu => Array.all_eq_true_iff_forall_mem.1 (E.one y) u (Array.mem_of_getElem? hu)
          have yf0 : wr.frozen? ⟨b, k * 8, none⟩ = false := (gy2 0 (by omega)).2
          have yo0 : y0.oneCell' = true := oy 0 y0 (by rw [ey]; rfl)
          have yf1 : wr.frozen? ⟨b, k * 8 + 1, none⟩ = false := (gy2 1 (by omega)).2
          have yo1 : y1.oneCell' = true := oy 1 y1 (by rw [ey]; rfl)
          have yf2 : wr.frozen? ⟨b, k * 8 + 2, none⟩ = false := (gy2 2 (by omega)).2
          have yo2 : y2.oneCell' = true := oy 2 y2 (by rw [ey]; rfl)
          have yf3 : wr.frozen? ⟨b, k * 8 + 3, none⟩ = false := (gy2 3 (by omega)).2
          have yo3 : y3.oneCell' = true := oy 3 y3 (by rw [ey]; rfl)
          have yf4 : wr.frozen? ⟨b, k * 8 + 4, none⟩ = false := (gy2 4 (by omega)).2
          have yo4 : y4.oneCell' = true := oy 4 y4 (by rw [ey]; rfl)
          have yf5 : wr.frozen? ⟨b, k * 8 + 5, none⟩ = false := (gy2 5 (by omega)).2
          have yo5 : y5.oneCell' = true := oy 5 y5 (by rw [ey]; rfl)
          have yf6 : wr.frozen? ⟨b, k * 8 + 6, none⟩ = false := (gy2 6 (by omega)).2
          have yf7 : wr.frozen? ⟨b, k * 8 + 7, none⟩ = false := (gy2 7 (by omega)).2
          have yo6 : y6.oneCell' = true := oy 6 y6 (by rw [ey]; rfl)
          have yo7 : y7.oneCell' = true := oy 7 y7 (by rw [ey]; rfl)
          have hend : Hid (RowE enc ((wr.setCells b (k * 8) (enc x).toList).setCells b (p * 8) (enc y).toList).drew b (A ++ (onL y L q ++ B)) ∧ But b w ((wr.setCells b (k * 8) (enc x).toList).setCells b (p * 8) (enc y).toList).drew) := by
            have hlp := (List.getElem?_eq_some_iff.1 hx').1
            have hlk := (List.getElem?_eq_some_iff.1 hy').1
            refine ⟨?_, ((hBk.out.trans (setCells_but b _ _ _)).trans (setCells_but b _ _ _)).drew⟩
            have h2 := (hRk.out.set E hlk x).set E (j := p) (by simpa using hlp) y
            rw [show (A ++ (onL y L (q + 1) ++ B)).set k x = (A ++ (onL y L (q + 1) ++ B)).set (p + 1) x by rw [hp.out], onL_back A x y L B q p (by have := ha.out; have := hr.out; have := hp.out; omega) hx.out] at h2
            exact h2.drew
          have n1 : ∀ r s, r < 8 → s < 8 → (p * 8 + r = k * 8 + s) = False := fun r s h1 h2 => eq_false (by have := hp.out; omega)
          have n2 : ∀ s, s < 8 → (p * 8 = k * 8 + s) = False := fun s h2 => eq_false (by have := hp.out; omega)
          have n3 : ∀ r, r < 8 → (p * 8 + r = k * 8) = False := fun r h1 => eq_false (by have := hp.out; omega)
          have n4 : (p * 8 = k * 8) = False := eq_false (by have := hp.out; omega)
          have n5 : ∀ r s, r < 8 → s < 8 → (k * 8 + s = p * 8 + r) = False := fun r s h1 h2 => eq_false (by have := hp.out; omega)
          have n6 : ∀ s, s < 8 → (k * 8 + s = p * 8) = False := fun s h2 => eq_false (by have := hp.out; omega)
          have n7 : ∀ r, r < 8 → (k * 8 = p * 8 + r) = False := fun r h1 => eq_false (by have := hp.out; omega)
          have n8 : (k * 8 = p * 8) = False := eq_false (by have := hp.out; omega)
          rw [ex, ey] at hend
          clear hRk hBk gx1 gx2 gy1 gy2 ox oy hx' hy' hat
          have hst := run_st
          go_upto_region 23 with fail
          go_region
          all_goals
            obtain ⟨X, hX⟩ : ∃ X, Hid (((((((((((((((((wr.setCell ⟨b, k * 8, none⟩ x0).setCell ⟨b, k * 8 + 1, none⟩ x1).setCell ⟨b, k * 8 + 2, none⟩ x2).setCell ⟨b, k * 8 + 3, none⟩ x3).setCell ⟨b, k * 8 + 4, none⟩ x4).setCell ⟨b, k * 8 + 5, none⟩ x5).setCell ⟨b, k * 8 + 6, none⟩ x6).setCell ⟨b, k * 8 + 7, none⟩ x7).setCell ⟨b, p * 8, none⟩ y0).setCell ⟨b, p * 8 + 1, none⟩ y1).setCell ⟨b, p * 8 + 2, none⟩ y2).setCell ⟨b, p * 8 + 3, none⟩ y3).setCell ⟨b, p * 8 + 4, none⟩ y4).setCell ⟨b, p * 8 + 5, none⟩ y5).setCell ⟨b, p * 8 + 6, none⟩ y6).setCell ⟨b, p * 8 + 7, none⟩ y7).drew = X) := ⟨_, rfl⟩
            have hfi : Hid (RowE enc X b (A ++ (onL y L q ++ B)) ∧ But b w X) := by rw [← hX.out]; exact hend.out
            rw [hX.out]
            clear hend hst n1 n2 n3 n4 n5 n6 n7 n8 xc0 xc1 xc2 xc3 xc4 xc5 xc6 xc7 xf0 xf1 xf2 xf3 xf4 xf5 xf6 xf7 xo0 xo1 xo2 xo3 xo4 xo5 xo6 xo7 yc0 yc1 yc2 yc3 yc4 yc5 yc6 yc7 yf0 yf1 yf2 yf3 yf4 yf5 yf6 yf7 yo0 yo1 yo2 yo3 yo4 yo5 yo6 yo7
            go_wp2_with fail
            exact ⟨⟨p, q, by first | rfl | (rw [k4]) | (have := hp.out; go_num), (by have := hp.out; have := hr.out; omega : a + q = p), (by omega : s ≤ q), (by have := hrl.out; omega : q ≤ L.length), hfi.out.1, hfi.out.2⟩, by have := hp.out; simp [intOf]; omega⟩
        · obtain rfl : r = s := by have := hrs.out; omega
          have k1 : ¬ (i : Int) < (k : Int) := by have := hr.out; have := hs.out; omega
          rw [← hcut.out] at hRk
          go_wp2_with fail
          refine bodyPost_ret (results_none rfl _ _ _) rfl ?_
          exact ⟨rfl, hRk.out, hBk.out⟩
end
end Go.Proofs.YthafhemlnninbaaGreat.Sorted
