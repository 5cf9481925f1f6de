import Derived.Test.YthafhemlnninbaaGreatSX
/-! Stable sorting over memory: merging in general. -/
namespace Go.Proofs.YthafhemlnninbaaGreat.Sorted
open Go Go.RowKit Go.Stab
section
variable {α : Type} {enc : α → Array Value} {rv : Value}
set_option maxRecDepth 100000 in
set_option maxHeartbeats 8000000 in
theorem sym_step (E : Enc enc) {lt : α → α → Bool} (O : Swo lt) {b : Nat} {w0 : World} (cn : α → α → Int) (hlt : ∀ x y, lt x y = decide (cn x y < 0)) (hcmp : ∀ x y W, But b w0 W → Calls Tryz.prog 38 #[rv, .agg (enc x), .agg (enc y)] W fun e w' => e = .returned (.int .i64 (cn x y)) ∧ Below W.heap.size W w')
    (A L R B : List α) (n cap a m c : Nat) (w : World) (hw0 : But b w0 w) (ih : ∀ s, s < L.length + R.length → SymOk rv enc lt w0 b n cap s) (hR : RowE enc w b (A ++ (L ++ (R ++ B)))) (hul : Up lt L) (hur : Up lt R) (hL : 1 < L.length) (hRr : 1 < R.length) (ha : A.length = a) (hm : a + L.length = m) (hc : m + R.length = c) (hn : c + B.length = n) (hnn : n ≤ 4611686018427387904) :
    Calls Tryz.prog 93 #[.slice (some ⟨b, 0, none⟩) n cap, .int .i64 a, .int .i64 m, .int .i64 c, .func (.func 38) #[rv] #[]] w fun e w' => e = .returned (.tuple #[]) ∧ RowE enc w' b (A ++ (mergeL lt L R ++ B)) ∧ But b w w' := by
  replace hlt := hid_of hlt
  replace hcmp := hid_of hcmp
  replace hw0 := hid_of hw0
  replace hR := hid_of hR
  replace ih := hid_of ih
  obtain ⟨H, hH⟩ : ∃ H, Hid (H = (L.length + R.length) / 2) := ⟨_, rfl⟩
  obtain ⟨md, hmd⟩ : ∃ md, Hid (a + H = md) := ⟨_, rfl⟩
  obtain ⟨N, hN⟩ : ∃ N, Hid (md + m = N) := ⟨_, rfl⟩
  obtain ⟨P, hP⟩ : ∃ P, Hid (P + 1 = N) := ⟨N - 1, by show N - 1 + 1 = N; have := hN.out; omega⟩
  have emd : Hid (((a : Int) + (c : Int)) / 2 = (md : Int)) := by show ((a : Int) + (c : Int)) / 2 = (md : Int); have := hH.out; have := hmd.out; omega
  have eN : Hid ((md : Int) + (m : Int) = (N : Int)) := by show (md : Int) + (m : Int) = (N : Int); have := hN.out; omega
  have eP : Hid ((N : Int) - 1 = (P : Int)) := by show (N : Int) - 1 = (P : Int); have := hP.out; omega
  have f1 : ¬ (m : Int) - (a : Int) = 1 := by omega
  have f0 : ¬ (c : Int) - (m : Int) = 1 := by omega
  have f2 : (m : Int) < (c : Int) := by omega
  have f3 : (c : Int) ≤ (n : Int) := by omega
  have f4 : (n : Int) ≤ 4611686018427387904 := by omega
  have f5 : (0 : Int) ≤ (a : Int) := by omega
  have f7 : (c : Int) ≤ 4611686018427387904 := by omega
  have f8 : (a : Int) < (m : Int) := by omega
  have f9 : (md : Int) < (c : Int) := by have := hH.out; have := hmd.out; omega
  have f10 : (a : Int) < (md : Int) := by have := hH.out; have := hmd.out; omega
  have f11 : (N : Int) ≤ 9223372036854775807 := by have := hN.out; omega
  have f12 : (1 : Int) ≤ (N : Int) := by have := hN.out; omega
  replace ha := hid_of ha
  replace hm := hid_of hm
  replace hc := hid_of hc
  replace hn := hid_of hn
  replace hL := hid_of hL
  replace hRr := hid_of hRr
  go_enter Tryz.func93, Tryz.ntmps93
  go_upto_region 25 with fail
  rw [emd.out]
  go_upto_region 26 with fail
  rw [eN.out]
  by_cases hcase : md < m
  · have g1 : (md : Int) < (m : Int) := by omega
    obtain ⟨S0, hS0⟩ : ∃ S0, Hid (a + (H - R.length) = S0) := ⟨_, rfl⟩
    have eS : Hid ((N : Int) - (c : Int) = (S0 : Int)) := by show (N : Int) - (c : Int) = (S0 : Int); have := hS0.out; have := hN.out; have := hH.out; have := hmd.out; have := hm.out; have := hc.out; omega
    have g2 : (c : Int) ≤ (N : Int) := by have := hN.out; have := hH.out; have := hmd.out; have := hm.out; have := hc.out; omega
    have hk0 : Hid (Cut lt L R H (H - R.length) H) := Cut.far (by have := hmd.out; have := hm.out; omega) (by have := hH.out; have := hmd.out; have := hm.out; omega)
    have hs0 : Hid (a + H = md) := hmd
    go_upto_region 32 with fail
    rw [eS.out]
    go_wp2_with fail
    rw [eP.out]
    go_loopw [20, 21] (fun iv jv wr => ∃ i j s t : Nat, iv = .int .i64 i ∧ jv = .int .i64 j ∧ Hid (a + s = i) ∧ Hid (a + t = j) ∧ Hid (Cut lt L R H s t) ∧ Hid (Below w.heap.size w wr)) (fun iv jv _ => (intOf jv).toNat - (intOf iv).toNat)
    case atStart => exact ⟨S0, md, H - R.length, H, rfl, rfl, hS0, hs0, hk0, Below.refl _ _⟩
    case round =>
      clear hk0
      obtain ⟨i, j, s, t, rfl, rfl, hs, ht, hk, hb⟩ := hrel
      by_cases hij : i < j
      · have i1 : (i : Int) < (j : Int) := by omega
        have i2 : (j : Int) ≤ (m : Int) := by have := hk.out.tl; have := ht.out; have := hm.out; omega
        have i3 : (0 : Int) ≤ (i : Int) := by omega
        have i4 : (i : Int) + (j : Int) ≤ 9223372036854775807 := by omega
        obtain ⟨h, hh⟩ : ∃ h : Nat, Hid (h = (i + j) / 2) := ⟨_, rfl⟩
        have eh : Hid (((i : Int) + (j : Int)) / 2 = (h : Int)) := by show ((i : Int) + (j : Int)) / 2 = (h : Int); have := hh.out; omega
        have b1 : i ≤ h := by have := hh.out; omega
        have b2 : h < j := by have := hh.out; omega
        have b3 : (h : Int) < (n : Int) := by omega
        have b4 : (0 : Int) ≤ (h : Int) := by omega
        have b5 : h - a < L.length := by have := hk.out.tl; have := ht.out; have := hs.out; omega
        have b6 : H - 1 - (h - a) < R.length := by have := hk.out.sr; have := hk.out.tH; have := ht.out; have := hs.out; omega
        obtain ⟨z, hz⟩ : ∃ z, Hid (m + (H - 1 - (h - a)) = z) := ⟨_, rfl⟩
        have ez : IntKind.i64.wrap ((P : Int) - (h : Int)) = (z : Int) := by have := hz.out; have := hP.out; have := hN.out; have := hmd.out; have := hk.out.tH; have := ht.out; have := hs.out; rw [wrap_in (by omega) (by omega)]; omega
        have b7 : (z : Int) < (n : Int) := by have := hz.out; have := hc.out; omega
        have b8 : (0 : Int) ≤ (z : Int) := by omega
        obtain ⟨x, hx⟩ : ∃ x, Hid (L[h - a]? = some x) := ⟨L[h - a], List.getElem?_eq_getElem b5⟩
        obtain ⟨y, hy⟩ : ∃ y, Hid (R[H - 1 - (h - a)]? = some y) := ⟨R[H - 1 - (h - a)], List.getElem?_eq_getElem b6⟩
        have hx' : (A ++ (L ++ (R ++ B)))[h]? = some x := by
          rw [List.getElem?_append_right (by have := ha.out; have := hs.out; omega), show h - A.length = h - a by rw [ha.out], List.getElem?_append_left b5]
          exact hx.out
        have hy' : (A ++ (L ++ (R ++ B)))[z]? = some y := by
          rw [List.getElem?_append_right (by have := ha.out; have := hz.out; have := hm.out; omega), List.getElem?_append_right (by have := ha.out; have := hz.out; have := hm.out; omega), show z - A.length - L.length = H - 1 - (h - a) by have := ha.out; have := hz.out; have := hm.out; omega, List.getElem?_append_left b6]
          exact hy.out
        obtain ⟨gx1, gx2⟩ := (hR.out.below hb.out) h x hx'
        obtain ⟨gy1, gy2⟩ := (hR.out.below hb.out) z y hy'
        obtain ⟨x0, x1, x2, x3, x4, x5, x6, x7, ex⟩ := seven (E.size x)
        have gx1 : ∀ (r : Nat) u, (enc x)[r]? = some u → wr.cell? ⟨b, h * 8 + r, none⟩ = some u := fun r u hu => by have := gx1 r u (by simpa using hu); simpa using this
        have gx2 : ∀ (r : Nat), r < 8 → (wr.cell? ⟨b, h * 8 + r, none⟩).isSome = true ∧ wr.frozen? ⟨b, h * 8 + r, none⟩ = false := fun r hr => by have := gx2 r hr; simpa using this
        have xc0 : wr.cell? ⟨b, h * 8, none⟩ = some x0 := gx1 0 x0 (by rw [ex]; rfl)
        have xc1 : wr.cell? ⟨b, h * 8 + 1, none⟩ = some x1 := gx1 1 x1 (by rw [ex]; rfl)
        have xc2 : wr.cell? ⟨b, h * 8 + 2, none⟩ = some x2 := gx1 2 x2 (by rw [ex]; rfl)
        have xc3 : wr.cell? ⟨b, h * 8 + 3, none⟩ = some x3 := gx1 3 x3 (by rw [ex]; rfl)
        have xc4 : wr.cell? ⟨b, h * 8 + 4, none⟩ = some x4 := gx1 4 x4 (by rw [ex]; rfl)
        have xc5 : wr.cell? ⟨b, h * 8 + 5, none⟩ = some x5 := gx1 5 x5 (by rw [ex]; rfl)
        have xc6 : wr.cell? ⟨b, h * 8 + 6, none⟩ = some x6 := gx1 6 x6 (by rw [ex]; rfl)
        have xc7 : wr.cell? ⟨b, h * 8 + 7, none⟩ = some x7 := gx1 7 x7 (by rw [ex]; rfl)
        obtain ⟨y0, y1, y2, y3, y4, y5, y6, y7, ey⟩ := seven (E.size y)
        have gy1 : ∀ (r : Nat) u, (enc y)[r]? = some u → wr.cell? ⟨b, z * 8 + r, none⟩ = some u := fun r u hu => by have := gy1 r u (by simpa using hu); simpa using this
        have gy2 : ∀ (r : Nat), r < 8 → (wr.cell? ⟨b, z * 8 + r, none⟩).isSome = true ∧ wr.frozen? ⟨b, z * 8 + r, none⟩ = false := fun r hr => by have := gy2 r hr; simpa using this
        have yc0 : wr.cell? ⟨b, z * 8, none⟩ = some y0 := gy1 0 y0 (by rw [ey]; rfl)
        have yc1 : wr.cell? ⟨b, z * 8 + 1, none⟩ = some y1 := gy1 1 y1 (by rw [ey]; rfl)
        have yc2 : wr.cell? ⟨b, z * 8 + 2, none⟩ = some y2 := gy1 2 y2 (by rw [ey]; rfl)
        have yc3 : wr.cell? ⟨b, z * 8 + 3, none⟩ = some y3 := gy1 3 y3 (by rw [ey]; rfl)
        have yc4 : wr.cell? ⟨b, z * 8 + 4, none⟩ = some y4 := gy1 4 y4 (by rw [ey]; rfl)
        have yc5 : wr.cell? ⟨b, z * 8 + 5, none⟩ = some y5 := gy1 5 y5 (by rw [ey]; rfl)
        have yc6 : wr.cell? ⟨b, z * 8 + 6, none⟩ = some y6 := gy1 6 y6 (by rw [ey]; rfl)
        have yc7 : wr.cell? ⟨b, z * 8 + 7, none⟩ = some y7 := gy1 7 y7 (by rw [ey]; rfl)
        have hwB := hid_of (hw0.out.trans (But.of_below hb.out))
        have hcx := hid_of (hcmp.out y x)
        rw [ex, ey] at hcx
        replace b1 := hid_of b1
        replace b2 := hid_of b2
        clear gx1 gx2 gy1 gy2 hx' hy' b5 b6
        go_upto_region 35 with fail
        rw [eh.out]
        refine wp_region_quiet (C := fun w' => Below wr.heap.size wr w') (by kernel_rfl) (by kernel_rfl) (below_drewN (Below.refl _ _) 1) ?_
        with_reducible refine wpQuiet_step (fun K hK => ?_)
        try refine k_quiet_if (by kernel_rfl) ?_
        refine ⟨.func (.func 38) #[rv] #[], fun w' _ => ?_, ?_⟩
        · first | (go_simp; done) | (go_simp; decide)
        with_reducible refine hK _ ?_
        clear hK K
        simp only [Act.put, List.setIfInBounds_toArray, List.set_cons_zero, List.set_cons_succ]
        with_reducible refine wpQuiet_step (fun K hK => ?_)
        try refine k_quiet_if (by kernel_rfl) ?_
        refine ⟨.slice (some ⟨b, 0, none⟩) n cap, fun w' _ => ?_, ?_⟩
        · first | (go_simp; done) | (go_simp; decide)
        with_reducible refine hK _ ?_
        clear hK K
        simp only [Act.put, List.setIfInBounds_toArray, List.set_cons_zero, List.set_cons_succ]
        with_reducible refine wpQuiet_step (fun K hK => ?_)
        try refine k_quiet_if (by kernel_rfl) ?_
        refine ⟨.int .i64 P, fun w' _ => ?_, ?_⟩
        · first | (go_simp; done) | (go_simp; decide)
        with_reducible refine hK _ ?_
        clear hK K
        simp only [Act.put, List.setIfInBounds_toArray, List.set_cons_zero, List.set_cons_succ]
        with_reducible refine wpQuiet_step (fun K hK => ?_)
        try refine k_quiet_if (by kernel_rfl) ?_
        refine ⟨.int .i64 h, fun w' _ => ?_, ?_⟩
        · first | (go_simp; done) | (go_simp; decide)
        with_reducible refine hK _ ?_
        clear hK K
        simp only [Act.put, List.setIfInBounds_toArray, List.set_cons_zero, List.set_cons_succ]
        with_reducible refine wpQuiet_step (fun K hK => ?_)
        try refine k_quiet_if (by kernel_rfl) ?_
        refine ⟨.int .i64 z, fun w' _ => ?_, ?_⟩
        · first | (go_simp; done) | (go_simp; decide)
        with_reducible refine hK _ ?_
        clear hK K
        simp only [Act.put, List.setIfInBounds_toArray, List.set_cons_zero, List.set_cons_succ]
        with_reducible refine wpQuiet_step (fun K hK => ?_)
        try refine k_quiet_if (by kernel_rfl) ?_
        refine ⟨.pointer (some ⟨b, z * 8, none⟩), fun w' _ => ?_, ?_⟩
        · first | (go_simp; done) | (go_simp; decide)
        with_reducible refine hK _ ?_
        clear hK K
        simp only [Act.put, List.setIfInBounds_toArray, List.set_cons_zero, List.set_cons_succ]
        with_reducible refine wpQuiet_step (fun K hK => ?_)
        try refine k_quiet_if (by kernel_rfl) ?_
        refine ⟨.agg #[y0, y1, y2, y3, y4, y5, y6, y7], fun w' hw' => ?_, ?_⟩
        · have t0 := stay hw' yc0
          have t1 := stay hw' yc1
          have t2 := stay hw' yc2
          have t3 := stay hw' yc3
          have t4 := stay hw' yc4
          have t5 := stay hw' yc5
          have t6 := stay hw' yc6
          have t7 := stay hw' yc7
          go_simp
        with_reducible refine hK _ ?_
        clear hK K
        simp only [Act.put, List.setIfInBounds_toArray, List.set_cons_zero, List.set_cons_succ]
        with_reducible refine wpQuiet_step (fun K hK => ?_)
        try refine k_quiet_if (by kernel_rfl) ?_
        refine ⟨.slice (some ⟨b, 0, none⟩) n cap, fun w' _ => ?_, ?_⟩
        · first | (go_simp; done) | (go_simp; decide)
        with_reducible refine hK _ ?_
        clear hK K
        simp only [Act.put, List.setIfInBounds_toArray, List.set_cons_zero, List.set_cons_succ]
        with_reducible refine wpQuiet_step (fun K hK => ?_)
        try refine k_quiet_if (by kernel_rfl) ?_
        refine ⟨.int .i64 h, fun w' _ => ?_, ?_⟩
        · first | (go_simp; done) | (go_simp; decide)
        with_reducible refine hK _ ?_
        clear hK K
        simp only [Act.put, List.setIfInBounds_toArray, List.set_cons_zero, List.set_cons_succ]
        with_reducible refine wpQuiet_step (fun K hK => ?_)
        try refine k_quiet_if (by kernel_rfl) ?_
        refine ⟨.pointer (some ⟨b, h * 8, none⟩), fun w' _ => ?_, ?_⟩
        · first | (go_simp; done) | (go_simp; decide)
        with_reducible refine hK _ ?_
        clear hK K
        simp only [Act.put, List.setIfInBounds_toArray, List.set_cons_zero, List.set_cons_succ]
        with_reducible refine wpQuiet_step (fun K hK => ?_)
        try refine k_quiet_if (by kernel_rfl) ?_
        refine ⟨.agg #[x0, x1, x2, x3, x4, x5, x6, x7], fun w' hw' => ?_, ?_⟩
        · have t0 := stay hw' xc0
          have t1 := stay hw' xc1
          have t2 := stay hw' xc2
          have t3 := stay hw' xc3
          have t4 := stay hw' xc4
          have t5 := stay hw' xc5
          have t6 := stay hw' xc6
          have t7 := stay hw' xc7
          go_simp
        with_reducible refine hK _ ?_
        clear hK K
        simp only [Act.put, List.setIfInBounds_toArray, List.set_cons_zero, List.set_cons_succ]
        with_reducible refine wpQuiet_step (fun K hK => ?_)
        try refine k_quiet_if (by kernel_rfl) ?_
        refine ⟨.int .i64 (cn y x), fun w' hw' => ?_, ?_⟩
        · go_simp
          refine (hcx.out w' (hwB.out.trans (But.of_below hw'))).mono ?_
          rintro e w'' ⟨rfl, hb⟩
          exact ⟨rfl, hw'.trans (hb.mono hw'.size)⟩
        with_reducible refine hK _ ?_
        clear hK K
        simp only [Act.put, List.setIfInBounds_toArray, List.set_cons_zero, List.set_cons_succ]
        by_cases hcz : cn y x < 0
        · have hly := hid_of (show lt y x = true by rw [hlt.out]; exact decide_eq_true hcz)
          with_reducible refine wpQuiet_step (fun K hK => ?_)
          try refine k_quiet_if (by kernel_rfl) ?_
          refine ⟨.bool true, fun w' _ => ?_, ?_⟩
          · first | (go_simp; done) | (go_simp; decide)
          with_reducible refine hK _ ?_
          clear hK K
          simp only [Act.put, List.setIfInBounds_toArray, List.set_cons_zero, List.set_cons_succ]
          with_reducible refine wpQuiet_step (fun K hK => ?_)
          try refine k_quiet_if (by kernel_rfl) ?_
          refine ⟨.bool false, fun w' _ => ?_, ?_⟩
          · first | (go_simp; done) | (go_simp; decide)
          with_reducible refine hK _ ?_
          clear hK K
          simp only [Act.put, List.setIfInBounds_toArray, List.set_cons_zero, List.set_cons_succ]
          refine wpQuiet_nil ?_
          intro X1 hX1
          have hb' := hid_of (hb.out.trans (hX1.mono hb.out.size))
          clear hcx hX1 hb xc0 xc1 xc2 xc3 xc4 xc5 xc6 xc7 yc0 yc1 yc2 yc3 yc4 yc5 yc6 yc7
          go_wp2_with fail
          exact ⟨⟨i, h, s, h - a, rfl, rfl, hs, (by have := b1.out; have := hs.out; omega : a + (h - a) = h), hk.out.down (by have := b1.out; have := hs.out; omega) (by have := b2.out; have := ht.out; have := b1.out; have := hs.out; omega) hx.out hy.out hly.out, hb'⟩, by have := b1.out; have := b2.out; simp [intOf]; omega⟩
        · have hly := hid_of (show lt y x = false by rw [hlt.out]; exact decide_eq_false hcz)
          with_reducible refine wpQuiet_step (fun K hK => ?_)
          try refine k_quiet_if (by kernel_rfl) ?_
          refine ⟨.bool false, fun w' _ => ?_, ?_⟩
          · first | (go_simp; done) | (go_simp; decide)
          with_reducible refine hK _ ?_
          clear hK K
          simp only [Act.put, List.setIfInBounds_toArray, List.set_cons_zero, List.set_cons_succ]
          with_reducible refine wpQuiet_step (fun K hK => ?_)
          try refine k_quiet_if (by kernel_rfl) ?_
          refine ⟨.bool true, fun w' _ => ?_, ?_⟩
          · first | (go_simp; done) | (go_simp; decide)
          with_reducible refine hK _ ?_
          clear hK K
          simp only [Act.put, List.setIfInBounds_toArray, List.set_cons_zero, List.set_cons_succ]
          refine wpQuiet_nil ?_
          intro X1 hX1
          have hb' := hid_of (hb.out.trans (hX1.mono hb.out.size))
          clear hcx hX1 hb xc0 xc1 xc2 xc3 xc4 xc5 xc6 xc7 yc0 yc1 yc2 yc3 yc4 yc5 yc6 yc7
          go_wp2_with fail
          exact ⟨⟨h + 1, j, h + 1 - a, t, by go_num, rfl, (by have := b1.out; have := hs.out; omega : a + (h + 1 - a) = h + 1), ht, by rw [show h + 1 - a = h - a + 1 by have := b1.out; have := hs.out; omega]; exact hk.out.up (by have := b1.out; have := hs.out; omega) (by have := b2.out; have := ht.out; have := b1.out; have := hs.out; omega) hx.out hy.out hly.out, hb'⟩, by have := b1.out; have := b2.out; simp [intOf]; omega⟩
      · have i1 : ¬ (i : Int) < (j : Int) := by omega
        have i0 : (0 : Int) ≤ (i : Int) := by omega
        have hst' : s = t := by have := hs.out; have := ht.out; have := hk.out.le; omega
        subst hst'
        obtain ⟨Q, hQ⟩ : ∃ Q, Hid (H - s = Q) := ⟨_, rfl⟩
        obtain ⟨en, hen⟩ : ∃ en, Hid (m + Q = en) := ⟨_, rfl⟩
        have hsH := hk.out.tH
        have hsl := hk.out.tl
        have hsr := hk.out.sr
        have hHH := hH.out
        have hLL := hL.out
        have hRR := hRr.out
        have hmm := hm.out
        have hcc := hc.out
        have hnn' := hn.out
        have hQQ := hQ.out
        have hss := hs.out
        have hdd := hmd.out
        have hee := hen.out
        have hNN := hN.out
        have haa := ha.out
        have een : Hid ((N : Int) - (i : Int) = (en : Int)) := by show (N : Int) - (i : Int) = (en : Int); omega
        have g3 : (i : Int) ≤ (N : Int) := by omega
        have hmg : Hid (mergeL lt L R = mergeL lt (L.take s) (R.take Q) ++ mergeL lt (L.drop s) (R.drop Q)) := by rw [← hQ.out]; exact hk.out.done O hul hur
        have l1 : (L.take s).length = s := by rw [List.length_take]; omega
        have l2 : (L.drop s).length = L.length - s := by rw [List.length_drop]
        have l3 : (R.take Q).length = Q := by rw [List.length_take]; omega
        have l4 : (R.drop Q).length = R.length - Q := by rw [List.length_drop]
        have u1 := Up.take hul s
        have u2 := Up.drop hul s
        have u3 := Up.take hur Q
        have u4 := Up.drop hur Q
        have row0 : Hid (RowE enc wr b (A ++ (L.take s ++ (L.drop s ++ (R.take Q ++ (R.drop Q ++ B)))))) := by
          rw [← List.append_assoc (L.take s), List.take_append_drop, ← List.append_assoc (R.take Q), List.take_append_drop]
          exact hR.out.below hb.out
        have but0 : Hid (But b w wr) := But.of_below hb.out
        clear hR hk hb hlt hcmp
        obtain ⟨L1, eL1⟩ : ∃ L1, L.take s = L1 := ⟨_, rfl⟩
        obtain ⟨L2, eL2⟩ : ∃ L2, L.drop s = L2 := ⟨_, rfl⟩
        obtain ⟨R1, eR1⟩ : ∃ R1, R.take Q = R1 := ⟨_, rfl⟩
        obtain ⟨R2, eR2⟩ : ∃ R2, R.drop Q = R2 := ⟨_, rfl⟩
        rw [eL1] at l1 u1 row0 hmg
        rw [eL2] at l2 u2 row0 hmg
        rw [eR1] at l3 u3 row0 hmg
        rw [eR2] at l4 u4 row0 hmg
        clear eL1 eL2 eR1 eR2
        have fin : Hid (s = 0 ∧ 0 < Q ∧ Q < R.length ∨ s = 0 ∧ Q = R.length ∨ s = L.length ∧ Q = 0 ∨ s = L.length ∧ 0 < Q ∧ Q < R.length ∨ 0 < s ∧ s < L.length ∧ Q = 0 ∨ 0 < s ∧ s < L.length ∧ 0 < Q ∧ Q < R.length ∨ 0 < s ∧ s < L.length ∧ Q = R.length) := by
          show _ ∨ _
          omega
        rcases fin.out with hx | hx | hx | hx | hx | hx | hx
        · have hx := hx
          have v1 : (i : Int) < (m : Int) := by omega
          have v2 : (m : Int) < (en : Int) := by omega
          have v3 : ¬ (a : Int) < (i : Int) := by omega
          have v4 : (i : Int) < (md : Int) := by omega
          have v5 : (md : Int) < (en : Int) := by omega
          have v6 : (en : Int) < (c : Int) := by omega
          have call1 := hid_of (rotate_any E (A ++ L1) L2 R1 (R2 ++ B) b n cap i m en (.func (.func 38) #[rv] #[]) wr (by simpa [List.append_assoc] using row0.out) (by simp; omega) (by simp; omega) (by omega) (by simp; omega) (by omega) (by omega) hnn)
          rw [show (A ++ L1) ++ (R1 ++ (L2 ++ (R2 ++ B))) = A ++ (L1 ++ (R1 ++ (L2 ++ (R2 ++ B)))) from List.append_assoc _ _ _] at call1
          have keep2 := hid_of (fun W (hW : RowE enc W b (A ++ (L1 ++ (R1 ++ (L2 ++ (R2 ++ B)))))) => show RowE enc W b (A ++ (mergeL lt L1 R1 ++ (L2 ++ (R2 ++ B)))) by have e : L1 = [] := List.eq_nil_of_length_eq_zero (by omega); rw [e] at hW ⊢; rw [nil_mergeL]; exact hW)
          have call3 := hid_of (fun W (hB : But b w0 W) (hW : RowE enc W b (A ++ (mergeL lt L1 R1 ++ (L2 ++ (R2 ++ B))))) => ih.out (L.length - s + (R.length - Q)) (by omega) (A ++ mergeL lt L1 R1) L2 R2 B md en c W hB (by simpa [List.append_assoc] using hW) u2 u4 (by omega) (by omega) (by omega) (by rw [List.length_append, mergeL_length]; omega) (by omega) (by omega) (by omega))
          clear hsH hsl hsr hHH hLL hRR hmm hcc hnn' hQQ hss hdd hee hNN haa hx l1 l2 l3 l4 u1 u2 u3 u4 fin row0
          go_upto_region 39 with fail
          rw [een.out]
          go_wp2_with fail
          refine call1.out.mono ?_
          rintro e X1 ⟨rfl, row1, b1⟩
          replace row1 := hid_of row1
          have but1 := hid_of (but0.out.trans b1)
          clear b1 but0 call1
          go_wp2_with fail
          refine (call3.out X1 (hw0.out.trans but1.out) (keep2.out X1 row1.out)).mono ?_
          rintro e X3 ⟨rfl, row3, b1⟩
          rw [List.append_assoc, ← List.append_assoc (mergeL lt L1 R1), ← hmg.out] at row3
          replace row3 := hid_of row3
          have but3 := hid_of (but1.out.trans b1)
          clear b1 call3
          go_wp2_with fail
          exact bodyPost_end (results_none rfl _ _ _) rfl ⟨rfl, row3.out, but3.out⟩
        · have hx := hx
          have v1 : (i : Int) < (m : Int) := by omega
          have v2 : (m : Int) < (en : Int) := by omega
          have v3 : ¬ (a : Int) < (i : Int) := by omega
          have v4 : (i : Int) < (md : Int) := by omega
          have v5 : (md : Int) < (en : Int) := by omega
          have v6 : ¬ (en : Int) < (c : Int) := by omega
          have call1 := hid_of (rotate_any E (A ++ L1) L2 R1 (R2 ++ B) b n cap i m en (.func (.func 38) #[rv] #[]) wr (by simpa [List.append_assoc] using row0.out) (by simp; omega) (by simp; omega) (by omega) (by simp; omega) (by omega) (by omega) hnn)
          rw [show (A ++ L1) ++ (R1 ++ (L2 ++ (R2 ++ B))) = A ++ (L1 ++ (R1 ++ (L2 ++ (R2 ++ B)))) from List.append_assoc _ _ _] at call1
          have keep2 := hid_of (fun W (hW : RowE enc W b (A ++ (L1 ++ (R1 ++ (L2 ++ (R2 ++ B)))))) => show RowE enc W b (A ++ (mergeL lt L1 R1 ++ (L2 ++ (R2 ++ B)))) by have e : L1 = [] := List.eq_nil_of_length_eq_zero (by omega); rw [e] at hW ⊢; rw [nil_mergeL]; exact hW)
          have keep3 := hid_of (fun W (hW : RowE enc W b (A ++ (mergeL lt L1 R1 ++ (L2 ++ (R2 ++ B))))) => show RowE enc W b (A ++ (mergeL lt L R ++ B)) by have e : R2 = [] := List.eq_nil_of_length_eq_zero (by omega); rw [hmg.out]; rw [e] at hW ⊢; rw [mergeL_nil]; simpa [List.append_assoc] using hW)
          clear hsH hsl hsr hHH hLL hRR hmm hcc hnn' hQQ hss hdd hee hNN haa hx l1 l2 l3 l4 u1 u2 u3 u4 fin row0
          go_upto_region 39 with fail
          rw [een.out]
          go_wp2_with fail
          refine call1.out.mono ?_
          rintro e X1 ⟨rfl, row1, b1⟩
          replace row1 := hid_of row1
          have but1 := hid_of (but0.out.trans b1)
          clear b1 but0 call1
          go_wp2_with fail
          exact bodyPost_end (results_none rfl _ _ _) rfl ⟨rfl, (keep3.out X1 (keep2.out X1 row1.out)), but1.out⟩
        · exfalso; omega
        · exfalso; omega
        · have hx := hx
          have v1 : (i : Int) < (m : Int) := by omega
          have v2 : ¬ (m : Int) < (en : Int) := by omega
          have v3 : (a : Int) < (i : Int) := by omega
          have v4 : ¬ (i : Int) < (md : Int) := by omega
          have v5 : (md : Int) < (en : Int) := by omega
          have v6 : (en : Int) < (c : Int) := by omega
          have nil : R1 = [] := List.eq_nil_of_length_eq_zero (by omega)
          have row1 : Hid (RowE enc wr b (A ++ (L1 ++ (R1 ++ (L2 ++ (R2 ++ B)))))) := by have h := row0.out; rw [nil] at h ⊢; exact h
          clear nil
          have keep2 := hid_of (fun W (hW : RowE enc W b (A ++ (L1 ++ (R1 ++ (L2 ++ (R2 ++ B)))))) => show RowE enc W b (A ++ (mergeL lt L1 R1 ++ (L2 ++ (R2 ++ B)))) by have e : R1 = [] := List.eq_nil_of_length_eq_zero (by omega); rw [e] at hW ⊢; rw [mergeL_nil]; exact hW)
          have call3 := hid_of (fun W (hB : But b w0 W) (hW : RowE enc W b (A ++ (mergeL lt L1 R1 ++ (L2 ++ (R2 ++ B))))) => ih.out (L.length - s + (R.length - Q)) (by omega) (A ++ mergeL lt L1 R1) L2 R2 B md en c W hB (by simpa [List.append_assoc] using hW) u2 u4 (by omega) (by omega) (by omega) (by rw [List.length_append, mergeL_length]; omega) (by omega) (by omega) (by omega))
          clear hsH hsl hsr hHH hLL hRR hmm hcc hnn' hQQ hss hdd hee hNN haa hx l1 l2 l3 l4 u1 u2 u3 u4 fin row0
          go_upto_region 39 with fail
          rw [een.out]
          go_wp2_with fail
          refine (call3.out wr (hw0.out.trans but0.out) (keep2.out wr row1.out)).mono ?_
          rintro e X3 ⟨rfl, row3, b1⟩
          rw [List.append_assoc, ← List.append_assoc (mergeL lt L1 R1), ← hmg.out] at row3
          replace row3 := hid_of row3
          have but3 := hid_of (but0.out.trans b1)
          clear b1 call3
          go_wp2_with fail
          exact bodyPost_end (results_none rfl _ _ _) rfl ⟨rfl, row3.out, but3.out⟩
        · have hx := hx
          have v1 : (i : Int) < (m : Int) := by omega
          have v2 : (m : Int) < (en : Int) := by omega
          have v3 : (a : Int) < (i : Int) := by omega
          have v4 : (i : Int) < (md : Int) := by omega
          have v5 : (md : Int) < (en : Int) := by omega
          have v6 : (en : Int) < (c : Int) := by omega
          have call1 := hid_of (rotate_any E (A ++ L1) L2 R1 (R2 ++ B) b n cap i m en (.func (.func 38) #[rv] #[]) wr (by simpa [List.append_assoc] using row0.out) (by simp; omega) (by simp; omega) (by omega) (by simp; omega) (by omega) (by omega) hnn)
          rw [show (A ++ L1) ++ (R1 ++ (L2 ++ (R2 ++ B))) = A ++ (L1 ++ (R1 ++ (L2 ++ (R2 ++ B)))) from List.append_assoc _ _ _] at call1
          have call2 := hid_of (fun W (hB : But b w0 W) (hW : RowE enc W b (A ++ (L1 ++ (R1 ++ (L2 ++ (R2 ++ B)))))) => ih.out (s + Q) (by omega) A L1 R1 (L2 ++ (R2 ++ B)) a i md W hB hW u1 u3 (by omega) (by omega) (by omega) (by omega) (by omega) (by omega) (by simp; omega))
          have call3 := hid_of (fun W (hB : But b w0 W) (hW : RowE enc W b (A ++ (mergeL lt L1 R1 ++ (L2 ++ (R2 ++ B))))) => ih.out (L.length - s + (R.length - Q)) (by omega) (A ++ mergeL lt L1 R1) L2 R2 B md en c W hB (by simpa [List.append_assoc] using hW) u2 u4 (by omega) (by omega) (by omega) (by rw [List.length_append, mergeL_length]; omega) (by omega) (by omega) (by omega))
          clear hsH hsl hsr hHH hLL hRR hmm hcc hnn' hQQ hss hdd hee hNN haa hx l1 l2 l3 l4 u1 u2 u3 u4 fin row0
          go_upto_region 39 with fail
          rw [een.out]
          go_wp2_with fail
          refine call1.out.mono ?_
          rintro e X1 ⟨rfl, row1, b1⟩
          replace row1 := hid_of row1
          have but1 := hid_of (but0.out.trans b1)
          clear b1 but0 call1
          go_wp2_with fail
          refine (call2.out X1 (hw0.out.trans but1.out) row1.out).mono ?_
          rintro e X2 ⟨rfl, row2, b1⟩
          replace row2 := hid_of row2
          have but2 := hid_of (but1.out.trans b1)
          clear b1 row1 call2
          go_wp2_with fail
          refine (call3.out X2 (hw0.out.trans but2.out) row2.out).mono ?_
          rintro e X3 ⟨rfl, row3, b1⟩
          rw [List.append_assoc, ← List.append_assoc (mergeL lt L1 R1), ← hmg.out] at row3
          replace row3 := hid_of row3
          have but3 := hid_of (but2.out.trans b1)
          clear b1 call3
          go_wp2_with fail
          exact bodyPost_end (results_none rfl _ _ _) rfl ⟨rfl, row3.out, but3.out⟩
        · have hx := hx
          have v1 : (i : Int) < (m : Int) := by omega
          have v2 : (m : Int) < (en : Int) := by omega
          have v3 : (a : Int) < (i : Int) := by omega
          have v4 : (i : Int) < (md : Int) := by omega
          have v5 : (md : Int) < (en : Int) := by omega
          have v6 : ¬ (en : Int) < (c : Int) := by omega
          have call1 := hid_of (rotate_any E (A ++ L1) L2 R1 (R2 ++ B) b n cap i m en (.func (.func 38) #[rv] #[]) wr (by simpa [List.append_assoc] using row0.out) (by simp; omega) (by simp; omega) (by omega) (by simp; omega) (by omega) (by omega) hnn)
          rw [show (A ++ L1) ++ (R1 ++ (L2 ++ (R2 ++ B))) = A ++ (L1 ++ (R1 ++ (L2 ++ (R2 ++ B)))) from List.append_assoc _ _ _] at call1
          have call2 := hid_of (fun W (hB : But b w0 W) (hW : RowE enc W b (A ++ (L1 ++ (R1 ++ (L2 ++ (R2 ++ B)))))) => ih.out (s + Q) (by omega) A L1 R1 (L2 ++ (R2 ++ B)) a i md W hB hW u1 u3 (by omega) (by omega) (by omega) (by omega) (by omega) (by omega) (by simp; omega))
          have keep3 := hid_of (fun W (hW : RowE enc W b (A ++ (mergeL lt L1 R1 ++ (L2 ++ (R2 ++ B))))) => show RowE enc W b (A ++ (mergeL lt L R ++ B)) by have e : R2 = [] := List.eq_nil_of_length_eq_zero (by omega); rw [hmg.out]; rw [e] at hW ⊢; rw [mergeL_nil]; simpa [List.append_assoc] using hW)
          clear hsH hsl hsr hHH hLL hRR hmm hcc hnn' hQQ hss hdd hee hNN haa hx l1 l2 l3 l4 u1 u2 u3 u4 fin row0
          go_upto_region 39 with fail
          rw [een.out]
          go_wp2_with fail
          refine call1.out.mono ?_
          rintro e X1 ⟨rfl, row1, b1⟩
          replace row1 := hid_of row1
          have but1 := hid_of (but0.out.trans b1)
          clear b1 but0 call1
          go_wp2_with fail
          refine (call2.out X1 (hw0.out.trans but1.out) row1.out).mono ?_
          rintro e X2 ⟨rfl, row2, b1⟩
          replace row2 := hid_of row2
          have but2 := hid_of (but1.out.trans b1)
          clear b1 row1 call2
          go_wp2_with fail
          exact bodyPost_end (results_none rfl _ _ _) rfl ⟨rfl, (keep3.out X2 row2.out), but2.out⟩
  · have g1 : ¬ (md : Int) < (m : Int) := by omega
    have hk0 : Hid (Cut lt L R H 0 L.length) := Cut.near (by have := hmd.out; have := hm.out; omega) (by have := hH.out; have := hmd.out; have := hm.out; omega)
    go_upto_region 32 with fail
    go_wp2_with fail
    rw [eP.out]
    go_loopw [20, 21] (fun iv jv wr => ∃ i j s t : Nat, iv = .int .i64 i ∧ jv = .int .i64 j ∧ Hid (a + s = i) ∧ Hid (a + t = j) ∧ Hid (Cut lt L R H s t) ∧ Hid (Below w.heap.size w wr)) (fun iv jv _ => (intOf jv).toNat - (intOf iv).toNat)
    case atStart => exact ⟨a, m, 0, L.length, rfl, rfl, rfl, hm, hk0, Below.refl _ _⟩
    case round =>
      clear hk0
      obtain ⟨i, j, s, t, rfl, rfl, hs, ht, hk, hb⟩ := hrel
      by_cases hij : i < j
      · have i1 : (i : Int) < (j : Int) := by omega
        have i2 : (j : Int) ≤ (m : Int) := by have := hk.out.tl; have := ht.out; have := hm.out; omega
        have i3 : (0 : Int) ≤ (i : Int) := by omega
        have i4 : (i : Int) + (j : Int) ≤ 9223372036854775807 := by omega
        obtain ⟨h, hh⟩ : ∃ h : Nat, Hid (h = (i + j) / 2) := ⟨_, rfl⟩
        have eh : Hid (((i : Int) + (j : Int)) / 2 = (h : Int)) := by show ((i : Int) + (j : Int)) / 2 = (h : Int); have := hh.out; omega
        have b1 : i ≤ h := by have := hh.out; omega
        have b2 : h < j := by have := hh.out; omega
        have b3 : (h : Int) < (n : Int) := by omega
        have b4 : (0 : Int) ≤ (h : Int) := by omega
        have b5 : h - a < L.length := by have := hk.out.tl; have := ht.out; have := hs.out; omega
        have b6 : H - 1 - (h - a) < R.length := by have := hk.out.sr; have := hk.out.tH; have := ht.out; have := hs.out; omega
        obtain ⟨z, hz⟩ : ∃ z, Hid (m + (H - 1 - (h - a)) = z) := ⟨_, rfl⟩
        have ez : IntKind.i64.wrap ((P : Int) - (h : Int)) = (z : Int) := by have := hz.out; have := hP.out; have := hN.out; have := hmd.out; have := hk.out.tH; have := ht.out; have := hs.out; rw [wrap_in (by omega) (by omega)]; omega
        have b7 : (z : Int) < (n : Int) := by have := hz.out; have := hc.out; omega
        have b8 : (0 : Int) ≤ (z : Int) := by omega
        obtain ⟨x, hx⟩ : ∃ x, Hid (L[h - a]? = some x) := ⟨L[h - a], List.getElem?_eq_getElem b5⟩
        obtain ⟨y, hy⟩ : ∃ y, Hid (R[H - 1 - (h - a)]? = some y) := ⟨R[H - 1 - (h - a)], List.getElem?_eq_getElem b6⟩
        have hx' : (A ++ (L ++ (R ++ B)))[h]? = some x := by
          rw [List.getElem?_append_right (by have := ha.out; have := hs.out; omega), show h - A.length = h - a by rw [ha.out], List.getElem?_append_left b5]
          exact hx.out
        have hy' : (A ++ (L ++ (R ++ B)))[z]? = some y := by
          rw [List.getElem?_append_right (by have := ha.out; have := hz.out; have := hm.out; omega), List.getElem?_append_right (by have := ha.out; have := hz.out; have := hm.out; omega), show z - A.length - L.length = H - 1 - (h - a) by have := ha.out; have := hz.out; have := hm.out; omega, List.getElem?_append_left b6]
          exact hy.out
        obtain ⟨gx1, gx2⟩ := (hR.out.below hb.out) h x hx'
        obtain ⟨gy1, gy2⟩ := (hR.out.below hb.out) z y hy'
        obtain ⟨x0, x1, x2, x3, x4, x5, x6, x7, ex⟩ := seven (E.size x)
        have gx1 : ∀ (r : Nat) u, (enc x)[r]? = some u → wr.cell? ⟨b, h * 8 + r, none⟩ = some u := fun r u hu => by have := gx1 r u (by simpa using hu); simpa using this
        have gx2 : ∀ (r : Nat), r < 8 → (wr.cell? ⟨b, h * 8 + r, none⟩).isSome = true ∧ wr.frozen? ⟨b, h * 8 + r, none⟩ = false := fun r hr => by have := gx2 r hr; simpa using this
        have xc0 : wr.cell? ⟨b, h * 8, none⟩ = some x0 := gx1 0 x0 (by rw [ex]; rfl)
        have xc1 : wr.cell? ⟨b, h * 8 + 1, none⟩ = some x1 := gx1 1 x1 (by rw [ex]; rfl)
        have xc2 : wr.cell? ⟨b, h * 8 + 2, none⟩ = some x2 := gx1 2 x2 (by rw [ex]; rfl)
        have xc3 : wr.cell? ⟨b, h * 8 + 3, none⟩ = some x3 := gx1 3 x3 (by rw [ex]; rfl)
        have xc4 : wr.cell? ⟨b, h * 8 + 4, none⟩ = some x4 := gx1 4 x4 (by rw [ex]; rfl)
        have xc5 : wr.cell? ⟨b, h * 8 + 5, none⟩ = some x5 := gx1 5 x5 (by rw [ex]; rfl)
        have xc6 : wr.cell? ⟨b, h * 8 + 6, none⟩ = some x6 := gx1 6 x6 (by rw [ex]; rfl)
        have xc7 : wr.cell? ⟨b, h * 8 + 7, none⟩ = some x7 := gx1 7 x7 (by rw [ex]; rfl)
        obtain ⟨y0, y1, y2, y3, y4, y5, y6, y7, ey⟩ := seven (E.size y)
        have gy1 : ∀ (r : Nat) u, (enc y)[r]? = some u → wr.cell? ⟨b, z * 8 + r, none⟩ = some u := fun r u hu => by have := gy1 r u (by simpa using hu); simpa using this
        have gy2 : ∀ (r : Nat), r < 8 → (wr.cell? ⟨b, z * 8 + r, none⟩).isSome = true ∧ wr.frozen? ⟨b, z * 8 + r, none⟩ = false := fun r hr => by have := gy2 r hr; simpa using this
        have yc0 : wr.cell? ⟨b, z * 8, none⟩ = some y0 := gy1 0 y0 (by rw [ey]; rfl)
        have yc1 : wr.cell? ⟨b, z * 8 + 1, none⟩ = some y1 := gy1 1 y1 (by rw [ey]; rfl)
        have yc2 : wr.cell? ⟨b, z * 8 + 2, none⟩ = some y2 := gy1 2 y2 (by rw [ey]; rfl)
        have yc3 : wr.cell? ⟨b, z * 8 + 3, none⟩ = some y3 := gy1 3 y3 (by rw [ey]; rfl)
        have yc4 : wr.cell? ⟨b, z * 8 + 4, none⟩ = some y4 := gy1 4 y4 (by rw [ey]; rfl)
        have yc5 : wr.cell? ⟨b, z * 8 + 5, none⟩ = some y5 := gy1 5 y5 (by rw [ey]; rfl)
        have yc6 : wr.cell? ⟨b, z * 8 + 6, none⟩ = some y6 := gy1 6 y6 (by rw [ey]; rfl)
        have yc7 : wr.cell? ⟨b, z * 8 + 7, none⟩ = some y7 := gy1 7 y7 (by rw [ey]; rfl)
        have hwB := hid_of (hw0.out.trans (But.of_below hb.out))
        have hcx := hid_of (hcmp.out y x)
        rw [ex, ey] at hcx
        replace b1 := hid_of b1
        replace b2 := hid_of b2
        clear gx1 gx2 gy1 gy2 hx' hy' b5 b6
        go_upto_region 35 with fail
        rw [eh.out]
        refine wp_region_quiet (C := fun w' => Below wr.heap.size wr w') (by kernel_rfl) (by kernel_rfl) (below_drewN (Below.refl _ _) 1) ?_
        with_reducible refine wpQuiet_step (fun K hK => ?_)
        try refine k_quiet_if (by kernel_rfl) ?_
        refine ⟨.func (.func 38) #[rv] #[], fun w' _ => ?_, ?_⟩
        · first | (go_simp; done) | (go_simp; decide)
        with_reducible refine hK _ ?_
        clear hK K
        simp only [Act.put, List.setIfInBounds_toArray, List.set_cons_zero, List.set_cons_succ]
        with_reducible refine wpQuiet_step (fun K hK => ?_)
        try refine k_quiet_if (by kernel_rfl) ?_
        refine ⟨.slice (some ⟨b, 0, none⟩) n cap, fun w' _ => ?_, ?_⟩
        · first | (go_simp; done) | (go_simp; decide)
        with_reducible refine hK _ ?_
        clear hK K
        simp only [Act.put, List.setIfInBounds_toArray, List.set_cons_zero, List.set_cons_succ]
        with_reducible refine wpQuiet_step (fun K hK => ?_)
        try refine k_quiet_if (by kernel_rfl) ?_
        refine ⟨.int .i64 P, fun w' _ => ?_, ?_⟩
        · first | (go_simp; done) | (go_simp; decide)
        with_reducible refine hK _ ?_
        clear hK K
        simp only [Act.put, List.setIfInBounds_toArray, List.set_cons_zero, List.set_cons_succ]
        with_reducible refine wpQuiet_step (fun K hK => ?_)
        try refine k_quiet_if (by kernel_rfl) ?_
        refine ⟨.int .i64 h, fun w' _ => ?_, ?_⟩
        · first | (go_simp; done) | (go_simp; decide)
        with_reducible refine hK _ ?_
        clear hK K
        simp only [Act.put, List.setIfInBounds_toArray, List.set_cons_zero, List.set_cons_succ]
        with_reducible refine wpQuiet_step (fun K hK => ?_)
        try refine k_quiet_if (by kernel_rfl) ?_
        refine ⟨.int .i64 z, fun w' _ => ?_, ?_⟩
        · first | (go_simp; done) | (go_simp; decide)
        with_reducible refine hK _ ?_
        clear hK K
        simp only [Act.put, List.setIfInBounds_toArray, List.set_cons_zero, List.set_cons_succ]
        with_reducible refine wpQuiet_step (fun K hK => ?_)
        try refine k_quiet_if (by kernel_rfl) ?_
        refine ⟨.pointer (some ⟨b, z * 8, none⟩), fun w' _ => ?_, ?_⟩
        · first | (go_simp; done) | (go_simp; decide)
        with_reducible refine hK _ ?_
        clear hK K
        simp only [Act.put, List.setIfInBounds_toArray, List.set_cons_zero, List.set_cons_succ]
        with_reducible refine wpQuiet_step (fun K hK => ?_)
        try refine k_quiet_if (by kernel_rfl) ?_
        refine ⟨.agg #[y0, y1, y2, y3, y4, y5, y6, y7], fun w' hw' => ?_, ?_⟩
        · have t0 := stay hw' yc0
          have t1 := stay hw' yc1
          have t2 := stay hw' yc2
          have t3 := stay hw' yc3
          have t4 := stay hw' yc4
          have t5 := stay hw' yc5
          have t6 := stay hw' yc6
          have t7 := stay hw' yc7
          go_simp
        with_reducible refine hK _ ?_
        clear hK K
        simp only [Act.put, List.setIfInBounds_toArray, List.set_cons_zero, List.set_cons_succ]
        with_reducible refine wpQuiet_step (fun K hK => ?_)
        try refine k_quiet_if (by kernel_rfl) ?_
        refine ⟨.slice (some ⟨b, 0, none⟩) n cap, fun w' _ => ?_, ?_⟩
        · first | (go_simp; done) | (go_simp; decide)
        with_reducible refine hK _ ?_
        clear hK K
        simp only [Act.put, List.setIfInBounds_toArray, List.set_cons_zero, List.set_cons_succ]
        with_reducible refine wpQuiet_step (fun K hK => ?_)
        try refine k_quiet_if (by kernel_rfl) ?_
        refine ⟨.int .i64 h, fun w' _ => ?_, ?_⟩
        · first | (go_simp; done) | (go_simp; decide)
        with_reducible refine hK _ ?_
        clear hK K
        simp only [Act.put, List.setIfInBounds_toArray, List.set_cons_zero, List.set_cons_succ]
        with_reducible refine wpQuiet_step (fun K hK => ?_)
        try refine k_quiet_if (by kernel_rfl) ?_
        refine ⟨.pointer (some ⟨b, h * 8, none⟩), fun w' _ => ?_, ?_⟩
        · first | (go_simp; done) | (go_simp; decide)
        with_reducible refine hK _ ?_
        clear hK K
        simp only [Act.put, List.setIfInBounds_toArray, List.set_cons_zero, List.set_cons_succ]
        with_reducible refine wpQuiet_step (fun K hK => ?_)
        try refine k_quiet_if (by kernel_rfl) ?_
        refine ⟨.agg #[x0, x1, x2, x3, x4, x5, x6, x7], fun w' hw' => ?_, ?_⟩
        · have t0 := stay hw' xc0
          have t1 := stay hw' xc1
          have t2 := stay hw' xc2
          have t3 := stay hw' xc3
          have t4 := stay hw' xc4
          have t5 := stay hw' xc5
          have t6 := stay hw' xc6
          have t7 := stay hw' xc7
          go_simp
        with_reducible refine hK _ ?_
        clear hK K
        simp only [Act.put, List.setIfInBounds_toArray, List.set_cons_zero, List.set_cons_succ]
        with_reducible refine wpQuiet_step (fun K hK => ?_)
        try refine k_quiet_if (by kernel_rfl) ?_
        refine ⟨.int .i64 (cn y x), fun w' hw' => ?_, ?_⟩
        · go_simp
          refine (hcx.out w' (hwB.out.trans (But.of_below hw'))).mono ?_
          rintro e w'' ⟨rfl, hb⟩
          exact ⟨rfl, hw'.trans (hb.mono hw'.size)⟩
        with_reducible refine hK _ ?_
        clear hK K
        simp only [Act.put, List.setIfInBounds_toArray, List.set_cons_zero, List.set_cons_succ]
        by_cases hcz : cn y x < 0
        · have hly := hid_of (show lt y x = true by rw [hlt.out]; exact decide_eq_true hcz)
          with_reducible refine wpQuiet_step (fun K hK => ?_)
          try refine k_quiet_if (by kernel_rfl) ?_
          refine ⟨.bool true, fun w' _ => ?_, ?_⟩
          · first | (go_simp; done) | (go_simp; decide)
          with_reducible refine hK _ ?_
          clear hK K
          simp only [Act.put, List.setIfInBounds_toArray, List.set_cons_zero, List.set_cons_succ]
          with_reducible refine wpQuiet_step (fun K hK => ?_)
          try refine k_quiet_if (by kernel_rfl) ?_
          refine ⟨.bool false, fun w' _ => ?_, ?_⟩
          · first | (go_simp; done) | (go_simp; decide)
          with_reducible refine hK _ ?_
          clear hK K
          simp only [Act.put, List.setIfInBounds_toArray, List.set_cons_zero, List.set_cons_succ]
          refine wpQuiet_nil ?_
          intro X1 hX1
          have hb' := hid_of (hb.out.trans (hX1.mono hb.out.size))
          clear hcx hX1 hb xc0 xc1 xc2 xc3 xc4 xc5 xc6 xc7 yc0 yc1 yc2 yc3 yc4 yc5 yc6 yc7
          go_wp2_with fail
          exact ⟨⟨i, h, s, h - a, rfl, rfl, hs, (by have := b1.out; have := hs.out; omega : a + (h - a) = h), hk.out.down (by have := b1.out; have := hs.out; omega) (by have := b2.out; have := ht.out; have := b1.out; have := hs.out; omega) hx.out hy.out hly.out, hb'⟩, by have := b1.out; have := b2.out; simp [intOf]; omega⟩
        · have hly := hid_of (show lt y x = false by rw [hlt.out]; exact decide_eq_false hcz)
          with_reducible refine wpQuiet_step (fun K hK => ?_)
          try refine k_quiet_if (by kernel_rfl) ?_
          refine ⟨.bool false, fun w' _ => ?_, ?_⟩
          · first | (go_simp; done) | (go_simp; decide)
          with_reducible refine hK _ ?_
          clear hK K
          simp only [Act.put, List.setIfInBounds_toArray, List.set_cons_zero, List.set_cons_succ]
          with_reducible refine wpQuiet_step (fun K hK => ?_)
          try refine k_quiet_if (by kernel_rfl) ?_
          refine ⟨.bool true, fun w' _ => ?_, ?_⟩
          · first | (go_simp; done) | (go_simp; decide)
          with_reducible refine hK _ ?_
          clear hK K
          simp only [Act.put, List.setIfInBounds_toArray, List.set_cons_zero, List.set_cons_succ]
          refine wpQuiet_nil ?_
          intro X1 hX1
          have hb' := hid_of (hb.out.trans (hX1.mono hb.out.size))
          clear hcx hX1 hb xc0 xc1 xc2 xc3 xc4 xc5 xc6 xc7 yc0 yc1 yc2 yc3 yc4 yc5 yc6 yc7
          go_wp2_with fail
          exact ⟨⟨h + 1, j, h + 1 - a, t, by go_num, rfl, (by have := b1.out; have := hs.out; omega : a + (h + 1 - a) = h + 1), ht, by rw [show h + 1 - a = h - a + 1 by have := b1.out; have := hs.out; omega]; exact hk.out.up (by have := b1.out; have := hs.out; omega) (by have := b2.out; have := ht.out; have := b1.out; have := hs.out; omega) hx.out hy.out hly.out, hb'⟩, by have := b1.out; have := b2.out; simp [intOf]; omega⟩
      · have i1 : ¬ (i : Int) < (j : Int) := by omega
        have i0 : (0 : Int) ≤ (i : Int) := by omega
        have hst' : s = t := by have := hs.out; have := ht.out; have := hk.out.le; omega
        subst hst'
        obtain ⟨Q, hQ⟩ : ∃ Q, Hid (H - s = Q) := ⟨_, rfl⟩
        obtain ⟨en, hen⟩ : ∃ en, Hid (m + Q = en) := ⟨_, rfl⟩
        have hsH := hk.out.tH
        have hsl := hk.out.tl
        have hsr := hk.out.sr
        have hHH := hH.out
        have hLL := hL.out
        have hRR := hRr.out
        have hmm := hm.out
        have hcc := hc.out
        have hnn' := hn.out
        have hQQ := hQ.out
        have hss := hs.out
        have hdd := hmd.out
        have hee := hen.out
        have hNN := hN.out
        have haa := ha.out
        have een : Hid ((N : Int) - (i : Int) = (en : Int)) := by show (N : Int) - (i : Int) = (en : Int); omega
        have g3 : (i : Int) ≤ (N : Int) := by omega
        have hmg : Hid (mergeL lt L R = mergeL lt (L.take s) (R.take Q) ++ mergeL lt (L.drop s) (R.drop Q)) := by rw [← hQ.out]; exact hk.out.done O hul hur
        have l1 : (L.take s).length = s := by rw [List.length_take]; omega
        have l2 : (L.drop s).length = L.length - s := by rw [List.length_drop]
        have l3 : (R.take Q).length = Q := by rw [List.length_take]; omega
        have l4 : (R.drop Q).length = R.length - Q := by rw [List.length_drop]
        have u1 := Up.take hul s
        have u2 := Up.drop hul s
        have u3 := Up.take hur Q
        have u4 := Up.drop hur Q
        have row0 : Hid (RowE enc wr b (A ++ (L.take s ++ (L.drop s ++ (R.take Q ++ (R.drop Q ++ B)))))) := by
          rw [← List.append_assoc (L.take s), List.take_append_drop, ← List.append_assoc (R.take Q), List.take_append_drop]
          exact hR.out.below hb.out
        have but0 : Hid (But b w wr) := But.of_below hb.out
        clear hR hk hb hlt hcmp
        obtain ⟨L1, eL1⟩ : ∃ L1, L.take s = L1 := ⟨_, rfl⟩
        obtain ⟨L2, eL2⟩ : ∃ L2, L.drop s = L2 := ⟨_, rfl⟩
        obtain ⟨R1, eR1⟩ : ∃ R1, R.take Q = R1 := ⟨_, rfl⟩
        obtain ⟨R2, eR2⟩ : ∃ R2, R.drop Q = R2 := ⟨_, rfl⟩
        rw [eL1] at l1 u1 row0 hmg
        rw [eL2] at l2 u2 row0 hmg
        rw [eR1] at l3 u3 row0 hmg
        rw [eR2] at l4 u4 row0 hmg
        clear eL1 eL2 eR1 eR2
        have fin : Hid (s = 0 ∧ 0 < Q ∧ Q < R.length ∨ s = 0 ∧ Q = R.length ∨ s = L.length ∧ Q = 0 ∨ s = L.length ∧ 0 < Q ∧ Q < R.length ∨ 0 < s ∧ s < L.length ∧ Q = 0 ∨ 0 < s ∧ s < L.length ∧ 0 < Q ∧ Q < R.length ∨ 0 < s ∧ s < L.length ∧ Q = R.length) := by
          show _ ∨ _
          omega
        rcases fin.out with hx | hx | hx | hx | hx | hx | hx
        · have hx := hx
          have v1 : (i : Int) < (m : Int) := by omega
          have v2 : (m : Int) < (en : Int) := by omega
          have v3 : ¬ (a : Int) < (i : Int) := by omega
          have v4 : (i : Int) < (md : Int) := by omega
          have v5 : (md : Int) < (en : Int) := by omega
          have v6 : (en : Int) < (c : Int) := by omega
          have call1 := hid_of (rotate_any E (A ++ L1) L2 R1 (R2 ++ B) b n cap i m en (.func (.func 38) #[rv] #[]) wr (by simpa [List.append_assoc] using row0.out) (by simp; omega) (by simp; omega) (by omega) (by simp; omega) (by omega) (by omega) hnn)
          rw [show (A ++ L1) ++ (R1 ++ (L2 ++ (R2 ++ B))) = A ++ (L1 ++ (R1 ++ (L2 ++ (R2 ++ B)))) from List.append_assoc _ _ _] at call1
          have keep2 := hid_of (fun W (hW : RowE enc W b (A ++ (L1 ++ (R1 ++ (L2 ++ (R2 ++ B)))))) => show RowE enc W b (A ++ (mergeL lt L1 R1 ++ (L2 ++ (R2 ++ B)))) by have e : L1 = [] := List.eq_nil_of_length_eq_zero (by omega); rw [e] at hW ⊢; rw [nil_mergeL]; exact hW)
          have call3 := hid_of (fun W (hB : But b w0 W) (hW : RowE enc W b (A ++ (mergeL lt L1 R1 ++ (L2 ++ (R2 ++ B))))) => ih.out (L.length - s + (R.length - Q)) (by omega) (A ++ mergeL lt L1 R1) L2 R2 B md en c W hB (by simpa [List.append_assoc] using hW) u2 u4 (by omega) (by omega) (by omega) (by rw [List.length_append, mergeL_length]; omega) (by omega) (by omega) (by omega))
          clear hsH hsl hsr hHH hLL hRR hmm hcc hnn' hQQ hss hdd hee hNN haa hx l1 l2 l3 l4 u1 u2 u3 u4 fin row0
          go_upto_region 39 with fail
          rw [een.out]
          go_wp2_with fail
          refine call1.out.mono ?_
          rintro e X1 ⟨rfl, row1, b1⟩
          replace row1 := hid_of row1
          have but1 := hid_of (but0.out.trans b1)
          clear b1 but0 call1
          go_wp2_with fail
          refine (call3.out X1 (hw0.out.trans but1.out) (keep2.out X1 row1.out)).mono ?_
          rintro e X3 ⟨rfl, row3, b1⟩
          rw [List.append_assoc, ← List.append_assoc (mergeL lt L1 R1), ← hmg.out] at row3
          replace row3 := hid_of row3
          have but3 := hid_of (but1.out.trans b1)
          clear b1 call3
          go_wp2_with fail
          exact bodyPost_end (results_none rfl _ _ _) rfl ⟨rfl, row3.out, but3.out⟩
        · have hx := hx
          have v1 : (i : Int) < (m : Int) := by omega
          have v2 : (m : Int) < (en : Int) := by omega
          have v3 : ¬ (a : Int) < (i : Int) := by omega
          have v4 : (i : Int) < (md : Int) := by omega
          have v5 : (md : Int) < (en : Int) := by omega
          have v6 : ¬ (en : Int) < (c : Int) := by omega
          have call1 := hid_of (rotate_any E (A ++ L1) L2 R1 (R2 ++ B) b n cap i m en (.func (.func 38) #[rv] #[]) wr (by simpa [List.append_assoc] using row0.out) (by simp; omega) (by simp; omega) (by omega) (by simp; omega) (by omega) (by omega) hnn)
          rw [show (A ++ L1) ++ (R1 ++ (L2 ++ (R2 ++ B))) = A ++ (L1 ++ (R1 ++ (L2 ++ (R2 ++ B)))) from List.append_assoc _ _ _] at call1
          have keep2 := hid_of (fun W (hW : RowE enc W b (A ++ (L1 ++ (R1 ++ (L2 ++ (R2 ++ B)))))) => show RowE enc W b (A ++ (mergeL lt L1 R1 ++ (L2 ++ (R2 ++ B)))) by have e : L1 = [] := List.eq_nil_of_length_eq_zero (by omega); rw [e] at hW ⊢; rw [nil_mergeL]; exact hW)
          have keep3 := hid_of (fun W (hW : RowE enc W b (A ++ (mergeL lt L1 R1 ++ (L2 ++ (R2 ++ B))))) => show RowE enc W b (A ++ (mergeL lt L R ++ B)) by have e : R2 = [] := List.eq_nil_of_length_eq_zero (by omega); rw [hmg.out]; rw [e] at hW ⊢; rw [mergeL_nil]; simpa [List.append_assoc] using hW)
          clear hsH hsl hsr hHH hLL hRR hmm hcc hnn' hQQ hss hdd hee hNN haa hx l1 l2 l3 l4 u1 u2 u3 u4 fin row0
          go_upto_region 39 with fail
          rw [een.out]
          go_wp2_with fail
          refine call1.out.mono ?_
          rintro e X1 ⟨rfl, row1, b1⟩
          replace row1 := hid_of row1
          have but1 := hid_of (but0.out.trans b1)
          clear b1 but0 call1
          go_wp2_with fail
          exact bodyPost_end (results_none rfl _ _ _) rfl ⟨rfl, (keep3.out X1 (keep2.out X1 row1.out)), but1.out⟩
        · have hx := hx
          have v1 : ¬ (i : Int) < (m : Int) := by omega
          have v2 : ¬ (m : Int) < (en : Int) := by omega
          have v3 : (a : Int) < (i : Int) := by omega
          have v4 : ¬ (i : Int) < (md : Int) := by omega
          have v5 : ¬ (md : Int) < (en : Int) := by omega
          have v6 : (en : Int) < (c : Int) := by omega
          have nil : L2 = [] := List.eq_nil_of_length_eq_zero (by omega)
          have row1 : Hid (RowE enc wr b (A ++ (L1 ++ (R1 ++ (L2 ++ (R2 ++ B)))))) := by have h := row0.out; rw [nil] at h ⊢; exact h
          clear nil
          have keep2 := hid_of (fun W (hW : RowE enc W b (A ++ (L1 ++ (R1 ++ (L2 ++ (R2 ++ B)))))) => show RowE enc W b (A ++ (mergeL lt L1 R1 ++ (L2 ++ (R2 ++ B)))) by have e : R1 = [] := List.eq_nil_of_length_eq_zero (by omega); rw [e] at hW ⊢; rw [mergeL_nil]; exact hW)
          have keep3 := hid_of (fun W (hW : RowE enc W b (A ++ (mergeL lt L1 R1 ++ (L2 ++ (R2 ++ B))))) => show RowE enc W b (A ++ (mergeL lt L R ++ B)) by have e : L2 = [] := List.eq_nil_of_length_eq_zero (by omega); rw [hmg.out]; rw [e] at hW ⊢; rw [nil_mergeL]; simpa [List.append_assoc] using hW)
          clear hsH hsl hsr hHH hLL hRR hmm hcc hnn' hQQ hss hdd hee hNN haa hx l1 l2 l3 l4 u1 u2 u3 u4 fin row0
          go_upto_region 39 with fail
          rw [een.out]
          go_wp2_with fail
          exact bodyPost_end (results_none rfl _ _ _) rfl ⟨rfl, (keep3.out wr (keep2.out wr row1.out)), but0.out⟩
        · have hx := hx
          have v1 : ¬ (i : Int) < (m : Int) := by omega
          have v2 : (m : Int) < (en : Int) := by omega
          have v3 : (a : Int) < (i : Int) := by omega
          have v4 : (i : Int) < (md : Int) := by omega
          have v5 : ¬ (md : Int) < (en : Int) := by omega
          have v6 : (en : Int) < (c : Int) := by omega
          have nil : L2 = [] := List.eq_nil_of_length_eq_zero (by omega)
          have row1 : Hid (RowE enc wr b (A ++ (L1 ++ (R1 ++ (L2 ++ (R2 ++ B)))))) := by have h := row0.out; rw [nil] at h ⊢; exact h
          clear nil
          have call2 := hid_of (fun W (hB : But b w0 W) (hW : RowE enc W b (A ++ (L1 ++ (R1 ++ (L2 ++ (R2 ++ B)))))) => ih.out (s + Q) (by omega) A L1 R1 (L2 ++ (R2 ++ B)) a i md W hB hW u1 u3 (by omega) (by omega) (by omega) (by omega) (by omega) (by omega) (by simp; omega))
          have keep3 := hid_of (fun W (hW : RowE enc W b (A ++ (mergeL lt L1 R1 ++ (L2 ++ (R2 ++ B))))) => show RowE enc W b (A ++ (mergeL lt L R ++ B)) by have e : L2 = [] := List.eq_nil_of_length_eq_zero (by omega); rw [hmg.out]; rw [e] at hW ⊢; rw [nil_mergeL]; simpa [List.append_assoc] using hW)
          clear hsH hsl hsr hHH hLL hRR hmm hcc hnn' hQQ hss hdd hee hNN haa hx l1 l2 l3 l4 u1 u2 u3 u4 fin row0
          go_upto_region 39 with fail
          rw [een.out]
          go_wp2_with fail
          refine (call2.out wr (hw0.out.trans but0.out) row1.out).mono ?_
          rintro e X2 ⟨rfl, row2, b1⟩
          replace row2 := hid_of row2
          have but2 := hid_of (but0.out.trans b1)
          clear b1 row1 call2
          go_wp2_with fail
          exact bodyPost_end (results_none rfl _ _ _) rfl ⟨rfl, (keep3.out X2 row2.out), but2.out⟩
        · have hx := hx
          have v1 : (i : Int) < (m : Int) := by omega
          have v2 : ¬ (m : Int) < (en : Int) := by omega
          have v3 : (a : Int) < (i : Int) := by omega
          have v4 : ¬ (i : Int) < (md : Int) := by omega
          have v5 : (md : Int) < (en : Int) := by omega
          have v6 : (en : Int) < (c : Int) := by omega
          have nil : R1 = [] := List.eq_nil_of_length_eq_zero (by omega)
          have row1 : Hid (RowE enc wr b (A ++ (L1 ++ (R1 ++ (L2 ++ (R2 ++ B)))))) := by have h := row0.out; rw [nil] at h ⊢; exact h
          clear nil
          have keep2 := hid_of (fun W (hW : RowE enc W b (A ++ (L1 ++ (R1 ++ (L2 ++ (R2 ++ B)))))) => show RowE enc W b (A ++ (mergeL lt L1 R1 ++ (L2 ++ (R2 ++ B)))) by have e : R1 = [] := List.eq_nil_of_length_eq_zero (by omega); rw [e] at hW ⊢; rw [mergeL_nil]; exact hW)
          have call3 := hid_of (fun W (hB : But b w0 W) (hW : RowE enc W b (A ++ (mergeL lt L1 R1 ++ (L2 ++ (R2 ++ B))))) => ih.out (L.length - s + (R.length - Q)) (by omega) (A ++ mergeL lt L1 R1) L2 R2 B md en c W hB (by simpa [List.append_assoc] using hW) u2 u4 (by omega) (by omega) (by omega) (by rw [List.length_append, mergeL_length]; omega) (by omega) (by omega) (by omega))
          clear hsH hsl hsr hHH hLL hRR hmm hcc hnn' hQQ hss hdd hee hNN haa hx l1 l2 l3 l4 u1 u2 u3 u4 fin row0
          go_upto_region 39 with fail
          rw [een.out]
          go_wp2_with fail
          refine (call3.out wr (hw0.out.trans but0.out) (keep2.out wr row1.out)).mono ?_
          rintro e X3 ⟨rfl, row3, b1⟩
          rw [List.append_assoc, ← List.append_assoc (mergeL lt L1 R1), ← hmg.out] at row3
          replace row3 := hid_of row3
          have but3 := hid_of (but0.out.trans b1)
          clear b1 call3
          go_wp2_with fail
          exact bodyPost_end (results_none rfl _ _ _) rfl ⟨rfl, row3.out, but3.out⟩
        · have hx := hx
          have v1 : (i : Int) < (m : Int) := by omega
          have v2 : (m : Int) < (en : Int) := by omega
          have v3 : (a : Int) < (i : Int) := by omega
          have v4 : (i : Int) < (md : Int) := by omega
          have v5 : (md : Int) < (en : Int) := by omega
          have v6 : (en : Int) < (c : Int) := by omega
          have call1 := hid_of (rotate_any E (A ++ L1) L2 R1 (R2 ++ B) b n cap i m en (.func (.func 38) #[rv] #[]) wr (by simpa [List.append_assoc] using row0.out) (by simp; omega) (by simp; omega) (by omega) (by simp; omega) (by omega) (by omega) hnn)
          rw [show (A ++ L1) ++ (R1 ++ (L2 ++ (R2 ++ B))) = A ++ (L1 ++ (R1 ++ (L2 ++ (R2 ++ B)))) from List.append_assoc _ _ _] at call1
          have call2 := hid_of (fun W (hB : But b w0 W) (hW : RowE enc W b (A ++ (L1 ++ (R1 ++ (L2 ++ (R2 ++ B)))))) => ih.out (s + Q) (by omega) A L1 R1 (L2 ++ (R2 ++ B)) a i md W hB hW u1 u3 (by omega) (by omega) (by omega) (by omega) (by omega) (by omega) (by simp; omega))
          have call3 := hid_of (fun W (hB : But b w0 W) (hW : RowE enc W b (A ++ (mergeL lt L1 R1 ++ (L2 ++ (R2 ++ B))))) => ih.out (L.length - s + (R.length - Q)) (by omega) (A ++ mergeL lt L1 R1) L2 R2 B md en c W hB (by simpa [List.append_assoc] using hW) u2 u4 (by omega) (by omega) (by omega) (by rw [List.length_append, mergeL_length]; omega) (by omega) (by omega) (by omega))
          clear hsH hsl hsr hHH hLL hRR hmm hcc hnn' hQQ hss hdd hee hNN haa hx l1 l2 l3 l4 u1 u2 u3 u4 fin row0
          go_upto_region 39 with fail
          rw [een.out]
          go_wp2_with fail
          refine call1.out.mono ?_
          rintro e X1 ⟨rfl, row1, b1⟩
          replace row1 := hid_of row1
          have but1 := hid_of (but0.out.trans b1)
          clear b1 but0 call1
          go_wp2_with fail
          refine (call2.out X1 (hw0.out.trans but1.out) row1.out).mono ?_
          rintro e X2 ⟨rfl, row2, b1⟩
          replace row2 := hid_of row2
          have but2 := hid_of (but1.out.trans b1)
          clear b1 row1 call2
          go_wp2_with fail
          refine (call3.out X2 (hw0.out.trans but2.out) row2.out).mono ?_
          rintro e X3 ⟨rfl, row3, b1⟩
          rw [List.append_assoc, ← List.append_assoc (mergeL lt L1 R1), ← hmg.out] at row3
          replace row3 := hid_of row3
          have but3 := hid_of (but2.out.trans b1)
          clear b1 call3
          go_wp2_with fail
          exact bodyPost_end (results_none rfl _ _ _) rfl ⟨rfl, row3.out, but3.out⟩
        · exfalso; omega
end
end Go.Proofs.YthafhemlnninbaaGreat.Sorted
