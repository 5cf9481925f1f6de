import Derived.Test.YtgigikcopedoeaaGreatLG
/-! The document's key of a document. -/
namespace Go.Proofs.YtgigikcopedoeaaGreat.Tree
open Go Go.RowKit

theorem bestT_one (sg : Int) (its : List Tr) : bestT sg its 1 = 0 := by
  rw [bestT]
  split
  · split <;> rfl
  · rfl
set_option maxHeartbeats 8000000 in
set_option maxRecDepth 100000 in
theorem rof_in (fl : Bool) (t : Tr) (k x : Int) (s : ByteArray) (an : Option Addr) (ln cn : Nat) (ai : Option Addr) (li ci : Nat) (pa : Option Addr) (pc : Nat) (l : List ByteArray) (kb ko kn kc p : Nat) (w : World) (hp : p < kn) (hk0 : w.cell? ⟨kb, ko + p * 2, none⟩ = some (.slice pa l.length pc)) (hk1 : w.cell? ⟨kb, ko + p * 2 + 1, none⟩ = some (.int .i64 (sgB fl))) (hV : VRep w t (five k x s (.slice an ln cn) (.slice ai li ci))) (hP : Reads w (.slice pa l.length pc) l) (hS : ∀ s ∈ l, s.size ≤ 9223372036854775806) (hl : l.length ≤ 9223372036854775806) (hb : partsT t ≤ 1000000) (hT : SmallT t) :
    Calls Tryz.prog 20 #[.slice (some ⟨kb, ko, none⟩) kn kc, .agg #[.int .i64 k, .int .i64 x, .string s, .slice an ln cn, .slice ai li ci], .int .i64 p] w fun e w' => ∃ k' x' s' an' ln' cn' ai' li' ci', e = .returned (.agg #[.int .i64 k', .int .i64 x', .string s', .slice an' ln' cn', .slice ai' li' ci']) ∧ VRep w' (keyT (sgB fl) t l) (five k' x' s' (.slice an' ln' cn') (.slice ai' li' ci')) ∧ Below w.heap.size w w' := by
  obtain ⟨sg, hsg⟩ : ∃ sg, Hid (sgB fl = sg) := ⟨_, rfl⟩
  have hs2 : Hid (sg = 1 ∨ sg = -1) := by rw [← hsg.out]; cases fl; exact .inl rfl; exact .inr rfl
  obtain ⟨C, hC⟩ : ∃ C, Hid (candL (allF (SizeOf.sizeOf t) t l) = C) := ⟨_, rfl⟩
  obtain ⟨N, hN⟩ : ∃ N, Hid (C.length = N) := ⟨_, rfl⟩
  obtain ⟨M, hM⟩ : ∃ M, Hid (l.length = M) := ⟨_, rfl⟩
  have hCl : Hid (N ≤ 1000000) := by rw [← hN.out, ← hC.out]; have h1 := candL_len (allF (SizeOf.sizeOf t) t l); have h2 := allF_parts (SizeOf.sizeOf t) l t; exact hid_e (by omega)
  have hCs : Hid (SmallL C) := by rw [← hC.out]; exact candL_small (allF_small _ _ _ hT)
  have hA : Hid (∀ W1, Below w.heap.size w W1 → Calls Tryz.prog 44 #[.agg #[.int .i64 k, .int .i64 x, .string s, .slice an ln cn, .slice ai li ci], .slice pa M pc] W1 fun e w' => ∃ a' c', e = .returned (.slice a' N c') ∧ ListIn w w' a' c' C ∧ Below W1.heap.size W1 w') := fun W1 h => by
    rw [← hN.out, ← hC.out, ← hM.out]; exact rcand_any t k x s an ln cn ai li ci pa pc l w W1 h hV hP hS hl hb
  have hK : Hid (keyT (sgB fl) t l = keyL sg C) := by unfold keyT; rw [hC.out, hsg.out]; exact hid_e rfl
  rw [hM.out] at hk0
  rw [hsg.out] at hk1
  rw [hK.out]
  clear hV hP hS hl hb hT hK hM hsg
  have p0 : ¬ (p : Int) < 0 := by omega
  have p1 : (p : Int) < (kn : Int) := by omega
  have p2 : (0 : Int) ≤ (p : Int) := by omega
  have p3 : ¬ (kn : Int) ≤ (p : Int) := by omega
  obtain ⟨X, hX⟩ : ∃ X, Hid ((w.alloc (.cells #[.int .i64 k, .int .i64 x, .string s, .slice an ln cn, .slice ai li ci] 25)).alloc (.cells #[.int .i64 0, .int .i64 0, .string ⟨#[]⟩, .slice none 0 0, .slice none 0 0] 25) = X) := ⟨_, rfl⟩
  have HB : Hid (Below w.heap.size w X) := by rw [← hX.out]; exact ((Below.refl _ w).alloc (Nat.le_refl _) _).alloc (by simp) _
  have n2 : Hid (X.heap[w.heap.size + 1]? = some (.cells #[.int .i64 0, .int .i64 0, .string ⟨#[]⟩, .slice none 0 0, .slice none 0 0] 25)) := by rw [← hX.out]; exact new2 _ _ _
  have n1 : Hid (X.heap[w.heap.size]? = some (.cells #[.int .i64 k, .int .i64 x, .string s, .slice an ln cn, .slice ai li ci] 25)) := by have h := ((Below.refl _ (w.alloc (.cells #[.int .i64 k, .int .i64 x, .string s, .slice an ln cn, .slice ai li ci] 25))).alloc (Nat.le_refl _) (.cells #[.int .i64 0, .int .i64 0, .string ⟨#[]⟩, .slice none 0 0, .slice none 0 0] 25)).block w.heap.size (by simp); rw [hX.out, heap_alloc_new] at h; exact h
  have hsz : Hid (X.heap.size = w.heap.size + 2) := by rw [← hX.out]; exact hid_e (by simp)
  obtain ⟨d0, d1, d2, d3, d4, -⟩ := row_cells n1.out
  have hw1 := hid_e hk1
  have d0' : X.drew.cell? ⟨w.heap.size, 0, none⟩ = some (.int .i64 k) := d0
  have d1' : X.drew.cell? ⟨w.heap.size, 1, none⟩ = some (.int .i64 x) := d1
  have d2' : X.drew.cell? ⟨w.heap.size, 2, none⟩ = some (.string s) := d2
  have d3' : X.drew.cell? ⟨w.heap.size, 3, none⟩ = some (.slice an ln cn) := d3
  have d4' : X.drew.cell? ⟨w.heap.size, 4, none⟩ = some (.slice ai li ci) := d4
  have d5' : X.drew.cell? ⟨kb, ko + p * 2, none⟩ = some (.slice pa M pc) := stay HB.out hk0
  have HB' : Hid (Below w.heap.size w X.drew) := below_drew HB.out
  have hXd : Hid (Below X.heap.size X X.drew) := below_drew (Below.refl _ _)
  clear d0 d1 d2 d3 d4 hk0 hk1
  go_enter Tryz.func20, Tryz.ntmps20
  go_upto_region 1 with fail
  rw [hX.out]
  go_upto_region 3 with fail
  go_region_held3 (fun W => W.cell? ⟨w.heap.size, 0, none⟩ = some (.int .i64 k) ∧ W.cell? ⟨w.heap.size, 1, none⟩ = some (.int .i64 x) ∧ W.cell? ⟨w.heap.size, 2, none⟩ = some (.string s) ∧ W.cell? ⟨w.heap.size, 3, none⟩ = some (.slice an ln cn) ∧ W.cell? ⟨w.heap.size, 4, none⟩ = some (.slice ai li ci) ∧ W.cell? ⟨kb, ko + p * 2, none⟩ = some (.slice pa M pc)) (go_keep) (first | (go_at_call 44; refine (hA.out _ HB'.out).mono ?_; rintro e w1 ⟨a1, c1, rfl, hL1, hb1⟩; have e0 := stay hb1 d0'; have e1 := stay hb1 d1'; have e2 := stay hb1 d2'; have e3 := stay hb1 d3'; have e4 := stay hb1 d4'; have e5 := stay hb1 d5'; have hB1 := hid_e (HB'.out.trans (hb1.mono HB'.out.size)); have hX1 := hid_e (hXd.out.trans (hb1.mono hXd.out.size)); replace hL1 := hid_e hL1; clear hb1 d0' d1' d2' d3' d4' d5'))

  clear e0 e1 e2 e3 e4 e5
  rcases Nat.eq_zero_or_pos N with hN0 | hN0
  · subst hN0
    obtain rfl : C = [] := List.eq_nil_of_length_eq_zero hN.out
    have g2 := hid_e (show w1.heap[w.heap.size + 1]? = some (.cells #[.int .i64 0, .int .i64 0, .string ⟨#[]⟩, .slice none 0 0, .slice none 0 0] 25) from by rw [hX1.out.block _ (by rw [hsz.out]; omega)]; exact n2.out)
    obtain ⟨z0, z1, z2, z3, z4, zf⟩ := row_cells g2.out
    have zf0 := zf 0; have zf1 := zf 1; have zf2 := zf 2; have zf3 := zf 3; have zf4 := zf 4
    have hr5 := put5_cells g2.out (.int .i64 0) (.int .i64 0) (.string ⟨#[]⟩) (.slice none 0 0) (.slice none 0 0)
    have r0 := hid_e (hr5 0); have r1 := hid_e (hr5 1); have r2 := hid_e (hr5 2); have r3 := hid_e (hr5 3); have r4 := hid_e (hr5 4)
    clear hr5 zf
    go_wp2_with fail
    have r0 := r0.out; have r1 := r1.out; have r2 := r2.out; have r3 := r3.out; have r4 := r4.out
    refine bodyPost_ret (v := .agg #[.int .i64 0, .int .i64 0, .string ⟨#[]⟩, .slice none 0 0, .slice none 0 0]) (by simp [results, Tryz.results20, go_sem, r0, r1, r2, r3, r4]) rfl ?_
    exact ⟨0, 0, ⟨#[]⟩, none, 0, 0, none, 0, 0, rfl, null_rep _, hB1.out.trans (put5_below (by omega) _ _ _ _ _)⟩
  · have hNz : ¬ (N : Int) = 0 := by omega
    have N1 : (N : Int) ≤ 1000000 := by have := hCl.out; omega
    go_upto_region 7 with fail
    go_wp2_with fail
    go_loopw [8, 9] (fun bv iv wr => ∃ q m : Nat, bv = .int .i64 m ∧ iv = .int .i64 q ∧ 1 ≤ q ∧ q ≤ N ∧ Hid (bestT sg C q = m) ∧ Hid (Below w1.heap.size w1 wr)) (fun _ iv _ => N - (intOf iv).toNat)
    case atStart => exact ⟨1, 0, rfl, rfl, Nat.le_refl _, hN0, bestT_one _ _, Below.refl _ _⟩
    case round =>
      obtain ⟨q, m, rfl, rfl, hq0, hq, hm, hbr⟩ := hrel
      by_cases hlt : q < N
      · have q1 : (q : Int) < (N : Int) := by omega
        have q0 : (0 : Int) ≤ (q : Int) := by omega
        have hml : m < N := by rw [← hm.out, ← hN.out]; exact bestT_lt _ C q (by rw [hN.out]; omega) (by rw [hN.out]; omega)
        have m1 : (m : Int) < (N : Int) := by omega
        have m0 : (0 : Int) ≤ (m : Int) := by omega
        obtain ⟨u, hu⟩ : ∃ u, Hid (C[q]? = some u) := ⟨C[q]'(by rw [hN.out]; omega), List.getElem?_eq_getElem (by rw [hN.out]; omega)⟩
        obtain ⟨v, hv⟩ : ∃ v, Hid (C[m]? = some v) := ⟨C[m]'(by rw [hN.out]; omega), List.getElem?_eq_getElem (by rw [hN.out]; omega)⟩
        have hVr := hL1.out.keep hbr.out
        have hBr := hid_e (hB1.out.trans (hbr.out.mono hB1.out.size))
        obtain ⟨b, o, k1, x1, s1, an1, ln1, cn1, ai1, li1, ci1, ea, hlb, hc1, hv1⟩ := hVr.item hu.out
        obtain ⟨b', o', k2, x2, s2, an2, ln2, cn2, ai2, li2, ci2, ea', -, hc2, hv2⟩ := hVr.item hv.out
        subst ea
        cases ea'
        have call := hid_e (fun W (hW : Below wr.heap.size wr W) => rcompare_any u v _ _ W (VRep.keep (hBr.out.trans (hW.mono hBr.out.size)) _ _ hv1) (VRep.keep (hBr.out.trans (hW.mono hBr.out.size)) _ _ hv2) (SmallL.at hCs.out hu.out) (SmallL.at hCs.out hv.out))
        obtain ⟨y0, y1, y2, y3, y4⟩ := cells5 hc1
        obtain ⟨z0, z1, z2, z3, z4⟩ := cells5 hc2
        have wy := stay hBr.out hw1.out
        have hst : Hid (bestT sg C (q + 1) = if sg * cmpT u v < 0 then q else m) := by
          show _ = _
          rw [bestT_step hu.out (by rw [hm.out]; exact hv.out), hm.out]
        obtain ⟨D, hD⟩ : ∃ D, Hid (cmpT u v = D) := ⟨_, rfl⟩
        have hD3 : Hid (D = -1 ∨ D = 0 ∨ D = 1) := by rw [← hD.out]; exact cmpT_range u v
        rw [hD.out] at hst
        simp only [hD.out] at call
        obtain ⟨P, hPD⟩ : ∃ P, Hid (D * sg = P) := ⟨_, rfl⟩
        have hP1 : Hid (-1 ≤ P ∧ P ≤ 1 ∧ sg * D = P) := by
          rw [← hPD.out]
          rcases hs2.out with rfl | rfl <;> rcases hD3.out with rfl | rfl | rfl <;> exact hid_e (by decide)
        have hmul : Hid (IntKind.i64.wrap (D * sg) = P) := by rw [hPD.out]; exact wrap_in _ (by have := hP1.out.1; omega) (by have := hP1.out.2.1; omega)
        rw [hP1.out.2.2] at hst
        clear hVr hc1 hc2 hv1 hv2 hlb
        go_upto_region 10 with fail
        refine wp_region_quiet (C := fun w' => Below wr.heap.size wr w') (by kernel_rfl) (by kernel_rfl) (below_drewN (Below.refl _ _) 1) ?_
        with_reducible refine wpQuiet_step (fun K hK => ?_)
        refine ⟨.slice (some ⟨b, o, none⟩) N c1, fun w' hw' => ?_, ?_⟩
        · first | (go_simp; done) | (go_simp; decide) | (go_simp; omega)
        with_reducible refine hK _ ?_
        clear hK K
        simp only [Act.put, List.setIfInBounds_toArray, List.set_cons_zero, List.set_cons_succ]
        with_reducible refine wpQuiet_step (fun K hK => ?_)
        refine ⟨.int .i64 q, fun w' hw' => ?_, ?_⟩
        · first | (go_simp; done) | (go_simp; decide) | (go_simp; omega)
        with_reducible refine hK _ ?_
        clear hK K
        simp only [Act.put, List.setIfInBounds_toArray, List.set_cons_zero, List.set_cons_succ]
        with_reducible refine wpQuiet_step (fun K hK => ?_)
        refine ⟨.pointer (some ⟨b, o + q * 5, none⟩), fun w' hw' => ?_, ?_⟩
        · first | (go_simp; done) | (go_simp; decide) | (go_simp; omega)
        with_reducible refine hK _ ?_
        clear hK K
        simp only [Act.put, List.setIfInBounds_toArray, List.set_cons_zero, List.set_cons_succ]
        with_reducible refine wpQuiet_step (fun K hK => ?_)
        refine ⟨.agg #[.int .i64 k1, .int .i64 x1, .string s1, .slice an1 ln1 cn1, .slice ai1 li1 ci1], fun w' hw' => ?_, ?_⟩
        · have t0 := stay hw' y0
          have t1 := stay hw' y1
          have t2 := stay hw' y2
          have t3 := stay hw' y3
          have t4 := stay hw' y4
          go_simp
        with_reducible refine hK _ ?_
        clear hK K
        simp only [Act.put, List.setIfInBounds_toArray, List.set_cons_zero, List.set_cons_succ]
        with_reducible refine wpQuiet_step (fun K hK => ?_)
        refine ⟨.slice (some ⟨b, o, none⟩) N c1, fun w' hw' => ?_, ?_⟩
        · first | (go_simp; done) | (go_simp; decide) | (go_simp; omega)
        with_reducible refine hK _ ?_
        clear hK K
        simp only [Act.put, List.setIfInBounds_toArray, List.set_cons_zero, List.set_cons_succ]
        with_reducible refine wpQuiet_step (fun K hK => ?_)
        refine ⟨.int .i64 m, fun w' hw' => ?_, ?_⟩
        · first | (go_simp; done) | (go_simp; decide) | (go_simp; omega)
        with_reducible refine hK _ ?_
        clear hK K
        simp only [Act.put, List.setIfInBounds_toArray, List.set_cons_zero, List.set_cons_succ]
        with_reducible refine wpQuiet_step (fun K hK => ?_)
        refine ⟨.pointer (some ⟨b, o + m * 5, none⟩), fun w' hw' => ?_, ?_⟩
        · first | (go_simp; done) | (go_simp; decide) | (go_simp; omega)
        with_reducible refine hK _ ?_
        clear hK K
        simp only [Act.put, List.setIfInBounds_toArray, List.set_cons_zero, List.set_cons_succ]
        with_reducible refine wpQuiet_step (fun K hK => ?_)
        refine ⟨.agg #[.int .i64 k2, .int .i64 x2, .string s2, .slice an2 ln2 cn2, .slice ai2 li2 ci2], fun w' hw' => ?_, ?_⟩
        · have t0 := stay hw' z0
          have t1 := stay hw' z1
          have t2 := stay hw' z2
          have t3 := stay hw' z3
          have t4 := stay hw' z4
          go_simp
        with_reducible refine hK _ ?_
        clear hK K
        simp only [Act.put, List.setIfInBounds_toArray, List.set_cons_zero, List.set_cons_succ]
        with_reducible refine wpQuiet_step (fun K hK => ?_)
        refine ⟨.int .i64 D, fun w' hw' => ?_, ?_⟩
        · go_simp
          refine (call.out w' hw').mono ?_
          rintro e w'' ⟨rfl, hb'⟩
          exact ⟨rfl, hw'.trans (hb'.mono hw'.size)⟩
        with_reducible refine hK _ ?_
        clear hK K
        simp only [Act.put, List.setIfInBounds_toArray, List.set_cons_zero, List.set_cons_succ]
        with_reducible refine wpQuiet_step (fun K hK => ?_)
        refine ⟨.slice (some ⟨kb, ko, none⟩) kn kc, fun w' hw' => ?_, ?_⟩
        · first | (go_simp; done) | (go_simp; decide) | (go_simp; omega)
        with_reducible refine hK _ ?_
        clear hK K
        simp only [Act.put, List.setIfInBounds_toArray, List.set_cons_zero, List.set_cons_succ]
        with_reducible refine wpQuiet_step (fun K hK => ?_)
        refine ⟨.int .i64 p, fun w' hw' => ?_, ?_⟩
        · first | (go_simp; done) | (go_simp; decide) | (go_simp; omega)
        with_reducible refine hK _ ?_
        clear hK K
        simp only [Act.put, List.setIfInBounds_toArray, List.set_cons_zero, List.set_cons_succ]
        with_reducible refine wpQuiet_step (fun K hK => ?_)
        refine ⟨.pointer (some ⟨kb, ko + p * 2, none⟩), fun w' hw' => ?_, ?_⟩
        · first | (go_simp; done) | (go_simp; decide) | (go_simp; omega)
        with_reducible refine hK _ ?_
        clear hK K
        simp only [Act.put, List.setIfInBounds_toArray, List.set_cons_zero, List.set_cons_succ]
        with_reducible refine wpQuiet_step (fun K hK => ?_)
        refine ⟨.pointer (some ⟨kb, ko + p * 2 + 1, none⟩), fun w' hw' => ?_, ?_⟩
        · first | (go_simp; done) | (go_simp; decide) | (go_simp; omega)
        with_reducible refine hK _ ?_
        clear hK K
        simp only [Act.put, List.setIfInBounds_toArray, List.set_cons_zero, List.set_cons_succ]
        with_reducible refine wpQuiet_step (fun K hK => ?_)
        refine ⟨.int .i64 sg, fun w' hw' => ?_, ?_⟩
        · have t0 := stay hw' wy
          go_simp
        with_reducible refine hK _ ?_
        clear hK K
        simp only [Act.put, List.setIfInBounds_toArray, List.set_cons_zero, List.set_cons_succ]
        with_reducible refine wpQuiet_step (fun K hK => ?_)
        refine ⟨.int .i64 P, fun w' hw' => ?_, ?_⟩
        · have hw := hmul.out
          go_simp
          try exact hw
        with_reducible refine hK _ ?_
        clear hK K
        simp only [Act.put, List.setIfInBounds_toArray, List.set_cons_zero, List.set_cons_succ]
        by_cases hz : P < 0
        · have hst' : Hid (bestT sg C (q + 1) = q) := by rw [if_pos hz] at hst; exact hst
          with_reducible refine wpQuiet_step (fun K hK => ?_)
          refine ⟨.bool true, fun w' hw' => ?_, ?_⟩
          · first | (go_simp; done) | (go_simp; decide) | (go_simp; omega)
          with_reducible refine hK _ ?_
          clear hK K
          simp only [Act.put, List.setIfInBounds_toArray, List.set_cons_zero, List.set_cons_succ]
          refine wpQuiet_nil ?_
          intro X1 hX1
          have hb' := hid_e (hbr.out.trans (hX1.mono hbr.out.size))
          clear y0 y1 y2 y3 y4 z0 z1 z2 z3 z4 wy call hX1 hbr
          go_wp2_with fail
          exact ⟨⟨q + 1, q, by go_num, by go_num, by omega, by omega, hst', hb'⟩, by simp [intOf]; omega⟩
        · have hst' : Hid (bestT sg C (q + 1) = m) := by rw [if_neg hz] at hst; exact hst
          with_reducible refine wpQuiet_step (fun K hK => ?_)
          refine ⟨.bool false, fun w' hw' => ?_, ?_⟩
          · first | (go_simp; done) | (go_simp; decide) | (go_simp; omega)
          with_reducible refine hK _ ?_
          clear hK K
          simp only [Act.put, List.setIfInBounds_toArray, List.set_cons_zero, List.set_cons_succ]
          refine wpQuiet_nil ?_
          intro X1 hX1
          have hb' := hid_e (hbr.out.trans (hX1.mono hbr.out.size))
          clear y0 y1 y2 y3 y4 z0 z1 z2 z3 z4 wy call hX1 hbr
          go_wp2_with fail
          exact ⟨⟨q + 1, m, by go_num, by go_num, by omega, by omega, hst', hb'⟩, by simp [intOf]; omega⟩
      · obtain rfl : q = N := by omega
        have q1 : ¬ (q : Int) < (q : Int) := by omega
        have hml : m < q := by rw [← hm.out, ← hN.out]; exact bestT_lt _ C _ (by rw [hN.out]; exact Nat.le_refl _) (by rw [hN.out]; omega)
        have m1 : (m : Int) < (q : Int) := by omega
        have m0 : (0 : Int) ≤ (m : Int) := by omega
        obtain ⟨u, hu⟩ : ∃ u, Hid (C[m]? = some u) := ⟨C[m]'(by rw [hN.out]; omega), List.getElem?_eq_getElem (by rw [hN.out]; omega)⟩
        have hXr := hid_e (hX1.out.trans (hbr.out.mono hX1.out.size))
        have hBr := hid_e (hB1.out.trans (hbr.out.mono hB1.out.size))
        obtain ⟨b, o, k1, x1, s1, an1, ln1, cn1, ai1, li1, ci1, ea, hlb, hc1, hv1⟩ := (hL1.out.keep hbr.out).item hu.out
        subst ea
        obtain ⟨v0, v1, v2, v3, v4⟩ := cells5 hc1
        replace hv1 := hid_e hv1
        have g2 := hid_e (show wr.heap[w.heap.size + 1]? = some (.cells #[.int .i64 0, .int .i64 0, .string ⟨#[]⟩, .slice none 0 0, .slice none 0 0] 25) from by rw [hXr.out.block _ (by rw [hsz.out]; omega)]; exact n2.out)
        obtain ⟨z0, z1, z2, z3, z4, zf⟩ := row_cells g2.out
        have zf0 := zf 0; have zf1 := zf 1; have zf2 := zf 2; have zf3 := zf 3; have zf4 := zf 4
        have hr5 := put5_cells g2.out (.int .i64 k1) (.int .i64 x1) (.string s1) (.slice an1 ln1 cn1) (.slice ai1 li1 ci1)
        have r0 := hid_e (hr5 0); have r1 := hid_e (hr5 1); have r2 := hid_e (hr5 2); have r3 := hid_e (hr5 3); have r4 := hid_e (hr5 4)
        have hkey : Hid (keyL sg C = u) := by show _ = _; unfold keyL; rw [hN.out, hm.out, hu.out]
        clear hr5 hc1 hlb zf
        go_wp2_with fail
        have r0 := r0.out; have r1 := r1.out; have r2 := r2.out; have r3 := r3.out; have r4 := r4.out
        refine bodyPost_ret (v := .agg #[.int .i64 k1, .int .i64 x1, .string s1, .slice an1 ln1 cn1, .slice ai1 li1 ci1]) (by simp [results, Tryz.results20, go_sem, r0, r1, r2, r3, r4]) rfl ?_
        rw [hkey.out]
        have hBf := hBr.out.trans (put5_below (w := wr) (g := w.heap.size + 1) (B := w.heap.size) (by omega) (.int .i64 k1) (.int .i64 x1) (.string s1) (.slice an1 ln1 cn1) (.slice ai1 li1 ci1))
        exact ⟨k1, x1, s1, an1, ln1, cn1, ai1, li1, ci1, rfl, VRep.keep hBf _ _ hv1.out, hBf⟩
end Go.Proofs.YtgigikcopedoeaaGreat.Tree
