import Derived.Test.YtkgcmcpakilacaaGreatTB
/-! ShapeTotal: the walk. -/
namespace Go.Proofs.YtkgcmcpakilacaaGreat.Tree
open Go Go.RowKit Go.Stab

/-- Two documents of a list: where they lie. -/
theorem docs_two {w : World} {a : Option Addr} {ds : List Dc} (h : DocsAt w a ds) {i : Nat} {d : Dc} (hd : ds[i]? = some d) : ∃ b o, a = some ⟨b, o, none⟩ ∧ ∀ j e, ds[j]? = some e → CellsAt w b (o + j * 7) e.cells := by
  obtain ⟨b, o, e, -⟩ := h i d hd
  refine ⟨b, o, e, fun j e' hj => ?_⟩
  obtain ⟨b', o', e'', hc⟩ := h j e' hj
  rw [e] at e''
  cases e''
  exact hc
def IdsP (ds : List Dc) (q : Nat) : Prop := ∀ (i j : Nat) (x y : Dc), i < q → j < i → ds[i]? = some x → ds[j]? = some y → x.id ≠ y.id
theorem IdsP.all {ds : List Dc} (h : IdsP ds ds.length) : IdsN ds := fun i j x y hi hj e => by
  have h1 := (List.getElem?_eq_some_iff.1 hi).1
  have h2 := (List.getElem?_eq_some_iff.1 hj).1
  rcases Nat.lt_trichotomy i j with h' | h' | h'
  · exact absurd e.symm (h j i y x h2 h' hj hi)
  · exact h'
  · exact absurd e (h i j x y h1 h' hi hj)
theorem no_step {ds : List Dc} {p : Nat} {d1 d2 : Dc} (h : ∀ (j : Nat) (y : Dc), j < p → ds[j]? = some y → d1.id ≠ y.id) (hd : ds[p]? = some d2) (he : d1.id ≠ d2.id) : ∀ (j : Nat) (y : Dc), j < p + 1 → ds[j]? = some y → d1.id ≠ y.id := fun j y hj hy => by
  rcases Nat.lt_or_ge j p with h' | h'
  · exact h j y h' hy
  · obtain rfl : j = p := by omega
    rw [hd] at hy
    cases hy
    exact he
theorem IdsP.step {ds : List Dc} {p : Nat} {d1 : Dc} (h : IdsP ds p) (hd : ds[p]? = some d1) (hno : ∀ (j : Nat) (y : Dc), j < p → ds[j]? = some y → d1.id ≠ y.id) : IdsP ds (p + 1) := fun i j x y hi hj hx hy => by
  rcases Nat.lt_or_ge i p with h' | h'
  · exact h i j x y h' hj hx hy
  · obtain rfl : i = p := by omega
    rw [hd] at hx
    cases hx
    exact hno j y hj hy
theorem rev_at {ds : List Dc} {p n : Nat} (hn : ds.length = n) (hp : p < n) : ds.reverse[p]? = ds[n - 1 - p]? := by
  rw [List.getElem?_reverse (by omega), hn]
theorem rev_ids {ds : List Dc} : ds.Perm ds.reverse := (List.reverse_perm ds).symm

set_option maxHeartbeats 16000000 in
set_option maxRecDepth 100000 in
theorem total_true (k1 x1 : Int) (s1 : ByteArray) (an1 : Option Addr) (ln1 cn1 : Nat) (ai1 : Option Addr) (li1 ci1 : Nat) (V : Tr) (a : Option Addr) (c n : Nat) (ds : List Dc) (w : World) (hV : Hid (VRep w V (five k1 x1 s1 (.slice an1 ln1 cn1) (.slice ai1 li1 ci1)))) (hsV : Hid (SmallT V)) (hn : Hid (ds.length = n)) (hnn : n ≤ 4611686018427387904) (hD : Hid (DocsAt w a ds)) (hR : Hid (Reads' w ds)) (hSd : Hid (∀ d ∈ ds, SmallT d.t)) :
    Calls Tryz.prog 7 #[.agg #[.int .i64 k1, .int .i64 x1, .string s1, .slice an1 ln1 cn1, .slice ai1 li1 ci1], .slice a n c] w fun e w' => e = .returned (.bool true) ∧ Below w.heap.size w w' := by
  obtain ⟨W1, hW1⟩ : ∃ W1, Hid (w.alloc (.cells #[.int .i64 k1, .int .i64 x1, .string s1, .slice an1 ln1 cn1, .slice ai1 li1 ci1] 25) = W1) := ⟨_, rfl⟩
  have hT1 : Bx1 w #[.int .i64 k1, .int .i64 x1, .string s1, .slice an1 ln1 cn1, .slice ai1 li1 ci1] W1 := by rw [← hW1.out]; exact ⟨(Below.refl _ w).alloc (Nat.le_refl _) _, heap_alloc_new w _⟩
  obtain ⟨cx0, cx1, cx2, cx3, cx4, -⟩ := row_cells hT1.box1
  have hb2 : Below W1.heap.size W1 (W1.alloc (.cells #[.int .i64 k1, .int .i64 x1, .string s1, .slice an1 ln1 cn1, .slice ai1 li1 ci1] 25)) := (Below.refl _ W1).alloc (Nat.le_refl _) _
  have hT2 := hT1.keep hb2
  have hcell : ∀ j, (W1.alloc (.cells #[.int .i64 k1, .int .i64 x1, .string s1, .slice an1 ln1 cn1, .slice ai1 li1 ci1] 25)).cell? ⟨W1.heap.size, j, none⟩ = (#[.int .i64 k1, .int .i64 x1, .string s1, .slice an1 ln1 cn1, .slice ai1 li1 ci1] : Array Value)[j]? := fun j => by unfold World.cell?; rw [heap_alloc_new W1 (.cells #[.int .i64 k1, .int .i64 x1, .string s1, .slice an1 ln1 cn1, .slice ai1 li1 ci1] 25)]; rfl
  have call1 := hid_e (large_any (some ⟨W1.heap.size, 0, none⟩) 1 1 [V] (W1.alloc (.cells #[.int .i64 k1, .int .i64 x1, .string s1, .slice an1 ln1 cn1, .slice ai1 li1 ci1] 25)) rfl (by omega) ⟨⟨Nat.le_refl _, by omega⟩, .inr ⟨W1.heap.size, 0, rfl, by simp, by
    unfold VRepL VRepL
    refine ⟨(five k1 x1 s1 (.slice an1 ln1 cn1) (.slice ai1 li1 ci1)), fun j u hj => ?_, VRep.keep hT2.below _ _ hV.out, trivial⟩
    rw [hcell]
    have hj5 := (List.getElem?_eq_some_iff.1 hj).1
    simp only [five, List.length_cons, List.length_nil] at hj5
    match j, hj5 with
    | 0, _ => exact hj
    | 1, _ => exact hj
    | 2, _ => exact hj
    | 3, _ => exact hj
    | 4, _ => exact hj⟩⟩)
  replace hT2 := hid_e hT2
  clear hcell hb2 hT1
  go_enter Tryz.func7, Tryz.ntmps7
  go_wp2_with (first | rw [hW1.out] | fail)
  refine call1.out.mono ?_
  rintro e W2 ⟨⟨z, rfl, -⟩, hb3⟩
  have hT := hT2.out.keep hb3
  clear call1 hb3 hT2 cx0 cx1 cx2 cx3 cx4
  cases z with
  | true =>
    go_wp2_with fail
    refine (live_a _).mono ?_
    rintro e w9 ⟨rfl, hb9⟩
    replace hb9 := hid_e hb9
    go_wp2_with fail
    go_ret
    exact ⟨rfl, (hT.below).trans (hb9.out.mono (hT.below).size)⟩
  | false =>
    have call2 := hid_e (many_exact a c n ds W2 hn.out hnn (hD.out.keep hT.below) (hR.out.keep hT.below) hSd.out)
    go_wp2_with fail
    refine call2.out.mono ?_
    rintro e W3 ⟨⟨z, rfl, hz⟩, hb3⟩
    replace hT := hT.keep hb3
    clear call2 hb3
    cases z with
    | true =>
      clear hz
      go_wp2_with fail
      refine (live_a _).mono ?_
      rintro e w9 ⟨rfl, hb9⟩
      replace hb9 := hid_e hb9
      go_wp2_with fail
      go_ret
      exact ⟨rfl, (hT.below).trans (hb9.out.mono (hT.below).size)⟩
    | false =>
      obtain ⟨h150, hparts⟩ := hz rfl
      clear hz hnn
      replace hparts := hid_e hparts
      by_cases h30 : 30 < n
      · have h30' : (30 : Int) < (n : Int) := by omega
        go_wp2_with fail
        refine (live_a _).mono ?_
        rintro e w9 ⟨rfl, hb9⟩
        replace hb9 := hid_e hb9
        go_wp2_with fail
        go_ret
        exact ⟨rfl, (hT.below).trans (hb9.out.mono (hT.below).size)⟩
      have h30' : ¬ (30 : Int) < (n : Int) := by omega
      have n30 : (n : Int) ≤ 30 := by omega
      have n0 : (0 : Int) ≤ (n : Int) := by omega
      have hD3 : Hid (DocsAt W3 a ds) := hD.out.keep hT.below
      replace hT := hid_e hT
      go_wp2_with fail
      go_loopw [5, 6] (fun iv _ wr => ∃ (q : Nat), iv = .int .i64 q ∧ q ≤ n ∧ Hid (IdsP ds q) ∧ Hid (Below W3.heap.size W3 wr)) (fun iv _ _ => n - (intOf iv).toNat)
      case atStart => exact ⟨0, rfl, Nat.zero_le _, (fun i j x y h => by omega), Below.refl _ _⟩
      case round =>
        obtain ⟨q, rfl, hq, hids, hb⟩ := hrel
        have q0 : (0 : Int) ≤ (q : Int) := by omega
        have q2 : (q : Int) ≤ 30 := by omega
        by_cases hlt : q < n
        · skip
          have q1 : (q : Int) < (n : Int) := by omega
          obtain ⟨d1, hd1⟩ : ∃ d, Hid (ds[q]? = some d) := ⟨ds[q]'(by rw [hn.out]; omega), List.getElem?_eq_getElem (by rw [hn.out]; omega)⟩
          obtain ⟨b, o, ea, hcs⟩ := docs_two hD3.out hd1.out
          subst ea
          replace hcs := hid_e hcs
          go_wp2_with fail
          obtain ⟨wo, hwo⟩ : ∃ wo, wo = wr := ⟨_, rfl⟩
          subst hwo
          go_loopw [6] (fun kv wr => ∃ (p : Nat), kv = .int .i64 p ∧ p ≤ q ∧ Hid (∀ (j : Nat) (y : Dc), j < p → ds[j]? = some y → d1.id ≠ y.id) ∧ Hid (Below W3.heap.size W3 wr)) (fun kv _ => q - (intOf kv).toNat)
          case atStart => exact ⟨0, rfl, Nat.zero_le _, (fun j y h => by omega), hb⟩
          case round =>
            clear hb
            obtain ⟨p, rfl, hp, hno, hb⟩ := hrel
            have p0 : (0 : Int) ≤ (p : Int) := by omega
            have p2 : (p : Int) ≤ 30 := by omega
            by_cases hpq : p < q
            · skip
              have p1 : (p : Int) < (q : Int) := by omega
              have p3 : (p : Int) < (n : Int) := by omega
              obtain ⟨d2, hd2⟩ : ∃ d, Hid (ds[p]? = some d) := ⟨ds[p]'(by rw [hn.out]; omega), List.getElem?_eq_getElem (by rw [hn.out]; omega)⟩
              have x0 : wr.cell? ⟨b, o + q * 7, none⟩ = some (.string d1.id) := stay hb.out (hcs.out q d1 hd1.out 0 _ rfl)
              have y0 : wr.cell? ⟨b, o + p * 7, none⟩ = some (.string d2.id) := stay hb.out (hcs.out p d2 hd2.out 0 _ rfl)
              have hT9 : Hid (Below w.heap.size w wr) := hT.out.below.trans (hb.out.mono hT.out.below.size)
              by_cases he : d1.id = d2.id
              · skip
                have hbe : (d1.id.toList == d2.id.toList) = true := by rw [he]; simp
                clear he
                go_upto_region 9 with fail
                refine wp_region_quiet (C := fun w' => Below wr.heap.size wr w') (by kernel_rfl) (by kernel_rfl) (below_drewN (Below.refl _ _) 1) ?_
                with_reducible refine wpQuiet_step (fun K hK => ?_)
                refine ⟨.slice (some ⟨b, o, none⟩) n c, fun w' hw' => ?_, ?_⟩
                · first | (go_simp; done) | (go_simp; decide) | (go_simp; omega)
                with_reducible refine hK _ ?_
                clear hK K
                simp only [Act.put, List.setIfInBounds_toArray, List.set_cons_zero, List.set_cons_succ]
                with_reducible refine wpQuiet_step (fun K hK => ?_)
                refine ⟨.int .i64 q, fun w' hw' => ?_, ?_⟩
                · first | (go_simp; done) | (go_simp; decide) | (go_simp; omega)
                with_reducible refine hK _ ?_
                clear hK K
                simp only [Act.put, List.setIfInBounds_toArray, List.set_cons_zero, List.set_cons_succ]
                with_reducible refine wpQuiet_step (fun K hK => ?_)
                refine ⟨.pointer (some ⟨b, o + q * 7, none⟩), fun w' hw' => ?_, ?_⟩
                · first | (go_simp; done) | (go_simp; decide) | (go_simp; omega)
                with_reducible refine hK _ ?_
                clear hK K
                simp only [Act.put, List.setIfInBounds_toArray, List.set_cons_zero, List.set_cons_succ]
                with_reducible refine wpQuiet_step (fun K hK => ?_)
                refine ⟨.pointer (some ⟨b, o + q * 7, none⟩), fun w' hw' => ?_, ?_⟩
                · first | (go_simp; done) | (go_simp; decide) | (go_simp; omega)
                with_reducible refine hK _ ?_
                clear hK K
                simp only [Act.put, List.setIfInBounds_toArray, List.set_cons_zero, List.set_cons_succ]
                with_reducible refine wpQuiet_step (fun K hK => ?_)
                refine ⟨.string d1.id, fun w' hw' => ?_, ?_⟩
                · have t0 := stay hw' x0; go_simp
                with_reducible refine hK _ ?_
                clear hK K
                simp only [Act.put, List.setIfInBounds_toArray, List.set_cons_zero, List.set_cons_succ]
                with_reducible refine wpQuiet_step (fun K hK => ?_)
                refine ⟨.slice (some ⟨b, o, none⟩) n c, fun w' hw' => ?_, ?_⟩
                · first | (go_simp; done) | (go_simp; decide) | (go_simp; omega)
                with_reducible refine hK _ ?_
                clear hK K
                simp only [Act.put, List.setIfInBounds_toArray, List.set_cons_zero, List.set_cons_succ]
                with_reducible refine wpQuiet_step (fun K hK => ?_)
                refine ⟨.int .i64 p, fun w' hw' => ?_, ?_⟩
                · first | (go_simp; done) | (go_simp; decide) | (go_simp; omega)
                with_reducible refine hK _ ?_
                clear hK K
                simp only [Act.put, List.setIfInBounds_toArray, List.set_cons_zero, List.set_cons_succ]
                with_reducible refine wpQuiet_step (fun K hK => ?_)
                refine ⟨.pointer (some ⟨b, o + p * 7, none⟩), fun w' hw' => ?_, ?_⟩
                · first | (go_simp; done) | (go_simp; decide) | (go_simp; omega)
                with_reducible refine hK _ ?_
                clear hK K
                simp only [Act.put, List.setIfInBounds_toArray, List.set_cons_zero, List.set_cons_succ]
                with_reducible refine wpQuiet_step (fun K hK => ?_)
                refine ⟨.pointer (some ⟨b, o + p * 7, none⟩), fun w' hw' => ?_, ?_⟩
                · first | (go_simp; done) | (go_simp; decide) | (go_simp; omega)
                with_reducible refine hK _ ?_
                clear hK K
                simp only [Act.put, List.setIfInBounds_toArray, List.set_cons_zero, List.set_cons_succ]
                with_reducible refine wpQuiet_step (fun K hK => ?_)
                refine ⟨.string d2.id, fun w' hw' => ?_, ?_⟩
                · have t0 := stay hw' y0; go_simp
                with_reducible refine hK _ ?_
                clear hK K
                simp only [Act.put, List.setIfInBounds_toArray, List.set_cons_zero, List.set_cons_succ]
                with_reducible refine wpQuiet_step (fun K hK => ?_)
                refine ⟨.bool true, fun w' hw' => ?_, ?_⟩
                · first | (go_simp; done) | (go_simp; decide) | (go_simp; omega)
                with_reducible refine hK _ ?_
                clear hK K
                simp only [Act.put, List.setIfInBounds_toArray, List.set_cons_zero, List.set_cons_succ]
                refine wpQuiet_nil ?_
                intro X1 hX1
                have hT8 : Hid (Below w.heap.size w X1) := hT9.out.trans (hX1.mono hT9.out.size)
                clear x0 y0 hX1 hb
                go_wp2_with fail
                refine (live_a _).mono ?_
                rintro e w9 ⟨rfl, hb9⟩
                replace hb9 := hid_e hb9
                go_wp2_with fail
                go_ret
                exact ⟨rfl, (hT8.out).trans (hb9.out.mono (hT8.out).size)⟩
              · skip
                have hbe := id_ne he
                have hno' : Hid (∀ (j : Nat) (y : Dc), j < p + 1 → ds[j]? = some y → d1.id ≠ y.id) := no_step hno.out hd2.out he
                clear he hno
                go_upto_region 9 with fail
                refine wp_region_quiet (C := fun w' => Below wr.heap.size wr w') (by kernel_rfl) (by kernel_rfl) (below_drewN (Below.refl _ _) 1) ?_
                with_reducible refine wpQuiet_step (fun K hK => ?_)
                refine ⟨.slice (some ⟨b, o, none⟩) n c, fun w' hw' => ?_, ?_⟩
                · first | (go_simp; done) | (go_simp; decide) | (go_simp; omega)
                with_reducible refine hK _ ?_
                clear hK K
                simp only [Act.put, List.setIfInBounds_toArray, List.set_cons_zero, List.set_cons_succ]
                with_reducible refine wpQuiet_step (fun K hK => ?_)
                refine ⟨.int .i64 q, fun w' hw' => ?_, ?_⟩
                · first | (go_simp; done) | (go_simp; decide) | (go_simp; omega)
                with_reducible refine hK _ ?_
                clear hK K
                simp only [Act.put, List.setIfInBounds_toArray, List.set_cons_zero, List.set_cons_succ]
                with_reducible refine wpQuiet_step (fun K hK => ?_)
                refine ⟨.pointer (some ⟨b, o + q * 7, none⟩), fun w' hw' => ?_, ?_⟩
                · first | (go_simp; done) | (go_simp; decide) | (go_simp; omega)
                with_reducible refine hK _ ?_
                clear hK K
                simp only [Act.put, List.setIfInBounds_toArray, List.set_cons_zero, List.set_cons_succ]
                with_reducible refine wpQuiet_step (fun K hK => ?_)
                refine ⟨.pointer (some ⟨b, o + q * 7, none⟩), fun w' hw' => ?_, ?_⟩
                · first | (go_simp; done) | (go_simp; decide) | (go_simp; omega)
                with_reducible refine hK _ ?_
                clear hK K
                simp only [Act.put, List.setIfInBounds_toArray, List.set_cons_zero, List.set_cons_succ]
                with_reducible refine wpQuiet_step (fun K hK => ?_)
                refine ⟨.string d1.id, fun w' hw' => ?_, ?_⟩
                · have t0 := stay hw' x0; go_simp
                with_reducible refine hK _ ?_
                clear hK K
                simp only [Act.put, List.setIfInBounds_toArray, List.set_cons_zero, List.set_cons_succ]
                with_reducible refine wpQuiet_step (fun K hK => ?_)
                refine ⟨.slice (some ⟨b, o, none⟩) n c, fun w' hw' => ?_, ?_⟩
                · first | (go_simp; done) | (go_simp; decide) | (go_simp; omega)
                with_reducible refine hK _ ?_
                clear hK K
                simp only [Act.put, List.setIfInBounds_toArray, List.set_cons_zero, List.set_cons_succ]
                with_reducible refine wpQuiet_step (fun K hK => ?_)
                refine ⟨.int .i64 p, fun w' hw' => ?_, ?_⟩
                · first | (go_simp; done) | (go_simp; decide) | (go_simp; omega)
                with_reducible refine hK _ ?_
                clear hK K
                simp only [Act.put, List.setIfInBounds_toArray, List.set_cons_zero, List.set_cons_succ]
                with_reducible refine wpQuiet_step (fun K hK => ?_)
                refine ⟨.pointer (some ⟨b, o + p * 7, none⟩), fun w' hw' => ?_, ?_⟩
                · first | (go_simp; done) | (go_simp; decide) | (go_simp; omega)
                with_reducible refine hK _ ?_
                clear hK K
                simp only [Act.put, List.setIfInBounds_toArray, List.set_cons_zero, List.set_cons_succ]
                with_reducible refine wpQuiet_step (fun K hK => ?_)
                refine ⟨.pointer (some ⟨b, o + p * 7, none⟩), fun w' hw' => ?_, ?_⟩
                · first | (go_simp; done) | (go_simp; decide) | (go_simp; omega)
                with_reducible refine hK _ ?_
                clear hK K
                simp only [Act.put, List.setIfInBounds_toArray, List.set_cons_zero, List.set_cons_succ]
                with_reducible refine wpQuiet_step (fun K hK => ?_)
                refine ⟨.string d2.id, fun w' hw' => ?_, ?_⟩
                · have t0 := stay hw' y0; go_simp
                with_reducible refine hK _ ?_
                clear hK K
                simp only [Act.put, List.setIfInBounds_toArray, List.set_cons_zero, List.set_cons_succ]
                with_reducible refine wpQuiet_step (fun K hK => ?_)
                refine ⟨.bool false, fun w' hw' => ?_, ?_⟩
                · first | (go_simp; done) | (go_simp; decide) | (go_simp; omega)
                with_reducible refine hK _ ?_
                clear hK K
                simp only [Act.put, List.setIfInBounds_toArray, List.set_cons_zero, List.set_cons_succ]
                refine wpQuiet_nil ?_
                intro X1 hX1
                have hb' := hid_e (hb.out.trans (hX1.mono hb.out.size))
                clear x0 y0 hX1 hb hT9
                go_wp2_with fail
                exact ⟨⟨p + 1, by go_num, by omega, hno', hb'⟩, by simp [intOf]; omega⟩
            · skip
              obtain rfl : p = q := by omega
              have p1 : ¬ (p : Int) < (p : Int) := by omega
              have hids' : Hid (IdsP ds (p + 1)) := hids.out.step hd1.out hno.out
              clear hno hids
              go_wp2_with fail
              exact ⟨⟨p + 1, by go_num, by omega, hids', hb⟩, by simp [intOf]; omega⟩
        · skip
          obtain rfl : q = n := by omega
          have q1 : ¬ (q : Int) < (q : Int) := by omega
          have hI : Hid (IdsN ds) := IdsP.all (by rw [hn.out]; exact hids.out)
          clear hids hq hlt q2
          have hT := hT.out.keep hb.out
          clear hb hD3
          have call := hid_e (psort_v V k1 x1 s1 an1 ln1 cn1 ai1 li1 ci1 wr (VRep.keep hT.below _ _ hV.out) hsV.out)
          obtain ⟨cx0, cx1, cx2, cx3, cx4, -⟩ := row_cells hT.box1
          go_wp2_with fail
          refine call.out.mono ?_
          rintro e W4 ⟨hb, h4⟩
          clear call cx0 cx1 cx2 cx3 cx4
          replace hT := hT.keep hb
          clear hb
          have call := hid_e (rpsort_v V k1 x1 s1 an1 ln1 cn1 ai1 li1 ci1 W4 (VRep.keep hT.below _ _ hV.out) hsV.out)
          have hpo := hid_e (parseS_ok hsV.out)
          obtain ⟨⟨rc, ts⟩, hPS⟩ : ∃ R, Hid (parseS V = R) := ⟨_, rfl⟩
          rw [hPS.out] at h4 call hpo
          clear hPS
          simp only at h4 hpo
          rcases h4 with ⟨rfl, sb, rfl, hsort⟩ | ⟨hne, rfl⟩
          rotate_left
          · skip
            obtain ⟨c0, c1, c2, c3, c4, -⟩ := row_cells hT.box1
            go_wp2_with fail
            refine call.out.mono ?_
            rintro e W5 ⟨hb, h5⟩
            clear call c0 c1 c2 c3 c4
            simp only at h5
            obtain rfl : e = .returned (.tuple #[.slice none 0 0, .int .i64 rc]) := by rcases h5 with ⟨h, -⟩ | ⟨-, h⟩; exact absurd h hne; exact h
            clear h5
            replace hT := hT.keep hb
            clear hb
            have e2 : (rc != 0) = true := by simpa using hne
            clear hne
            go_wp2_with fail
            refine (live_a _).mono ?_
            rintro e w9 ⟨rfl, hb9⟩
            replace hb9 := hid_e hb9
            go_wp2_with fail
            go_ret
            exact ⟨rfl, (hT.below).trans (hb9.out.mono (hT.below).size)⟩
          obtain ⟨c0, c1, c2, c3, c4, -⟩ := row_cells hT.box1
          go_wp2_with fail
          refine call.out.mono ?_
          rintro e W5 ⟨hb, h5⟩
          clear call c0 c1 c2 c3 c4
          simp only at h5
          obtain ⟨ka, kc, rfl, hkeys⟩ : ∃ a c, e = .returned (.tuple #[.slice a ts.length c, .int .i64 0]) ∧ KeysAt wayE W5 a ts := by rcases h5 with ⟨-, h⟩ | ⟨h, -⟩; exact h; exact absurd rfl h
          replace hsort := hid_e (hsort.keep hb)
          clear hkeys
          clear h5
          replace hT := hT.keep hb
          clear hb
          obtain ⟨tm, htm⟩ : ∃ tm, Hid (ts.length = tm) := ⟨_, rfl⟩
          rw [htm.out]
          obtain ⟨sa, sc, hs0, hsk⟩ := hsort.out.keys
          rw [htm.out] at hs0
          replace hs0 := hid_e hs0
          replace hsk := hid_e hsk
          clear hsort
          have htm8 : tm ≤ 1000 := by have := hpo.out.2; rw [htm.out] at this; omega
          have hD7 : Hid (DocsAt W5 a ds) := hD.out.keep hT.below
          have hR7 : Hid (Reads' W5 ds) := hR.out.keep hT.below
          have hP7 : Hid (∀ d ∈ ds, partsT d.t ≤ 1000000) := fun d hd => Nat.le_trans (hparts.out d hd) (by decide)
          have hb7 : Hid (Below w.heap.size w W5) := hT.below
          clear hT hparts
          have cmp := hid_e (fun x (hx : x ∈ ds) y (hy : y ∈ ds) W (hW : Below W5.heap.size W5 W) => scompare_any ts tm sb sc sa x y W5 W hW htm.out htm8 hs0.out hsk.out hpo.out.1 (hR7.out x hx) (hP7.out x hx) (hSd.out x hx) (hR7.out y hy) (hP7.out y hy) (hSd.out y hy))
          unfold Dc.cells at cmp
          obtain ⟨n, hnq⟩ : ∃ n, n = q := ⟨_, rfl⟩
          subst hnq
          go_wp2_with (go_at_call 20; refine (num6 _ _).mono ?_; rintro e w9 ⟨rfl, hw9⟩; have hw8 := hw9.symm; clear hw9; subst hw8)
          go_loopw [11, 12, 13, 14] (fun iv _ _ _ wr => ∃ (q : Nat), iv = .int .i64 q ∧ q ≤ n ∧ Hid (Below W5.heap.size W5 wr)) (fun iv _ _ _ _ => n - (intOf iv).toNat)
          case atStart => exact ⟨0, rfl, Nat.zero_le _, Below.refl _ _⟩
          case round =>
            obtain ⟨q, rfl, hq, hb⟩ := hrel
            have q0 : (0 : Int) ≤ (q : Int) := by omega
            have q2 : (q : Int) ≤ 30 := by omega
            by_cases hlt : q < n
            · skip
              have q1 : (q : Int) < (n : Int) := by omega
              obtain ⟨d1, hd1⟩ : ∃ d, Hid (ds[q]? = some d) := ⟨ds[q]'(by rw [hn.out]; omega), List.getElem?_eq_getElem (by rw [hn.out]; omega)⟩
              obtain ⟨b, o, ea, hcs⟩ := docs_two hD7.out hd1.out
              subst ea
              replace hcs := hid_e hcs
              go_wp2_with fail
              obtain ⟨wo, hwo⟩ : ∃ wo, wo = wr := ⟨_, rfl⟩
              subst hwo
              go_loopw [12, 13, 14] (fun kv _ _ wr => ∃ (p : Nat), kv = .int .i64 p ∧ p ≤ n ∧ Hid (Below W5.heap.size W5 wr)) (fun kv _ _ _ => n - (intOf kv).toNat)
              case atStart => exact ⟨0, rfl, Nat.zero_le _, hb⟩
              case round =>
                clear hb
                obtain ⟨p, rfl, hp, hb⟩ := hrel
                have p0 : (0 : Int) ≤ (p : Int) := by omega
                have p2 : (p : Int) ≤ 30 := by omega
                by_cases hpn : p < n
                · skip
                  have p1 : (p : Int) < (n : Int) := by omega
                  obtain ⟨d2, hd2⟩ : ∃ d, Hid (ds[p]? = some d) := ⟨ds[p]'(by rw [hn.out]; omega), List.getElem?_eq_getElem (by rw [hn.out]; omega)⟩
                  have x0 : wr.cell? ⟨b, o + q * 7, none⟩ = some (.string d1.id) := stay hb.out (hcs.out q d1 hd1.out 0 _ rfl)
                  have x1 : wr.cell? ⟨b, o + q * 7 + 1, none⟩ = some (.int .i64 d1.ver) := stay hb.out (hcs.out q d1 hd1.out 1 _ rfl)
                  have x2 : wr.cell? ⟨b, o + q * 7 + 2, none⟩ = some (.int .i64 d1.k) := stay hb.out (hcs.out q d1 hd1.out 2 _ rfl)
                  have x3 : wr.cell? ⟨b, o + q * 7 + 3, none⟩ = some (.int .i64 d1.x) := stay hb.out (hcs.out q d1 hd1.out 3 _ rfl)
                  have x4 : wr.cell? ⟨b, o + q * 7 + 4, none⟩ = some (.string d1.s) := stay hb.out (hcs.out q d1 hd1.out 4 _ rfl)
                  have x5 : wr.cell? ⟨b, o + q * 7 + 5, none⟩ = some (.slice d1.an d1.ln d1.cn) := stay hb.out (hcs.out q d1 hd1.out 5 _ rfl)
                  have x6 : wr.cell? ⟨b, o + q * 7 + 6, none⟩ = some (.slice d1.ai d1.li d1.ci) := stay hb.out (hcs.out q d1 hd1.out 6 _ rfl)
                  have y0 : wr.cell? ⟨b, o + p * 7, none⟩ = some (.string d2.id) := stay hb.out (hcs.out p d2 hd2.out 0 _ rfl)
                  have y1 : wr.cell? ⟨b, o + p * 7 + 1, none⟩ = some (.int .i64 d2.ver) := stay hb.out (hcs.out p d2 hd2.out 1 _ rfl)
                  have y2 : wr.cell? ⟨b, o + p * 7 + 2, none⟩ = some (.int .i64 d2.k) := stay hb.out (hcs.out p d2 hd2.out 2 _ rfl)
                  have y3 : wr.cell? ⟨b, o + p * 7 + 3, none⟩ = some (.int .i64 d2.x) := stay hb.out (hcs.out p d2 hd2.out 3 _ rfl)
                  have y4 : wr.cell? ⟨b, o + p * 7 + 4, none⟩ = some (.string d2.s) := stay hb.out (hcs.out p d2 hd2.out 4 _ rfl)
                  have y5 : wr.cell? ⟨b, o + p * 7 + 5, none⟩ = some (.slice d2.an d2.ln d2.cn) := stay hb.out (hcs.out p d2 hd2.out 5 _ rfl)
                  have y6 : wr.cell? ⟨b, o + p * 7 + 6, none⟩ = some (.slice d2.ai d2.li d2.ci) := stay hb.out (hcs.out p d2 hd2.out 6 _ rfl)
                  have m1 := List.mem_of_getElem? hd1.out
                  have m2 := List.mem_of_getElem? hd2.out
                  obtain ⟨C, hC⟩ : ∃ C, Hid (cnK ts d1 d2 = C) := ⟨_, rfl⟩
                  have call12 := hid_e (fun W (hW : Below W5.heap.size W5 W) => cmp.out d1 m1 d2 m2 W hW)
                  rw [hC.out] at call12
                  have call21 := hid_e (fun W (hW : Below W5.heap.size W5 W) => cmp.out d2 m2 d1 m1 W hW)
                  rw [(preK ts).anti d2 d1, hC.out] at call21
                  have hCr : C = -1 ∨ C = 0 ∨ C = 1 := by rw [← hC.out]; exact cnK_range ts d1 d2
                  have hCz : Hid ((C == 0) = decide ((q : Int) = (p : Int))) := by
                    show _ = _
                    by_cases e : q = p
                    · subst e
                      have e2 : d1 = d2 := by have h := hd1.out; rw [hd2.out] at h; cases h; rfl
                      subst e2
                      rw [← hC.out, cnK_self]; simp
                    · have : C ≠ 0 := fun h => e (hI.out q p d1 d2 hd1.out hd2.out (cnK_zero (hC.out.trans h)))
                      rw [decide_eq_false (by omega)]; simpa using this
                  have hneg : Hid (IntKind.i64.wrap C = C) := wrap_in _ (by omega) (by omega)
                  go_upto_region 23 with fail
                  refine wp_region_quiet (C := fun w' => Below wr.heap.size wr w') (by kernel_rfl) (by kernel_rfl) (below_drewN (Below.refl _ _) 1) ?_
                  with_reducible refine wpQuiet_step (fun K hK => ?_)
                  refine ⟨.pointer (some ⟨sb, 0, none⟩), fun w' hw' => ?_, ?_⟩
                  · first | (go_simp; done) | (go_simp; decide) | (go_simp; omega)
                  with_reducible refine hK _ ?_
                  clear hK K
                  simp only [Act.put, List.setIfInBounds_toArray, List.set_cons_zero, List.set_cons_succ]
                  with_reducible refine wpQuiet_step (fun K hK => ?_)
                  refine ⟨.slice (some ⟨b, o, none⟩) n c, fun w' hw' => ?_, ?_⟩
                  · first | (go_simp; done) | (go_simp; decide) | (go_simp; omega)
                  with_reducible refine hK _ ?_
                  clear hK K
                  simp only [Act.put, List.setIfInBounds_toArray, List.set_cons_zero, List.set_cons_succ]
                  with_reducible refine wpQuiet_step (fun K hK => ?_)
                  refine ⟨.int .i64 q, fun w' hw' => ?_, ?_⟩
                  · first | (go_simp; done) | (go_simp; decide) | (go_simp; omega)
                  with_reducible refine hK _ ?_
                  clear hK K
                  simp only [Act.put, List.setIfInBounds_toArray, List.set_cons_zero, List.set_cons_succ]
                  with_reducible refine wpQuiet_step (fun K hK => ?_)
                  refine ⟨.pointer (some ⟨b, o + q * 7, none⟩), fun w' hw' => ?_, ?_⟩
                  · first | (go_simp; done) | (go_simp; decide) | (go_simp; omega)
                  with_reducible refine hK _ ?_
                  clear hK K
                  simp only [Act.put, List.setIfInBounds_toArray, List.set_cons_zero, List.set_cons_succ]
                  with_reducible refine wpQuiet_step (fun K hK => ?_)
                  refine ⟨.agg #[.string d1.id, .int .i64 d1.ver, .int .i64 d1.k, .int .i64 d1.x, .string d1.s, .slice d1.an d1.ln d1.cn, .slice d1.ai d1.li d1.ci], fun w' hw' => ?_, ?_⟩
                  · have t0 := stay hw' x0; have t1 := stay hw' x1; have t2 := stay hw' x2; have t3 := stay hw' x3; have t4 := stay hw' x4; have t5 := stay hw' x5; have t6 := stay hw' x6; go_simp
                  with_reducible refine hK _ ?_
                  clear hK K
                  simp only [Act.put, List.setIfInBounds_toArray, List.set_cons_zero, List.set_cons_succ]
                  with_reducible refine wpQuiet_step (fun K hK => ?_)
                  refine ⟨.slice (some ⟨b, o, none⟩) n c, fun w' hw' => ?_, ?_⟩
                  · first | (go_simp; done) | (go_simp; decide) | (go_simp; omega)
                  with_reducible refine hK _ ?_
                  clear hK K
                  simp only [Act.put, List.setIfInBounds_toArray, List.set_cons_zero, List.set_cons_succ]
                  with_reducible refine wpQuiet_step (fun K hK => ?_)
                  refine ⟨.int .i64 p, fun w' hw' => ?_, ?_⟩
                  · first | (go_simp; done) | (go_simp; decide) | (go_simp; omega)
                  with_reducible refine hK _ ?_
                  clear hK K
                  simp only [Act.put, List.setIfInBounds_toArray, List.set_cons_zero, List.set_cons_succ]
                  with_reducible refine wpQuiet_step (fun K hK => ?_)
                  refine ⟨.pointer (some ⟨b, o + p * 7, none⟩), fun w' hw' => ?_, ?_⟩
                  · first | (go_simp; done) | (go_simp; decide) | (go_simp; omega)
                  with_reducible refine hK _ ?_
                  clear hK K
                  simp only [Act.put, List.setIfInBounds_toArray, List.set_cons_zero, List.set_cons_succ]
                  with_reducible refine wpQuiet_step (fun K hK => ?_)
                  refine ⟨.agg #[.string d2.id, .int .i64 d2.ver, .int .i64 d2.k, .int .i64 d2.x, .string d2.s, .slice d2.an d2.ln d2.cn, .slice d2.ai d2.li d2.ci], fun w' hw' => ?_, ?_⟩
                  · have t0 := stay hw' y0; have t1 := stay hw' y1; have t2 := stay hw' y2; have t3 := stay hw' y3; have t4 := stay hw' y4; have t5 := stay hw' y5; have t6 := stay hw' y6; go_simp
                  with_reducible refine hK _ ?_
                  clear hK K
                  simp only [Act.put, List.setIfInBounds_toArray, List.set_cons_zero, List.set_cons_succ]
                  with_reducible refine wpQuiet_step (fun K hK => ?_)
                  refine ⟨.int .i64 C, fun w' hw' => ?_, ?_⟩
                  · go_simp
                    refine (call12.out w' (hb.out.trans (hw'.mono hb.out.size))).mono ?_
                    rintro e w'' ⟨rfl, hb'⟩
                    exact ⟨rfl, hw'.trans (hb'.mono hw'.size)⟩
                  with_reducible refine hK _ ?_
                  clear hK K
                  simp only [Act.put, List.setIfInBounds_toArray, List.set_cons_zero, List.set_cons_succ]
                  with_reducible refine wpQuiet_step (fun K hK => ?_)
                  refine ⟨.int .i64 C, fun w' hw' => ?_, ?_⟩
                  · first | (go_simp; done) | (go_simp; decide) | (go_simp; omega)
                  with_reducible refine hK _ ?_
                  clear hK K
                  simp only [Act.put, List.setIfInBounds_toArray, List.set_cons_zero, List.set_cons_succ]
                  refine wpQuiet_nil ?_
                  intro X1 hX1
                  have hb1 := hid_e (hb.out.trans (hX1.mono hb.out.size))
                  replace x0 := stay hX1 x0
                  replace x1 := stay hX1 x1
                  replace x2 := stay hX1 x2
                  replace x3 := stay hX1 x3
                  replace x4 := stay hX1 x4
                  replace x5 := stay hX1 x5
                  replace x6 := stay hX1 x6
                  replace y0 := stay hX1 y0
                  replace y1 := stay hX1 y1
                  replace y2 := stay hX1 y2
                  replace y3 := stay hX1 y3
                  replace y4 := stay hX1 y4
                  replace y5 := stay hX1 y5
                  replace y6 := stay hX1 y6
                  clear hX1 hb call12
                  obtain ⟨z0, hz0⟩ : ∃ z0, (C == 0) = z0 := ⟨_, rfl⟩
                  have hz1 : decide ((q : Int) = (p : Int)) = z0 := hCz.out.symm.trans hz0
                  have hz2 : ((q : Int) == (p : Int)) = z0 := by rw [← hz1]; by_cases h : (q : Int) = (p : Int) <;> simp [h]
                  have hcc : (C != C) = false := by simp
                  have hc1 : ¬ C < -1 := by omega
                  have hc2 : ¬ (1 : Int) < C := by omega
                  go_upto_region 24 with fail
                  refine wp_region_quiet (C := fun w' => Below X1.heap.size X1 w') (by kernel_rfl) (by kernel_rfl) (below_drewN (Below.refl _ _) 1) ?_
                  with_reducible refine wpQuiet_step (fun K hK => ?_)
                  refine ⟨.int .i64 C, fun w' hw' => ?_, ?_⟩
                  · first | (go_simp; done) | (go_simp; decide) | (go_simp; omega)
                  with_reducible refine hK _ ?_
                  clear hK K
                  simp only [Act.put, List.setIfInBounds_toArray, List.set_cons_zero, List.set_cons_succ]
                  with_reducible refine wpQuiet_step (fun K hK => ?_)
                  refine ⟨.pointer (some ⟨sb, 0, none⟩), fun w' hw' => ?_, ?_⟩
                  · first | (go_simp; done) | (go_simp; decide) | (go_simp; omega)
                  with_reducible refine hK _ ?_
                  clear hK K
                  simp only [Act.put, List.setIfInBounds_toArray, List.set_cons_zero, List.set_cons_succ]
                  with_reducible refine wpQuiet_step (fun K hK => ?_)
                  refine ⟨.slice (some ⟨b, o, none⟩) n c, fun w' hw' => ?_, ?_⟩
                  · first | (go_simp; done) | (go_simp; decide) | (go_simp; omega)
                  with_reducible refine hK _ ?_
                  clear hK K
                  simp only [Act.put, List.setIfInBounds_toArray, List.set_cons_zero, List.set_cons_succ]
                  with_reducible refine wpQuiet_step (fun K hK => ?_)
                  refine ⟨.int .i64 p, fun w' hw' => ?_, ?_⟩
                  · first | (go_simp; done) | (go_simp; decide) | (go_simp; omega)
                  with_reducible refine hK _ ?_
                  clear hK K
                  simp only [Act.put, List.setIfInBounds_toArray, List.set_cons_zero, List.set_cons_succ]
                  with_reducible refine wpQuiet_step (fun K hK => ?_)
                  refine ⟨.pointer (some ⟨b, o + p * 7, none⟩), fun w' hw' => ?_, ?_⟩
                  · first | (go_simp; done) | (go_simp; decide) | (go_simp; omega)
                  with_reducible refine hK _ ?_
                  clear hK K
                  simp only [Act.put, List.setIfInBounds_toArray, List.set_cons_zero, List.set_cons_succ]
                  with_reducible refine wpQuiet_step (fun K hK => ?_)
                  refine ⟨.agg #[.string d2.id, .int .i64 d2.ver, .int .i64 d2.k, .int .i64 d2.x, .string d2.s, .slice d2.an d2.ln d2.cn, .slice d2.ai d2.li d2.ci], fun w' hw' => ?_, ?_⟩
                  · have t0 := stay hw' y0; have t1 := stay hw' y1; have t2 := stay hw' y2; have t3 := stay hw' y3; have t4 := stay hw' y4; have t5 := stay hw' y5; have t6 := stay hw' y6; go_simp
                  with_reducible refine hK _ ?_
                  clear hK K
                  simp only [Act.put, List.setIfInBounds_toArray, List.set_cons_zero, List.set_cons_succ]
                  with_reducible refine wpQuiet_step (fun K hK => ?_)
                  refine ⟨.slice (some ⟨b, o, none⟩) n c, fun w' hw' => ?_, ?_⟩
                  · first | (go_simp; done) | (go_simp; decide) | (go_simp; omega)
                  with_reducible refine hK _ ?_
                  clear hK K
                  simp only [Act.put, List.setIfInBounds_toArray, List.set_cons_zero, List.set_cons_succ]
                  with_reducible refine wpQuiet_step (fun K hK => ?_)
                  refine ⟨.int .i64 q, fun w' hw' => ?_, ?_⟩
                  · first | (go_simp; done) | (go_simp; decide) | (go_simp; omega)
                  with_reducible refine hK _ ?_
                  clear hK K
                  simp only [Act.put, List.setIfInBounds_toArray, List.set_cons_zero, List.set_cons_succ]
                  with_reducible refine wpQuiet_step (fun K hK => ?_)
                  refine ⟨.pointer (some ⟨b, o + q * 7, none⟩), fun w' hw' => ?_, ?_⟩
                  · first | (go_simp; done) | (go_simp; decide) | (go_simp; omega)
                  with_reducible refine hK _ ?_
                  clear hK K
                  simp only [Act.put, List.setIfInBounds_toArray, List.set_cons_zero, List.set_cons_succ]
                  with_reducible refine wpQuiet_step (fun K hK => ?_)
                  refine ⟨.agg #[.string d1.id, .int .i64 d1.ver, .int .i64 d1.k, .int .i64 d1.x, .string d1.s, .slice d1.an d1.ln d1.cn, .slice d1.ai d1.li d1.ci], fun w' hw' => ?_, ?_⟩
                  · have t0 := stay hw' x0; have t1 := stay hw' x1; have t2 := stay hw' x2; have t3 := stay hw' x3; have t4 := stay hw' x4; have t5 := stay hw' x5; have t6 := stay hw' x6; go_simp
                  with_reducible refine hK _ ?_
                  clear hK K
                  simp only [Act.put, List.setIfInBounds_toArray, List.set_cons_zero, List.set_cons_succ]
                  with_reducible refine wpQuiet_step (fun K hK => ?_)
                  refine ⟨.int .i64 (-C), fun w' hw' => ?_, ?_⟩
                  · go_simp
                    refine (call21.out w' (hb1.out.trans (hw'.mono hb1.out.size))).mono ?_
                    rintro e w'' ⟨rfl, hb'⟩
                    exact ⟨rfl, hw'.trans (hb'.mono hw'.size)⟩
                  with_reducible refine hK _ ?_
                  clear hK K
                  simp only [Act.put, List.setIfInBounds_toArray, List.set_cons_zero, List.set_cons_succ]
                  with_reducible refine wpQuiet_step (fun K hK => ?_)
                  refine ⟨.int .i64 C, fun w' hw' => ?_, ?_⟩
                  · have hq9 := hneg.out; go_simp; try rw [Int.neg_neg]; try exact hq9
                  with_reducible refine hK _ ?_
                  clear hK K
                  simp only [Act.put, List.setIfInBounds_toArray, List.set_cons_zero, List.set_cons_succ]
                  with_reducible refine wpQuiet_step (fun K hK => ?_)
                  refine ⟨.bool false, fun w' hw' => ?_, ?_⟩
                  · first | (go_simp; done) | (go_simp; decide) | (go_simp; omega)
                  with_reducible refine hK _ ?_
                  clear hK K
                  simp only [Act.put, List.setIfInBounds_toArray, List.set_cons_zero, List.set_cons_succ]
                  with_reducible refine wpQuiet_step (fun K hK => ?_)
                  refine ⟨.bool false, fun w' hw' => ?_, ?_⟩
                  · first | (go_simp; done) | (go_simp; decide) | (go_simp; omega)
                  with_reducible refine hK _ ?_
                  clear hK K
                  simp only [Act.put, List.setIfInBounds_toArray, List.set_cons_zero, List.set_cons_succ]
                  with_reducible refine wpQuiet_step (fun K hK => ?_)
                  refine k_quiet_if (by kernel_rfl) ?_
                  refine ⟨.int .i64 C, fun w' hw' => ?_, ?_⟩
                  · first | (go_simp; done) | (go_simp; decide) | (go_simp; omega)
                  with_reducible refine hK _ ?_
                  clear hK K
                  simp only [Act.put, List.setIfInBounds_toArray, List.set_cons_zero, List.set_cons_succ]
                  with_reducible refine wpQuiet_step (fun K hK => ?_)
                  refine k_quiet_if (by kernel_rfl) ?_
                  refine ⟨.bool z0, fun w' hw' => ?_, ?_⟩
                  · first | (go_simp; done) | (go_simp; decide) | (go_simp; omega)
                  with_reducible refine hK _ ?_
                  clear hK K
                  simp only [Act.put, List.setIfInBounds_toArray, List.set_cons_zero, List.set_cons_succ]
                  with_reducible refine wpQuiet_step (fun K hK => ?_)
                  refine k_quiet_if (by kernel_rfl) ?_
                  refine ⟨.int .i64 q, fun w' hw' => ?_, ?_⟩
                  · first | (go_simp; done) | (go_simp; decide) | (go_simp; omega)
                  with_reducible refine hK _ ?_
                  clear hK K
                  simp only [Act.put, List.setIfInBounds_toArray, List.set_cons_zero, List.set_cons_succ]
                  with_reducible refine wpQuiet_step (fun K hK => ?_)
                  refine k_quiet_if (by kernel_rfl) ?_
                  refine ⟨.int .i64 p, fun w' hw' => ?_, ?_⟩
                  · first | (go_simp; done) | (go_simp; decide) | (go_simp; omega)
                  with_reducible refine hK _ ?_
                  clear hK K
                  simp only [Act.put, List.setIfInBounds_toArray, List.set_cons_zero, List.set_cons_succ]
                  with_reducible refine wpQuiet_step (fun K hK => ?_)
                  refine k_quiet_if (by kernel_rfl) ?_
                  refine ⟨.bool z0, fun w' hw' => ?_, ?_⟩
                  · first | (go_simp; done) | (go_simp; decide) | (go_simp; omega)
                  with_reducible refine hK _ ?_
                  clear hK K
                  simp only [Act.put, List.setIfInBounds_toArray, List.set_cons_zero, List.set_cons_succ]
                  with_reducible refine wpQuiet_step (fun K hK => ?_)
                  refine k_quiet_if (by kernel_rfl) ?_
                  refine ⟨.bool false, fun w' hw' => ?_, ?_⟩
                  · cases z0 <;> (first | (go_simp; done) | (go_simp; decide))
                  with_reducible refine hK _ ?_
                  clear hK K
                  simp only [Act.put, List.setIfInBounds_toArray, List.set_cons_zero, List.set_cons_succ]
                  with_reducible refine wpQuiet_step (fun K hK => ?_)
                  refine ⟨.bool false, fun w' hw' => ?_, ?_⟩
                  · first | (go_simp; done) | (go_simp; decide) | (go_simp; omega)
                  with_reducible refine hK _ ?_
                  clear hK K
                  simp only [Act.put, List.setIfInBounds_toArray, List.set_cons_zero, List.set_cons_succ]
                  with_reducible refine wpQuiet_step (fun K hK => ?_)
                  refine ⟨.bool false, fun w' hw' => ?_, ?_⟩
                  · first | (go_simp; done) | (go_simp; decide) | (go_simp; omega)
                  with_reducible refine hK _ ?_
                  clear hK K
                  simp only [Act.put, List.setIfInBounds_toArray, List.set_cons_zero, List.set_cons_succ]
                  with_reducible refine wpQuiet_step (fun K hK => ?_)
                  refine k_quiet_if (by kernel_rfl) ?_
                  refine ⟨.int .i64 C, fun w' hw' => ?_, ?_⟩
                  · first | (go_simp; done) | (go_simp; decide) | (go_simp; omega)
                  with_reducible refine hK _ ?_
                  clear hK K
                  simp only [Act.put, List.setIfInBounds_toArray, List.set_cons_zero, List.set_cons_succ]
                  with_reducible refine wpQuiet_step (fun K hK => ?_)
                  refine k_quiet_if (by kernel_rfl) ?_
                  refine ⟨.bool false, fun w' hw' => ?_, ?_⟩
                  · first | (go_simp; done) | (go_simp; decide) | (go_simp; omega)
                  with_reducible refine hK _ ?_
                  clear hK K
                  simp only [Act.put, List.setIfInBounds_toArray, List.set_cons_zero, List.set_cons_succ]
                  with_reducible refine wpQuiet_step (fun K hK => ?_)
                  refine ⟨.bool false, fun w' hw' => ?_, ?_⟩
                  · first | (go_simp; done) | (go_simp; decide) | (go_simp; omega)
                  with_reducible refine hK _ ?_
                  clear hK K
                  simp only [Act.put, List.setIfInBounds_toArray, List.set_cons_zero, List.set_cons_succ]
                  with_reducible refine wpQuiet_step (fun K hK => ?_)
                  refine ⟨.bool false, fun w' hw' => ?_, ?_⟩
                  · first | (go_simp; done) | (go_simp; decide) | (go_simp; omega)
                  with_reducible refine hK _ ?_
                  clear hK K
                  simp only [Act.put, List.setIfInBounds_toArray, List.set_cons_zero, List.set_cons_succ]
                  with_reducible refine wpQuiet_step (fun K hK => ?_)
                  refine k_quiet_if (by kernel_rfl) ?_
                  refine ⟨.int .i64 C, fun w' hw' => ?_, ?_⟩
                  · first | (go_simp; done) | (go_simp; decide) | (go_simp; omega)
                  with_reducible refine hK _ ?_
                  clear hK K
                  simp only [Act.put, List.setIfInBounds_toArray, List.set_cons_zero, List.set_cons_succ]
                  with_reducible refine wpQuiet_step (fun K hK => ?_)
                  refine k_quiet_if (by kernel_rfl) ?_
                  refine ⟨.bool false, fun w' hw' => ?_, ?_⟩
                  · first | (go_simp; done) | (go_simp; decide) | (go_simp; omega)
                  with_reducible refine hK _ ?_
                  clear hK K
                  simp only [Act.put, List.setIfInBounds_toArray, List.set_cons_zero, List.set_cons_succ]
                  with_reducible refine wpQuiet_step (fun K hK => ?_)
                  refine ⟨.bool false, fun w' hw' => ?_, ?_⟩
                  · first | (go_simp; done) | (go_simp; decide) | (go_simp; omega)
                  with_reducible refine hK _ ?_
                  clear hK K
                  simp only [Act.put, List.setIfInBounds_toArray, List.set_cons_zero, List.set_cons_succ]
                  refine wpQuiet_nil ?_
                  intro X2 hX2
                  have hb2 := hid_e (hb1.out.trans (hX2.mono hb1.out.size))
                  clear hX2 hb1 call21 hz0 hz1 hz2 hcc hc1 hc2 hCz hneg x0 x1 x2 x3 x4 x5 x6 y0 y1 y2 y3 y4 y5 y6
                  skip
                  go_wp2_with fail
                  obtain ⟨wp, hwp⟩ : ∃ wp, wp = wr := ⟨_, rfl⟩
                  subst hwp
                  go_loopw [14] (fun jv wr => ∃ (r : Nat), jv = .int .i64 r ∧ r ≤ n ∧ Hid (Below W5.heap.size W5 wr)) (fun jv _ => n - (intOf jv).toNat)
                  case atStart => exact ⟨0, rfl, Nat.zero_le _, hb2⟩
                  case round =>
                    clear hb2
                    obtain ⟨r, rfl, hr, hb⟩ := hrel
                    have r0 : (0 : Int) ≤ (r : Int) := by omega
                    have r2 : (r : Int) ≤ 30 := by omega
                    by_cases hrn : r < n
                    · skip
                      have r1 : (r : Int) < (n : Int) := by omega
                      obtain ⟨d3, hd3⟩ : ∃ d, Hid (ds[r]? = some d) := ⟨ds[r]'(by rw [hn.out]; omega), List.getElem?_eq_getElem (by rw [hn.out]; omega)⟩
                      have x0 : wr.cell? ⟨b, o + q * 7, none⟩ = some (.string d1.id) := stay hb.out (hcs.out q d1 hd1.out 0 _ rfl)
                      have x1 : wr.cell? ⟨b, o + q * 7 + 1, none⟩ = some (.int .i64 d1.ver) := stay hb.out (hcs.out q d1 hd1.out 1 _ rfl)
                      have x2 : wr.cell? ⟨b, o + q * 7 + 2, none⟩ = some (.int .i64 d1.k) := stay hb.out (hcs.out q d1 hd1.out 2 _ rfl)
                      have x3 : wr.cell? ⟨b, o + q * 7 + 3, none⟩ = some (.int .i64 d1.x) := stay hb.out (hcs.out q d1 hd1.out 3 _ rfl)
                      have x4 : wr.cell? ⟨b, o + q * 7 + 4, none⟩ = some (.string d1.s) := stay hb.out (hcs.out q d1 hd1.out 4 _ rfl)
                      have x5 : wr.cell? ⟨b, o + q * 7 + 5, none⟩ = some (.slice d1.an d1.ln d1.cn) := stay hb.out (hcs.out q d1 hd1.out 5 _ rfl)
                      have x6 : wr.cell? ⟨b, o + q * 7 + 6, none⟩ = some (.slice d1.ai d1.li d1.ci) := stay hb.out (hcs.out q d1 hd1.out 6 _ rfl)
                      have y0 : wr.cell? ⟨b, o + p * 7, none⟩ = some (.string d2.id) := stay hb.out (hcs.out p d2 hd2.out 0 _ rfl)
                      have y1 : wr.cell? ⟨b, o + p * 7 + 1, none⟩ = some (.int .i64 d2.ver) := stay hb.out (hcs.out p d2 hd2.out 1 _ rfl)
                      have y2 : wr.cell? ⟨b, o + p * 7 + 2, none⟩ = some (.int .i64 d2.k) := stay hb.out (hcs.out p d2 hd2.out 2 _ rfl)
                      have y3 : wr.cell? ⟨b, o + p * 7 + 3, none⟩ = some (.int .i64 d2.x) := stay hb.out (hcs.out p d2 hd2.out 3 _ rfl)
                      have y4 : wr.cell? ⟨b, o + p * 7 + 4, none⟩ = some (.string d2.s) := stay hb.out (hcs.out p d2 hd2.out 4 _ rfl)
                      have y5 : wr.cell? ⟨b, o + p * 7 + 5, none⟩ = some (.slice d2.an d2.ln d2.cn) := stay hb.out (hcs.out p d2 hd2.out 5 _ rfl)
                      have y6 : wr.cell? ⟨b, o + p * 7 + 6, none⟩ = some (.slice d2.ai d2.li d2.ci) := stay hb.out (hcs.out p d2 hd2.out 6 _ rfl)
                      have v0 : wr.cell? ⟨b, o + r * 7, none⟩ = some (.string d3.id) := stay hb.out (hcs.out r d3 hd3.out 0 _ rfl)
                      have v1 : wr.cell? ⟨b, o + r * 7 + 1, none⟩ = some (.int .i64 d3.ver) := stay hb.out (hcs.out r d3 hd3.out 1 _ rfl)
                      have v2 : wr.cell? ⟨b, o + r * 7 + 2, none⟩ = some (.int .i64 d3.k) := stay hb.out (hcs.out r d3 hd3.out 2 _ rfl)
                      have v3 : wr.cell? ⟨b, o + r * 7 + 3, none⟩ = some (.int .i64 d3.x) := stay hb.out (hcs.out r d3 hd3.out 3 _ rfl)
                      have v4 : wr.cell? ⟨b, o + r * 7 + 4, none⟩ = some (.string d3.s) := stay hb.out (hcs.out r d3 hd3.out 4 _ rfl)
                      have v5 : wr.cell? ⟨b, o + r * 7 + 5, none⟩ = some (.slice d3.an d3.ln d3.cn) := stay hb.out (hcs.out r d3 hd3.out 5 _ rfl)
                      have v6 : wr.cell? ⟨b, o + r * 7 + 6, none⟩ = some (.slice d3.ai d3.li d3.ci) := stay hb.out (hcs.out r d3 hd3.out 6 _ rfl)
                      have m3 := List.mem_of_getElem? hd3.out
                      obtain ⟨E, hE⟩ : ∃ E, Hid (cnK ts d2 d3 = E) := ⟨_, rfl⟩
                      obtain ⟨G, hG⟩ : ∃ G, Hid (cnK ts d1 d3 = G) := ⟨_, rfl⟩
                      have call23 := hid_e (fun W (hW : Below W5.heap.size W5 W) => cmp.out d2 m2 d3 m3 W hW)
                      rw [hE.out] at call23
                      have call13 := hid_e (fun W (hW : Below W5.heap.size W5 W) => cmp.out d1 m1 d3 m3 W hW)
                      rw [hG.out] at call13
                      have htr : Hid (C < 0 → E < 0 → G < 0) := fun h1 h2 => by
                        have e1 := (swoK ts).tr d1 d2 d3 (by show decide (cnK ts d1 d2 < 0) = true; rw [hC.out]; exact decide_eq_true h1) (by show decide (cnK ts d2 d3 < 0) = true; rw [hE.out]; exact decide_eq_true h2)
                        have e2 : cnK ts d1 d3 < 0 := of_decide_eq_true e1
                        rw [hG.out] at e2; exact e2
                      clear hE hG hd3 m3
                      go_upto_region 29 with fail
                      by_cases hC0 : C < 0
                      · skip
                        by_cases hE0 : E < 0
                        · skip
                          have hG0 : ¬ (0 : Int) ≤ G := by have := htr.out hC0 hE0; omega
                          refine wp_region_quiet (C := fun w' => Below wr.heap.size wr w') (by kernel_rfl) (by kernel_rfl) (below_drewN (Below.refl _ _) 1) ?_
                          with_reducible refine wpQuiet_step (fun K hK => ?_)
                          refine ⟨.int .i64 C, fun w' hw' => ?_, ?_⟩
                          · first | (go_simp; done) | (go_simp; decide) | (go_simp; omega)
                          with_reducible refine hK _ ?_
                          clear hK K
                          simp only [Act.put, List.setIfInBounds_toArray, List.set_cons_zero, List.set_cons_succ]
                          with_reducible refine wpQuiet_step (fun K hK => ?_)
                          refine ⟨.bool true, fun w' hw' => ?_, ?_⟩
                          · first | (go_simp; done) | (go_simp; decide) | (go_simp; omega)
                          with_reducible refine hK _ ?_
                          clear hK K
                          simp only [Act.put, List.setIfInBounds_toArray, List.set_cons_zero, List.set_cons_succ]
                          with_reducible refine wpQuiet_step (fun K hK => ?_)
                          refine ⟨.bool true, fun w' hw' => ?_, ?_⟩
                          · first | (go_simp; done) | (go_simp; decide) | (go_simp; omega)
                          with_reducible refine hK _ ?_
                          clear hK K
                          simp only [Act.put, List.setIfInBounds_toArray, List.set_cons_zero, List.set_cons_succ]
                          with_reducible refine wpQuiet_step (fun K hK => ?_)
                          refine k_quiet_if (by kernel_rfl) ?_
                          refine ⟨.pointer (some ⟨sb, 0, none⟩), fun w' hw' => ?_, ?_⟩
                          · first | (go_simp; done) | (go_simp; decide) | (go_simp; omega)
                          with_reducible refine hK _ ?_
                          clear hK K
                          simp only [Act.put, List.setIfInBounds_toArray, List.set_cons_zero, List.set_cons_succ]
                          with_reducible refine wpQuiet_step (fun K hK => ?_)
                          refine k_quiet_if (by kernel_rfl) ?_
                          refine ⟨.slice (some ⟨b, o, none⟩) n c, fun w' hw' => ?_, ?_⟩
                          · first | (go_simp; done) | (go_simp; decide) | (go_simp; omega)
                          with_reducible refine hK _ ?_
                          clear hK K
                          simp only [Act.put, List.setIfInBounds_toArray, List.set_cons_zero, List.set_cons_succ]
                          with_reducible refine wpQuiet_step (fun K hK => ?_)
                          refine k_quiet_if (by kernel_rfl) ?_
                          refine ⟨.int .i64 p, fun w' hw' => ?_, ?_⟩
                          · first | (go_simp; done) | (go_simp; decide) | (go_simp; omega)
                          with_reducible refine hK _ ?_
                          clear hK K
                          simp only [Act.put, List.setIfInBounds_toArray, List.set_cons_zero, List.set_cons_succ]
                          with_reducible refine wpQuiet_step (fun K hK => ?_)
                          refine k_quiet_if (by kernel_rfl) ?_
                          refine ⟨.pointer (some ⟨b, o + p * 7, none⟩), fun w' hw' => ?_, ?_⟩
                          · first | (go_simp; done) | (go_simp; decide) | (go_simp; omega)
                          with_reducible refine hK _ ?_
                          clear hK K
                          simp only [Act.put, List.setIfInBounds_toArray, List.set_cons_zero, List.set_cons_succ]
                          with_reducible refine wpQuiet_step (fun K hK => ?_)
                          refine k_quiet_if (by kernel_rfl) ?_
                          refine ⟨.agg #[.string d2.id, .int .i64 d2.ver, .int .i64 d2.k, .int .i64 d2.x, .string d2.s, .slice d2.an d2.ln d2.cn, .slice d2.ai d2.li d2.ci], fun w' hw' => ?_, ?_⟩
                          · have t0 := stay hw' y0; have t1 := stay hw' y1; have t2 := stay hw' y2; have t3 := stay hw' y3; have t4 := stay hw' y4; have t5 := stay hw' y5; have t6 := stay hw' y6; go_simp
                          with_reducible refine hK _ ?_
                          clear hK K
                          simp only [Act.put, List.setIfInBounds_toArray, List.set_cons_zero, List.set_cons_succ]
                          with_reducible refine wpQuiet_step (fun K hK => ?_)
                          refine k_quiet_if (by kernel_rfl) ?_
                          refine ⟨.slice (some ⟨b, o, none⟩) n c, fun w' hw' => ?_, ?_⟩
                          · first | (go_simp; done) | (go_simp; decide) | (go_simp; omega)
                          with_reducible refine hK _ ?_
                          clear hK K
                          simp only [Act.put, List.setIfInBounds_toArray, List.set_cons_zero, List.set_cons_succ]
                          with_reducible refine wpQuiet_step (fun K hK => ?_)
                          refine k_quiet_if (by kernel_rfl) ?_
                          refine ⟨.int .i64 r, fun w' hw' => ?_, ?_⟩
                          · first | (go_simp; done) | (go_simp; decide) | (go_simp; omega)
                          with_reducible refine hK _ ?_
                          clear hK K
                          simp only [Act.put, List.setIfInBounds_toArray, List.set_cons_zero, List.set_cons_succ]
                          with_reducible refine wpQuiet_step (fun K hK => ?_)
                          refine k_quiet_if (by kernel_rfl) ?_
                          refine ⟨.pointer (some ⟨b, o + r * 7, none⟩), fun w' hw' => ?_, ?_⟩
                          · first | (go_simp; done) | (go_simp; decide) | (go_simp; omega)
                          with_reducible refine hK _ ?_
                          clear hK K
                          simp only [Act.put, List.setIfInBounds_toArray, List.set_cons_zero, List.set_cons_succ]
                          with_reducible refine wpQuiet_step (fun K hK => ?_)
                          refine k_quiet_if (by kernel_rfl) ?_
                          refine ⟨.agg #[.string d3.id, .int .i64 d3.ver, .int .i64 d3.k, .int .i64 d3.x, .string d3.s, .slice d3.an d3.ln d3.cn, .slice d3.ai d3.li d3.ci], fun w' hw' => ?_, ?_⟩
                          · have t0 := stay hw' v0; have t1 := stay hw' v1; have t2 := stay hw' v2; have t3 := stay hw' v3; have t4 := stay hw' v4; have t5 := stay hw' v5; have t6 := stay hw' v6; go_simp
                          with_reducible refine hK _ ?_
                          clear hK K
                          simp only [Act.put, List.setIfInBounds_toArray, List.set_cons_zero, List.set_cons_succ]
                          with_reducible refine wpQuiet_step (fun K hK => ?_)
                          refine k_quiet_if (by kernel_rfl) ?_
                          refine ⟨.int .i64 E, fun w' hw' => ?_, ?_⟩
                          · go_simp
                            refine (call23.out w' (hb.out.trans (hw'.mono hb.out.size))).mono ?_
                            rintro e w'' ⟨rfl, hb'⟩
                            exact ⟨rfl, hw'.trans (hb'.mono hw'.size)⟩
                          with_reducible refine hK _ ?_
                          clear hK K
                          simp only [Act.put, List.setIfInBounds_toArray, List.set_cons_zero, List.set_cons_succ]
                          with_reducible refine wpQuiet_step (fun K hK => ?_)
                          refine k_quiet_if (by kernel_rfl) ?_
                          refine ⟨.bool true, fun w' hw' => ?_, ?_⟩
                          · first | (go_simp; done) | (go_simp; decide) | (go_simp; omega)
                          with_reducible refine hK _ ?_
                          clear hK K
                          simp only [Act.put, List.setIfInBounds_toArray, List.set_cons_zero, List.set_cons_succ]
                          with_reducible refine wpQuiet_step (fun K hK => ?_)
                          refine ⟨.bool true, fun w' hw' => ?_, ?_⟩
                          · first | (go_simp; done) | (go_simp; decide) | (go_simp; omega)
                          with_reducible refine hK _ ?_
                          clear hK K
                          simp only [Act.put, List.setIfInBounds_toArray, List.set_cons_zero, List.set_cons_succ]
                          with_reducible refine wpQuiet_step (fun K hK => ?_)
                          refine ⟨.bool true, fun w' hw' => ?_, ?_⟩
                          · first | (go_simp; done) | (go_simp; decide) | (go_simp; omega)
                          with_reducible refine hK _ ?_
                          clear hK K
                          simp only [Act.put, List.setIfInBounds_toArray, List.set_cons_zero, List.set_cons_succ]
                          with_reducible refine wpQuiet_step (fun K hK => ?_)
                          refine k_quiet_if (by kernel_rfl) ?_
                          refine ⟨.pointer (some ⟨sb, 0, none⟩), fun w' hw' => ?_, ?_⟩
                          · first | (go_simp; done) | (go_simp; decide) | (go_simp; omega)
                          with_reducible refine hK _ ?_
                          clear hK K
                          simp only [Act.put, List.setIfInBounds_toArray, List.set_cons_zero, List.set_cons_succ]
                          with_reducible refine wpQuiet_step (fun K hK => ?_)
                          refine k_quiet_if (by kernel_rfl) ?_
                          refine ⟨.slice (some ⟨b, o, none⟩) n c, fun w' hw' => ?_, ?_⟩
                          · first | (go_simp; done) | (go_simp; decide) | (go_simp; omega)
                          with_reducible refine hK _ ?_
                          clear hK K
                          simp only [Act.put, List.setIfInBounds_toArray, List.set_cons_zero, List.set_cons_succ]
                          with_reducible refine wpQuiet_step (fun K hK => ?_)
                          refine k_quiet_if (by kernel_rfl) ?_
                          refine ⟨.int .i64 q, fun w' hw' => ?_, ?_⟩
                          · first | (go_simp; done) | (go_simp; decide) | (go_simp; omega)
                          with_reducible refine hK _ ?_
                          clear hK K
                          simp only [Act.put, List.setIfInBounds_toArray, List.set_cons_zero, List.set_cons_succ]
                          with_reducible refine wpQuiet_step (fun K hK => ?_)
                          refine k_quiet_if (by kernel_rfl) ?_
                          refine ⟨.pointer (some ⟨b, o + q * 7, none⟩), fun w' hw' => ?_, ?_⟩
                          · first | (go_simp; done) | (go_simp; decide) | (go_simp; omega)
                          with_reducible refine hK _ ?_
                          clear hK K
                          simp only [Act.put, List.setIfInBounds_toArray, List.set_cons_zero, List.set_cons_succ]
                          with_reducible refine wpQuiet_step (fun K hK => ?_)
                          refine k_quiet_if (by kernel_rfl) ?_
                          refine ⟨.agg #[.string d1.id, .int .i64 d1.ver, .int .i64 d1.k, .int .i64 d1.x, .string d1.s, .slice d1.an d1.ln d1.cn, .slice d1.ai d1.li d1.ci], fun w' hw' => ?_, ?_⟩
                          · have t0 := stay hw' x0; have t1 := stay hw' x1; have t2 := stay hw' x2; have t3 := stay hw' x3; have t4 := stay hw' x4; have t5 := stay hw' x5; have t6 := stay hw' x6; go_simp
                          with_reducible refine hK _ ?_
                          clear hK K
                          simp only [Act.put, List.setIfInBounds_toArray, List.set_cons_zero, List.set_cons_succ]
                          with_reducible refine wpQuiet_step (fun K hK => ?_)
                          refine k_quiet_if (by kernel_rfl) ?_
                          refine ⟨.slice (some ⟨b, o, none⟩) n c, fun w' hw' => ?_, ?_⟩
                          · first | (go_simp; done) | (go_simp; decide) | (go_simp; omega)
                          with_reducible refine hK _ ?_
                          clear hK K
                          simp only [Act.put, List.setIfInBounds_toArray, List.set_cons_zero, List.set_cons_succ]
                          with_reducible refine wpQuiet_step (fun K hK => ?_)
                          refine k_quiet_if (by kernel_rfl) ?_
                          refine ⟨.int .i64 r, fun w' hw' => ?_, ?_⟩
                          · first | (go_simp; done) | (go_simp; decide) | (go_simp; omega)
                          with_reducible refine hK _ ?_
                          clear hK K
                          simp only [Act.put, List.setIfInBounds_toArray, List.set_cons_zero, List.set_cons_succ]
                          with_reducible refine wpQuiet_step (fun K hK => ?_)
                          refine k_quiet_if (by kernel_rfl) ?_
                          refine ⟨.pointer (some ⟨b, o + r * 7, none⟩), fun w' hw' => ?_, ?_⟩
                          · first | (go_simp; done) | (go_simp; decide) | (go_simp; omega)
                          with_reducible refine hK _ ?_
                          clear hK K
                          simp only [Act.put, List.setIfInBounds_toArray, List.set_cons_zero, List.set_cons_succ]
                          with_reducible refine wpQuiet_step (fun K hK => ?_)
                          refine k_quiet_if (by kernel_rfl) ?_
                          refine ⟨.agg #[.string d3.id, .int .i64 d3.ver, .int .i64 d3.k, .int .i64 d3.x, .string d3.s, .slice d3.an d3.ln d3.cn, .slice d3.ai d3.li d3.ci], fun w' hw' => ?_, ?_⟩
                          · have t0 := stay hw' v0; have t1 := stay hw' v1; have t2 := stay hw' v2; have t3 := stay hw' v3; have t4 := stay hw' v4; have t5 := stay hw' v5; have t6 := stay hw' v6; go_simp
                          with_reducible refine hK _ ?_
                          clear hK K
                          simp only [Act.put, List.setIfInBounds_toArray, List.set_cons_zero, List.set_cons_succ]
                          with_reducible refine wpQuiet_step (fun K hK => ?_)
                          refine k_quiet_if (by kernel_rfl) ?_
                          refine ⟨.int .i64 G, fun w' hw' => ?_, ?_⟩
                          · go_simp
                            refine (call13.out w' (hb.out.trans (hw'.mono hb.out.size))).mono ?_
                            rintro e w'' ⟨rfl, hb'⟩
                            exact ⟨rfl, hw'.trans (hb'.mono hw'.size)⟩
                          with_reducible refine hK _ ?_
                          clear hK K
                          simp only [Act.put, List.setIfInBounds_toArray, List.set_cons_zero, List.set_cons_succ]
                          with_reducible refine wpQuiet_step (fun K hK => ?_)
                          refine k_quiet_if (by kernel_rfl) ?_
                          refine ⟨.bool false, fun w' hw' => ?_, ?_⟩
                          · first | (go_simp; done) | (go_simp; decide) | (go_simp; omega)
                          with_reducible refine hK _ ?_
                          clear hK K
                          simp only [Act.put, List.setIfInBounds_toArray, List.set_cons_zero, List.set_cons_succ]
                          with_reducible refine wpQuiet_step (fun K hK => ?_)
                          refine ⟨.bool false, fun w' hw' => ?_, ?_⟩
                          · first | (go_simp; done) | (go_simp; decide) | (go_simp; omega)
                          with_reducible refine hK _ ?_
                          clear hK K
                          simp only [Act.put, List.setIfInBounds_toArray, List.set_cons_zero, List.set_cons_succ]
                          refine wpQuiet_nil ?_
                          intro X1 hX1
                          have hb' := hid_e (hb.out.trans (hX1.mono hb.out.size))
                          clear hX1 hb call23 call13 htr x0 x1 x2 x3 x4 x5 x6 y0 y1 y2 y3 y4 y5 y6 v0 v1 v2 v3 v4 v5 v6
                          go_wp2_with fail
                          exact ⟨⟨r + 1, by go_num, by omega, hb'⟩, by simp [intOf]; omega⟩
                        · skip
                          refine wp_region_quiet (C := fun w' => Below wr.heap.size wr w') (by kernel_rfl) (by kernel_rfl) (below_drewN (Below.refl _ _) 1) ?_
                          with_reducible refine wpQuiet_step (fun K hK => ?_)
                          refine ⟨.int .i64 C, fun w' hw' => ?_, ?_⟩
                          · first | (go_simp; done) | (go_simp; decide) | (go_simp; omega)
                          with_reducible refine hK _ ?_
                          clear hK K
                          simp only [Act.put, List.setIfInBounds_toArray, List.set_cons_zero, List.set_cons_succ]
                          with_reducible refine wpQuiet_step (fun K hK => ?_)
                          refine ⟨.bool true, fun w' hw' => ?_, ?_⟩
                          · first | (go_simp; done) | (go_simp; decide) | (go_simp; omega)
                          with_reducible refine hK _ ?_
                          clear hK K
                          simp only [Act.put, List.setIfInBounds_toArray, List.set_cons_zero, List.set_cons_succ]
                          with_reducible refine wpQuiet_step (fun K hK => ?_)
                          refine ⟨.bool true, fun w' hw' => ?_, ?_⟩
                          · first | (go_simp; done) | (go_simp; decide) | (go_simp; omega)
                          with_reducible refine hK _ ?_
                          clear hK K
                          simp only [Act.put, List.setIfInBounds_toArray, List.set_cons_zero, List.set_cons_succ]
                          with_reducible refine wpQuiet_step (fun K hK => ?_)
                          refine k_quiet_if (by kernel_rfl) ?_
                          refine ⟨.pointer (some ⟨sb, 0, none⟩), fun w' hw' => ?_, ?_⟩
                          · first | (go_simp; done) | (go_simp; decide) | (go_simp; omega)
                          with_reducible refine hK _ ?_
                          clear hK K
                          simp only [Act.put, List.setIfInBounds_toArray, List.set_cons_zero, List.set_cons_succ]
                          with_reducible refine wpQuiet_step (fun K hK => ?_)
                          refine k_quiet_if (by kernel_rfl) ?_
                          refine ⟨.slice (some ⟨b, o, none⟩) n c, fun w' hw' => ?_, ?_⟩
                          · first | (go_simp; done) | (go_simp; decide) | (go_simp; omega)
                          with_reducible refine hK _ ?_
                          clear hK K
                          simp only [Act.put, List.setIfInBounds_toArray, List.set_cons_zero, List.set_cons_succ]
                          with_reducible refine wpQuiet_step (fun K hK => ?_)
                          refine k_quiet_if (by kernel_rfl) ?_
                          refine ⟨.int .i64 p, fun w' hw' => ?_, ?_⟩
                          · first | (go_simp; done) | (go_simp; decide) | (go_simp; omega)
                          with_reducible refine hK _ ?_
                          clear hK K
                          simp only [Act.put, List.setIfInBounds_toArray, List.set_cons_zero, List.set_cons_succ]
                          with_reducible refine wpQuiet_step (fun K hK => ?_)
                          refine k_quiet_if (by kernel_rfl) ?_
                          refine ⟨.pointer (some ⟨b, o + p * 7, none⟩), fun w' hw' => ?_, ?_⟩
                          · first | (go_simp; done) | (go_simp; decide) | (go_simp; omega)
                          with_reducible refine hK _ ?_
                          clear hK K
                          simp only [Act.put, List.setIfInBounds_toArray, List.set_cons_zero, List.set_cons_succ]
                          with_reducible refine wpQuiet_step (fun K hK => ?_)
                          refine k_quiet_if (by kernel_rfl) ?_
                          refine ⟨.agg #[.string d2.id, .int .i64 d2.ver, .int .i64 d2.k, .int .i64 d2.x, .string d2.s, .slice d2.an d2.ln d2.cn, .slice d2.ai d2.li d2.ci], fun w' hw' => ?_, ?_⟩
                          · have t0 := stay hw' y0; have t1 := stay hw' y1; have t2 := stay hw' y2; have t3 := stay hw' y3; have t4 := stay hw' y4; have t5 := stay hw' y5; have t6 := stay hw' y6; go_simp
                          with_reducible refine hK _ ?_
                          clear hK K
                          simp only [Act.put, List.setIfInBounds_toArray, List.set_cons_zero, List.set_cons_succ]
                          with_reducible refine wpQuiet_step (fun K hK => ?_)
                          refine k_quiet_if (by kernel_rfl) ?_
                          refine ⟨.slice (some ⟨b, o, none⟩) n c, fun w' hw' => ?_, ?_⟩
                          · first | (go_simp; done) | (go_simp; decide) | (go_simp; omega)
                          with_reducible refine hK _ ?_
                          clear hK K
                          simp only [Act.put, List.setIfInBounds_toArray, List.set_cons_zero, List.set_cons_succ]
                          with_reducible refine wpQuiet_step (fun K hK => ?_)
                          refine k_quiet_if (by kernel_rfl) ?_
                          refine ⟨.int .i64 r, fun w' hw' => ?_, ?_⟩
                          · first | (go_simp; done) | (go_simp; decide) | (go_simp; omega)
                          with_reducible refine hK _ ?_
                          clear hK K
                          simp only [Act.put, List.setIfInBounds_toArray, List.set_cons_zero, List.set_cons_succ]
                          with_reducible refine wpQuiet_step (fun K hK => ?_)
                          refine k_quiet_if (by kernel_rfl) ?_
                          refine ⟨.pointer (some ⟨b, o + r * 7, none⟩), fun w' hw' => ?_, ?_⟩
                          · first | (go_simp; done) | (go_simp; decide) | (go_simp; omega)
                          with_reducible refine hK _ ?_
                          clear hK K
                          simp only [Act.put, List.setIfInBounds_toArray, List.set_cons_zero, List.set_cons_succ]
                          with_reducible refine wpQuiet_step (fun K hK => ?_)
                          refine k_quiet_if (by kernel_rfl) ?_
                          refine ⟨.agg #[.string d3.id, .int .i64 d3.ver, .int .i64 d3.k, .int .i64 d3.x, .string d3.s, .slice d3.an d3.ln d3.cn, .slice d3.ai d3.li d3.ci], fun w' hw' => ?_, ?_⟩
                          · have t0 := stay hw' v0; have t1 := stay hw' v1; have t2 := stay hw' v2; have t3 := stay hw' v3; have t4 := stay hw' v4; have t5 := stay hw' v5; have t6 := stay hw' v6; go_simp
                          with_reducible refine hK _ ?_
                          clear hK K
                          simp only [Act.put, List.setIfInBounds_toArray, List.set_cons_zero, List.set_cons_succ]
                          with_reducible refine wpQuiet_step (fun K hK => ?_)
                          refine k_quiet_if (by kernel_rfl) ?_
                          refine ⟨.int .i64 E, fun w' hw' => ?_, ?_⟩
                          · go_simp
                            refine (call23.out w' (hb.out.trans (hw'.mono hb.out.size))).mono ?_
                            rintro e w'' ⟨rfl, hb'⟩
                            exact ⟨rfl, hw'.trans (hb'.mono hw'.size)⟩
                          with_reducible refine hK _ ?_
                          clear hK K
                          simp only [Act.put, List.setIfInBounds_toArray, List.set_cons_zero, List.set_cons_succ]
                          with_reducible refine wpQuiet_step (fun K hK => ?_)
                          refine k_quiet_if (by kernel_rfl) ?_
                          refine ⟨.bool false, fun w' hw' => ?_, ?_⟩
                          · first | (go_simp; done) | (go_simp; decide) | (go_simp; omega)
                          with_reducible refine hK _ ?_
                          clear hK K
                          simp only [Act.put, List.setIfInBounds_toArray, List.set_cons_zero, List.set_cons_succ]
                          with_reducible refine wpQuiet_step (fun K hK => ?_)
                          refine ⟨.bool false, fun w' hw' => ?_, ?_⟩
                          · first | (go_simp; done) | (go_simp; decide) | (go_simp; omega)
                          with_reducible refine hK _ ?_
                          clear hK K
                          simp only [Act.put, List.setIfInBounds_toArray, List.set_cons_zero, List.set_cons_succ]
                          with_reducible refine wpQuiet_step (fun K hK => ?_)
                          refine ⟨.bool false, fun w' hw' => ?_, ?_⟩
                          · first | (go_simp; done) | (go_simp; decide) | (go_simp; omega)
                          with_reducible refine hK _ ?_
                          clear hK K
                          simp only [Act.put, List.setIfInBounds_toArray, List.set_cons_zero, List.set_cons_succ]
                          with_reducible refine wpQuiet_step (fun K hK => ?_)
                          refine k_quiet_else (by kernel_rfl) ?_
                          with_reducible refine hK _ ?_
                          clear hK K
                          simp only [Act.put, List.setIfInBounds_toArray, List.set_cons_zero, List.set_cons_succ]
                          with_reducible refine wpQuiet_step (fun K hK => ?_)
                          refine k_quiet_else (by kernel_rfl) ?_
                          with_reducible refine hK _ ?_
                          clear hK K
                          simp only [Act.put, List.setIfInBounds_toArray, List.set_cons_zero, List.set_cons_succ]
                          with_reducible refine wpQuiet_step (fun K hK => ?_)
                          refine k_quiet_else (by kernel_rfl) ?_
                          with_reducible refine hK _ ?_
                          clear hK K
                          simp only [Act.put, List.setIfInBounds_toArray, List.set_cons_zero, List.set_cons_succ]
                          with_reducible refine wpQuiet_step (fun K hK => ?_)
                          refine k_quiet_else (by kernel_rfl) ?_
                          with_reducible refine hK _ ?_
                          clear hK K
                          simp only [Act.put, List.setIfInBounds_toArray, List.set_cons_zero, List.set_cons_succ]
                          with_reducible refine wpQuiet_step (fun K hK => ?_)
                          refine k_quiet_else (by kernel_rfl) ?_
                          with_reducible refine hK _ ?_
                          clear hK K
                          simp only [Act.put, List.setIfInBounds_toArray, List.set_cons_zero, List.set_cons_succ]
                          with_reducible refine wpQuiet_step (fun K hK => ?_)
                          refine k_quiet_else (by kernel_rfl) ?_
                          with_reducible refine hK _ ?_
                          clear hK K
                          simp only [Act.put, List.setIfInBounds_toArray, List.set_cons_zero, List.set_cons_succ]
                          with_reducible refine wpQuiet_step (fun K hK => ?_)
                          refine k_quiet_else (by kernel_rfl) ?_
                          with_reducible refine hK _ ?_
                          clear hK K
                          simp only [Act.put, List.setIfInBounds_toArray, List.set_cons_zero, List.set_cons_succ]
                          with_reducible refine wpQuiet_step (fun K hK => ?_)
                          refine k_quiet_else (by kernel_rfl) ?_
                          with_reducible refine hK _ ?_
                          clear hK K
                          simp only [Act.put, List.setIfInBounds_toArray, List.set_cons_zero, List.set_cons_succ]
                          with_reducible refine wpQuiet_step (fun K hK => ?_)
                          refine k_quiet_else (by kernel_rfl) ?_
                          with_reducible refine hK _ ?_
                          clear hK K
                          simp only [Act.put, List.setIfInBounds_toArray, List.set_cons_zero, List.set_cons_succ]
                          with_reducible refine wpQuiet_step (fun K hK => ?_)
                          refine k_quiet_else (by kernel_rfl) ?_
                          with_reducible refine hK _ ?_
                          clear hK K
                          simp only [Act.put, List.setIfInBounds_toArray, List.set_cons_zero, List.set_cons_succ]
                          with_reducible refine wpQuiet_step (fun K hK => ?_)
                          refine k_quiet_else (by kernel_rfl) ?_
                          with_reducible refine hK _ ?_
                          clear hK K
                          simp only [Act.put, List.setIfInBounds_toArray, List.set_cons_zero, List.set_cons_succ]
                          with_reducible refine wpQuiet_step (fun K hK => ?_)
                          refine ⟨.bool false, fun w' hw' => ?_, ?_⟩
                          · first | (go_simp; done) | (go_simp; decide) | (go_simp; omega)
                          with_reducible refine hK _ ?_
                          clear hK K
                          simp only [Act.put, List.setIfInBounds_toArray, List.set_cons_zero, List.set_cons_succ]
                          refine wpQuiet_nil ?_
                          intro X1 hX1
                          have hb' := hid_e (hb.out.trans (hX1.mono hb.out.size))
                          clear hX1 hb call23 call13 htr x0 x1 x2 x3 x4 x5 x6 y0 y1 y2 y3 y4 y5 y6 v0 v1 v2 v3 v4 v5 v6
                          go_wp2_with fail
                          exact ⟨⟨r + 1, by go_num, by omega, hb'⟩, by simp [intOf]; omega⟩
                      · skip
                        refine wp_region_quiet (C := fun w' => Below wr.heap.size wr w') (by kernel_rfl) (by kernel_rfl) (below_drewN (Below.refl _ _) 1) ?_
                        with_reducible refine wpQuiet_step (fun K hK => ?_)
                        refine ⟨.int .i64 C, fun w' hw' => ?_, ?_⟩
                        · first | (go_simp; done) | (go_simp; decide) | (go_simp; omega)
                        with_reducible refine hK _ ?_
                        clear hK K
                        simp only [Act.put, List.setIfInBounds_toArray, List.set_cons_zero, List.set_cons_succ]
                        with_reducible refine wpQuiet_step (fun K hK => ?_)
                        refine ⟨.bool false, fun w' hw' => ?_, ?_⟩
                        · first | (go_simp; done) | (go_simp; decide) | (go_simp; omega)
                        with_reducible refine hK _ ?_
                        clear hK K
                        simp only [Act.put, List.setIfInBounds_toArray, List.set_cons_zero, List.set_cons_succ]
                        with_reducible refine wpQuiet_step (fun K hK => ?_)
                        refine ⟨.bool false, fun w' hw' => ?_, ?_⟩
                        · first | (go_simp; done) | (go_simp; decide) | (go_simp; omega)
                        with_reducible refine hK _ ?_
                        clear hK K
                        simp only [Act.put, List.setIfInBounds_toArray, List.set_cons_zero, List.set_cons_succ]
                        with_reducible refine wpQuiet_step (fun K hK => ?_)
                        refine k_quiet_else (by kernel_rfl) ?_
                        with_reducible refine hK _ ?_
                        clear hK K
                        simp only [Act.put, List.setIfInBounds_toArray, List.set_cons_zero, List.set_cons_succ]
                        with_reducible refine wpQuiet_step (fun K hK => ?_)
                        refine k_quiet_else (by kernel_rfl) ?_
                        with_reducible refine hK _ ?_
                        clear hK K
                        simp only [Act.put, List.setIfInBounds_toArray, List.set_cons_zero, List.set_cons_succ]
                        with_reducible refine wpQuiet_step (fun K hK => ?_)
                        refine k_quiet_else (by kernel_rfl) ?_
                        with_reducible refine hK _ ?_
                        clear hK K
                        simp only [Act.put, List.setIfInBounds_toArray, List.set_cons_zero, List.set_cons_succ]
                        with_reducible refine wpQuiet_step (fun K hK => ?_)
                        refine k_quiet_else (by kernel_rfl) ?_
                        with_reducible refine hK _ ?_
                        clear hK K
                        simp only [Act.put, List.setIfInBounds_toArray, List.set_cons_zero, List.set_cons_succ]
                        with_reducible refine wpQuiet_step (fun K hK => ?_)
                        refine k_quiet_else (by kernel_rfl) ?_
                        with_reducible refine hK _ ?_
                        clear hK K
                        simp only [Act.put, List.setIfInBounds_toArray, List.set_cons_zero, List.set_cons_succ]
                        with_reducible refine wpQuiet_step (fun K hK => ?_)
                        refine k_quiet_else (by kernel_rfl) ?_
                        with_reducible refine hK _ ?_
                        clear hK K
                        simp only [Act.put, List.setIfInBounds_toArray, List.set_cons_zero, List.set_cons_succ]
                        with_reducible refine wpQuiet_step (fun K hK => ?_)
                        refine k_quiet_else (by kernel_rfl) ?_
                        with_reducible refine hK _ ?_
                        clear hK K
                        simp only [Act.put, List.setIfInBounds_toArray, List.set_cons_zero, List.set_cons_succ]
                        with_reducible refine wpQuiet_step (fun K hK => ?_)
                        refine k_quiet_else (by kernel_rfl) ?_
                        with_reducible refine hK _ ?_
                        clear hK K
                        simp only [Act.put, List.setIfInBounds_toArray, List.set_cons_zero, List.set_cons_succ]
                        with_reducible refine wpQuiet_step (fun K hK => ?_)
                        refine k_quiet_else (by kernel_rfl) ?_
                        with_reducible refine hK _ ?_
                        clear hK K
                        simp only [Act.put, List.setIfInBounds_toArray, List.set_cons_zero, List.set_cons_succ]
                        with_reducible refine wpQuiet_step (fun K hK => ?_)
                        refine k_quiet_else (by kernel_rfl) ?_
                        with_reducible refine hK _ ?_
                        clear hK K
                        simp only [Act.put, List.setIfInBounds_toArray, List.set_cons_zero, List.set_cons_succ]
                        with_reducible refine wpQuiet_step (fun K hK => ?_)
                        refine k_quiet_else (by kernel_rfl) ?_
                        with_reducible refine hK _ ?_
                        clear hK K
                        simp only [Act.put, List.setIfInBounds_toArray, List.set_cons_zero, List.set_cons_succ]
                        with_reducible refine wpQuiet_step (fun K hK => ?_)
                        refine ⟨.bool false, fun w' hw' => ?_, ?_⟩
                        · first | (go_simp; done) | (go_simp; decide) | (go_simp; omega)
                        with_reducible refine hK _ ?_
                        clear hK K
                        simp only [Act.put, List.setIfInBounds_toArray, List.set_cons_zero, List.set_cons_succ]
                        with_reducible refine wpQuiet_step (fun K hK => ?_)
                        refine ⟨.bool false, fun w' hw' => ?_, ?_⟩
                        · first | (go_simp; done) | (go_simp; decide) | (go_simp; omega)
                        with_reducible refine hK _ ?_
                        clear hK K
                        simp only [Act.put, List.setIfInBounds_toArray, List.set_cons_zero, List.set_cons_succ]
                        with_reducible refine wpQuiet_step (fun K hK => ?_)
                        refine k_quiet_else (by kernel_rfl) ?_
                        with_reducible refine hK _ ?_
                        clear hK K
                        simp only [Act.put, List.setIfInBounds_toArray, List.set_cons_zero, List.set_cons_succ]
                        with_reducible refine wpQuiet_step (fun K hK => ?_)
                        refine k_quiet_else (by kernel_rfl) ?_
                        with_reducible refine hK _ ?_
                        clear hK K
                        simp only [Act.put, List.setIfInBounds_toArray, List.set_cons_zero, List.set_cons_succ]
                        with_reducible refine wpQuiet_step (fun K hK => ?_)
                        refine k_quiet_else (by kernel_rfl) ?_
                        with_reducible refine hK _ ?_
                        clear hK K
                        simp only [Act.put, List.setIfInBounds_toArray, List.set_cons_zero, List.set_cons_succ]
                        with_reducible refine wpQuiet_step (fun K hK => ?_)
                        refine k_quiet_else (by kernel_rfl) ?_
                        with_reducible refine hK _ ?_
                        clear hK K
                        simp only [Act.put, List.setIfInBounds_toArray, List.set_cons_zero, List.set_cons_succ]
                        with_reducible refine wpQuiet_step (fun K hK => ?_)
                        refine k_quiet_else (by kernel_rfl) ?_
                        with_reducible refine hK _ ?_
                        clear hK K
                        simp only [Act.put, List.setIfInBounds_toArray, List.set_cons_zero, List.set_cons_succ]
                        with_reducible refine wpQuiet_step (fun K hK => ?_)
                        refine k_quiet_else (by kernel_rfl) ?_
                        with_reducible refine hK _ ?_
                        clear hK K
                        simp only [Act.put, List.setIfInBounds_toArray, List.set_cons_zero, List.set_cons_succ]
                        with_reducible refine wpQuiet_step (fun K hK => ?_)
                        refine k_quiet_else (by kernel_rfl) ?_
                        with_reducible refine hK _ ?_
                        clear hK K
                        simp only [Act.put, List.setIfInBounds_toArray, List.set_cons_zero, List.set_cons_succ]
                        with_reducible refine wpQuiet_step (fun K hK => ?_)
                        refine k_quiet_else (by kernel_rfl) ?_
                        with_reducible refine hK _ ?_
                        clear hK K
                        simp only [Act.put, List.setIfInBounds_toArray, List.set_cons_zero, List.set_cons_succ]
                        with_reducible refine wpQuiet_step (fun K hK => ?_)
                        refine k_quiet_else (by kernel_rfl) ?_
                        with_reducible refine hK _ ?_
                        clear hK K
                        simp only [Act.put, List.setIfInBounds_toArray, List.set_cons_zero, List.set_cons_succ]
                        with_reducible refine wpQuiet_step (fun K hK => ?_)
                        refine k_quiet_else (by kernel_rfl) ?_
                        with_reducible refine hK _ ?_
                        clear hK K
                        simp only [Act.put, List.setIfInBounds_toArray, List.set_cons_zero, List.set_cons_succ]
                        with_reducible refine wpQuiet_step (fun K hK => ?_)
                        refine k_quiet_else (by kernel_rfl) ?_
                        with_reducible refine hK _ ?_
                        clear hK K
                        simp only [Act.put, List.setIfInBounds_toArray, List.set_cons_zero, List.set_cons_succ]
                        with_reducible refine wpQuiet_step (fun K hK => ?_)
                        refine ⟨.bool false, fun w' hw' => ?_, ?_⟩
                        · first | (go_simp; done) | (go_simp; decide) | (go_simp; omega)
                        with_reducible refine hK _ ?_
                        clear hK K
                        simp only [Act.put, List.setIfInBounds_toArray, List.set_cons_zero, List.set_cons_succ]
                        refine wpQuiet_nil ?_
                        intro X1 hX1
                        have hb' := hid_e (hb.out.trans (hX1.mono hb.out.size))
                        clear hX1 hb call23 call13 htr x0 x1 x2 x3 x4 x5 x6 y0 y1 y2 y3 y4 y5 y6 v0 v1 v2 v3 v4 v5 v6
                        go_wp2_with fail
                        exact ⟨⟨r + 1, by go_num, by omega, hb'⟩, by simp [intOf]; omega⟩
                    · skip
                      obtain rfl : r = n := by omega
                      have r1 : ¬ (r : Int) < (r : Int) := by omega
                      clear hCr
                      go_wp2_with fail
                      exact ⟨⟨p + 1, by go_num, by omega, hb⟩, by simp [intOf]; omega⟩
                · skip
                  obtain rfl : p = n := by omega
                  have p1 : ¬ (p : Int) < (p : Int) := by omega
                  go_wp2_with fail
                  exact ⟨⟨q + 1, by go_num, by omega, hb⟩, by simp [intOf]; omega⟩
            · skip
              obtain rfl : q = n := by omega
              have q1 : ¬ (q : Int) < (q : Int) := by omega
              clear hlt hq
              obtain ⟨n, hnq⟩ : ∃ n, n = q := ⟨_, rfl⟩
              subst hnq
              have ord := hid_e (sorder_any ts tm sb sc sa a c n ds wr htm.out htm8 (stay hb.out hs0.out) (hsk.out.keep hb.out) hpo.out.1 (hR7.out.keep hb.out) hP7.out hSd.out hn.out (by omega) (hD7.out.keep hb.out))
              obtain ⟨L, hL⟩ : ∃ L, Hid (isort (ltK' ts) ds = L) := ⟨_, rfl⟩
              rw [hL.out] at ord
              have hLr : Hid (isort (ltK' ts) ds.reverse = L) := by rw [← hL.out]; exact (order_one hI.out rev_ids).symm
              have hLl : Hid (L.length = n) := by rw [← hL.out, isort_length]; exact hn.out
              have hLp : Hid (L.Perm ds) := by rw [← hL.out]; exact isort_perm _ ds
              have hLn : Hid (∀ i x y, L[i]? = some x → L[i + 1]? = some y → cnK ts x y < 0) := by rw [← hL.out]; exact fun i x y hx hy => isort_next hI.out hx hy
              clear hL
              go_wp2_with fail
              refine ord.out.mono ?_
              rintro e Y1 ⟨oa, rfl, hda, -, -, hy1⟩
              clear ord
              have hb1 := hid_e (hb.out.trans (hy1.mono hb.out.size))
              replace hda := hid_e hda
              clear hy1 hb
              obtain ⟨i7, hi, hz0, hz1, hz2⟩ := info_parts AD
              have hD1 : Hid (DocsAt Y1 a ds) := hD7.out.keep hb1.out
              go_wp2_with fail
              go_loopw [16, 17] (fun bv iv wr => ∃ (p : Nat) (ab : Option Addr) (cb : Nat), bv = .slice ab p cb ∧ iv = .int .i64 ((n : Int) - 1 - (p : Int)) ∧ p ≤ n ∧ Hid (DRow Y1.heap.size wr (.slice ab p cb) (ds.reverse.take p)) ∧ Hid (Below Y1.heap.size Y1 wr)) (fun _ iv _ => (intOf iv + 1).toNat)
              case atStart => exact ⟨0, none, 0, rfl, by simp, Nat.zero_le _, World.ownsRow_nil _ _ _ _, Below.refl _ _⟩
              case round =>
                obtain ⟨p, ab, cb, rfl, rfl, hp, hrow, hb⟩ := hrel
                have hrl : Hid ((ds.reverse.take p).length = p) := by rw [List.length_take, List.length_reverse, hn.out]; show _ = _; omega
                by_cases hlt : p < n
                · skip
                  obtain ⟨i, hii⟩ : ∃ i : Nat, Hid (n = i + 1 + p) := ⟨n - 1 - p, by show _ = _; omega⟩
                  have hiv : (n : Int) - 1 - (p : Int) = (i : Int) := by have := hii.out; omega
                  rw [hiv]
                  have i0 : (0 : Int) ≤ (i : Int) := by omega
                  have i1 : (i : Int) < (n : Int) := by have := hii.out; omega
                  have i2 : (i : Int) ≤ 30 := by omega
                  obtain ⟨d1, hd1⟩ : ∃ d, Hid (ds[i]? = some d) := ⟨ds[i]'(by rw [hn.out]; have := hii.out; omega), List.getElem?_eq_getElem (by rw [hn.out]; have := hii.out; omega)⟩
                  have hdr : Hid (ds.reverse[p]? = some d1) := by rw [rev_at hn.out hlt, show n - 1 - p = i by have := hii.out; omega]; exact hd1.out
                  obtain ⟨b, o, ea, hc1⟩ := (hD1.out.keep hb.out) i d1 hd1.out
                  subst ea
                  unfold Dc.cells at hc1
                  obtain ⟨x0, x1, x2, x3, x4, x5, x6⟩ := cells7 hc1
                  clear hc1
                  have hrow2 : Hid ((wr.alloc (.cells #[.string d1.id, .int .i64 d1.ver, .int .i64 d1.k, .int .i64 d1.x, .string d1.s, .slice d1.an d1.ln d1.cn, .slice d1.ai d1.li d1.ci] 50)).ownsRow Y1.heap.size 50 7 (.slice ab p cb) p (cellsD (ds.reverse.take p))) := by have h := hrow.out; unfold DRow at h; rw [hrl.out] at h; exact h.alloc _
                  have hbb : Hid (Y1.heap.size ≤ (wr.alloc (.cells #[.string d1.id, .int .i64 d1.ver, .int .i64 d1.k, .int .i64 d1.x, .string d1.s, .slice d1.an d1.ln d1.cn, .slice d1.ai d1.li d1.ci] 50)).heap.size) := by rw [World.size_alloc]; show _ ≤ _; have := hb.out.size; omega
                  clear hiv
                  go_wp2_with (at_builtin; refine wpList_append_lies _ rfl _ _ 26 rfl Y1.heap.size 50 i7 _ 7 104 Tryz.underlying26 hi hz0 hz1 hz2 rfl (by decide) (.slice ab p cb) p (cellsD (ds.reverse.take p)) rfl hrow2.out _ 1 1 [.string d1.id, .int .i64 d1.ver, .int .i64 d1.k, .int .i64 d1.x, .string d1.s, .slice d1.an d1.ln d1.cn, .slice d1.ai d1.li d1.ci] rfl rfl (World.news_of_block (heap_alloc_new wr _)) (by intro u hu; simp only [List.mem_cons, List.not_mem_nil, or_false] at hu; rcases hu with rfl | rfl | rfl | rfl | rfl | rfl | rfl <;> rfl) (by decide) (by unfold maxLen; omega) (by omega) hbb.out _ rfl ?_; intro g3 c3 w3 hown3 hgrow3 hat3 hlt3)
                  have hrow3 : Hid (DRow Y1.heap.size w3 (.slice (some ⟨g3, 0, none⟩) (p + 1) c3) (ds.reverse.take (p + 1))) := by
                    show World.ownsRow _ _ _ _ _ _ _
                    rw [List.take_add_one, hdr.out, Option.toList, List.length_append, hrl.out, cellsD_append, show cellsD [d1] = d1.cells by simp [cellsD]]
                    exact hown3
                  have hb3 : Hid (Below Y1.heap.size Y1 w3) := (hb.out.alloc hb.out.size _).trans (grown_below hgrow3 hbb.out (fun g hg => (ownsRow_ge hrow.out hg).1))
                  have hfi : (i : Int) - 1 = (n : Int) - 1 - ((p + 1 : Nat) : Int) := by have := hii.out; omega
                  exact ⟨⟨p + 1, some ⟨g3, 0, none⟩, c3, rfl, by rw [← hfi], by omega, hrow3, hb3⟩, by simp [intOf]⟩
                · skip
                  obtain rfl : p = n := by omega
                  have e0 : (p : Int) - 1 - (p : Int) = -1 := by omega
                  rw [e0]
                  clear e0
                  rw [List.take_of_length_le (by rw [List.length_reverse, hn.out]; exact Nat.le_refl _)] at hrow
                  obtain ⟨n, hnq⟩ : ∃ n, n = p := ⟨_, rfl⟩
                  subst hnq
                  have hBw : Hid (Below W5.heap.size W5 wr) := hb1.out.trans (hb.out.mono hb1.out.size)
                  have hRr : Hid (Reads' wr ds.reverse) := fun d hd => (hR7.out.keep hBw.out) d (List.mem_reverse.1 hd)
                  have ord := hid_e (sorder_any ts tm sb sc sa ab cb n ds.reverse wr htm.out htm8 (stay hBw.out hs0.out) (hsk.out.keep hBw.out) hpo.out.1 hRr.out (fun d hd => hP7.out d (List.mem_reverse.1 hd)) (fun d hd => hSd.out d (List.mem_reverse.1 hd)) (by rw [List.length_reverse]; exact hn.out) (by omega) hrow.out.docs)
                  rw [hLr.out] at ord
                  clear hrow hrl hRr hLr hlt hp
                  go_wp2_with fail
                  refine ord.out.mono ?_
                  rintro e Y2 ⟨ob, rfl, hdb, -, -, hy2⟩
                  clear ord
                  have hB2 := hid_e (hBw.out.trans (hy2.mono hBw.out.size))
                  have hda2 := hid_e (hda.out.keep (hb.out.trans (hy2.mono hb.out.size)))
                  replace hdb := hid_e hdb
                  clear hy2 hBw hb hb1 hda
                  have hRL : Hid (Reads' W5 L) := fun d hd => hR7.out d (hLp.out.mem_iff.1 hd)
                  have dc1 := hid_e (docs_self (some ⟨oa, 0, none⟩) (some ⟨ob, 0, none⟩) n n n L Y2 hLl.out (by omega) hda2.out hdb.out (hRL.out.keep hB2.out))
                  have hnn : ((n : Int) != (n : Int)) = false := by simp
                  go_wp2_with fail
                  refine dc1.out.mono ?_
                  rintro e Y3 ⟨rfl, hy3⟩
                  clear dc1
                  have hB3 := hid_e (hB2.out.trans (hy3.mono hB2.out.size))
                  have hda3 := hid_e (hda2.out.keep hy3)
                  clear hy3 hB2 hda2 hdb
                  go_wp2_with fail
                  go_loopw [19] (fun iv wr => ∃ (q : Nat), iv = .int .i64 q ∧ q ≤ n ∧ Hid (Below Y3.heap.size Y3 wr)) (fun iv _ => n - (intOf iv).toNat)
                  case atStart => exact ⟨0, rfl, Nat.zero_le _, Below.refl _ _⟩
                  case round =>
                    obtain ⟨q, rfl, hq, hb⟩ := hrel
                    have q0 : (0 : Int) ≤ (q : Int) := by omega
                    have q2 : (q : Int) ≤ 30 := by omega
                    have hBr : Hid (Below W5.heap.size W5 wr) := hB3.out.trans (hb.out.mono hB3.out.size)
                    by_cases hlt : q < n
                    · skip
                      have q1 : (q : Int) < (n : Int) := by omega
                      obtain ⟨d1, hd1⟩ : ∃ d, Hid (ds[q]? = some d) := ⟨ds[q]'(by rw [hn.out]; omega), List.getElem?_eq_getElem (by rw [hn.out]; omega)⟩
                      have hc1 := (hD7.out.keep hBr.out) q d1 hd1.out
                      obtain ⟨b, o, ea, hc1⟩ := hc1
                      subst ea
                      unfold Dc.cells at hc1
                      obtain ⟨x0, x1, x2, x3, x4, x5, x6⟩ := cells7 hc1
                      clear hc1
                      obtain ⟨e2, he2⟩ : ∃ d, Hid (L[q]? = some d) := ⟨L[q]'(by rw [hLl.out]; omega), List.getElem?_eq_getElem (by rw [hLl.out]; omega)⟩
                      obtain ⟨N, hN⟩ : ∃ N, Hid (cntId ds d1.id = N) := ⟨_, rfl⟩
                      have m1 := List.mem_of_getElem? hd1.out
                      have cnt1 := hid_e (fun W (hW : Below wr.heap.size wr W) => lcount_any (some ⟨oa, 0, none⟩) n n L d1 W hLl.out (by omega) (hda3.out.keep (hb.out.trans (hW.mono hb.out.size))) (VRep.keep (hBr.out.trans (hW.mono hBr.out.size)) _ _ (hR7.out d1 m1)) (fun x hx e => hI.out.eq (hLp.out.mem_iff.1 hx) m1 e))
                      rw [cntId_perm hLp.out, hN.out] at cnt1
                      have cnt2 := hid_e (fun W (hW : Below wr.heap.size wr W) => lcount_any (some ⟨b, o, none⟩) c n ds d1 W hn.out (by omega) ((hD7.out.keep hBr.out).keep hW) (VRep.keep (hBr.out.trans (hW.mono hBr.out.size)) _ _ (hR7.out d1 m1)) (fun x hx e => hI.out.eq hx m1 e))
                      rw [hN.out] at cnt2
                      have hNN : ((N : Int) != (N : Int)) = false := by simp
                      clear hN
                      by_cases hq0 : q = 0
                      · skip
                        subst hq0
                        rw [Nat.zero_mul, Nat.add_zero] at x0 x1 x2 x3 x4 x5 x6
                        have q9 : ¬ (0 : Int) < ((0 : Nat) : Int) := by omega
                        go_upto_region 43 with fail
                        refine wp_region_quiet (C := fun w' => Below wr.heap.size wr w') (by kernel_rfl) (by kernel_rfl) (below_drewN (Below.refl _ _) 1) ?_
                        with_reducible refine wpQuiet_step (fun K hK => ?_)
                        refine ⟨.slice (some ⟨oa, 0, none⟩) n n, fun w' hw' => ?_, ?_⟩
                        · first | (go_simp; done) | (go_simp; decide) | (go_simp; omega)
                        with_reducible refine hK _ ?_
                        clear hK K
                        simp only [Act.put, List.setIfInBounds_toArray, List.set_cons_zero, List.set_cons_succ]
                        with_reducible refine wpQuiet_step (fun K hK => ?_)
                        refine ⟨.slice (some ⟨b, o, none⟩) n c, fun w' hw' => ?_, ?_⟩
                        · first | (go_simp; done) | (go_simp; decide) | (go_simp; omega)
                        with_reducible refine hK _ ?_
                        clear hK K
                        simp only [Act.put, List.setIfInBounds_toArray, List.set_cons_zero, List.set_cons_succ]
                        with_reducible refine wpQuiet_step (fun K hK => ?_)
                        refine ⟨.int .i64 0, fun w' hw' => ?_, ?_⟩
                        · first | (go_simp; done) | (go_simp; decide) | (go_simp; omega)
                        with_reducible refine hK _ ?_
                        clear hK K
                        simp only [Act.put, List.setIfInBounds_toArray, List.set_cons_zero, List.set_cons_succ]
                        with_reducible refine wpQuiet_step (fun K hK => ?_)
                        refine ⟨.pointer (some ⟨b, o, none⟩), fun w' hw' => ?_, ?_⟩
                        · first | (go_simp; done) | (go_simp; decide) | (go_simp; omega)
                        with_reducible refine hK _ ?_
                        clear hK K
                        simp only [Act.put, List.setIfInBounds_toArray, List.set_cons_zero, List.set_cons_succ]
                        with_reducible refine wpQuiet_step (fun K hK => ?_)
                        refine ⟨.agg #[.string d1.id, .int .i64 d1.ver, .int .i64 d1.k, .int .i64 d1.x, .string d1.s, .slice d1.an d1.ln d1.cn, .slice d1.ai d1.li d1.ci], fun w' hw' => ?_, ?_⟩
                        · have t0 := stay hw' x0; have t1 := stay hw' x1; have t2 := stay hw' x2; have t3 := stay hw' x3; have t4 := stay hw' x4; have t5 := stay hw' x5; have t6 := stay hw' x6; go_simp
                        with_reducible refine hK _ ?_
                        clear hK K
                        simp only [Act.put, List.setIfInBounds_toArray, List.set_cons_zero, List.set_cons_succ]
                        with_reducible refine wpQuiet_step (fun K hK => ?_)
                        refine ⟨.int .i64 N, fun w' hw' => ?_, ?_⟩
                        · go_simp
                          refine (cnt1.out w' hw').mono ?_
                          rintro e w'' ⟨rfl, hb'⟩
                          exact ⟨rfl, hw'.trans (hb'.mono hw'.size)⟩
                        with_reducible refine hK _ ?_
                        clear hK K
                        simp only [Act.put, List.setIfInBounds_toArray, List.set_cons_zero, List.set_cons_succ]
                        with_reducible refine wpQuiet_step (fun K hK => ?_)
                        refine ⟨.slice (some ⟨b, o, none⟩) n c, fun w' hw' => ?_, ?_⟩
                        · first | (go_simp; done) | (go_simp; decide) | (go_simp; omega)
                        with_reducible refine hK _ ?_
                        clear hK K
                        simp only [Act.put, List.setIfInBounds_toArray, List.set_cons_zero, List.set_cons_succ]
                        with_reducible refine wpQuiet_step (fun K hK => ?_)
                        refine ⟨.slice (some ⟨b, o, none⟩) n c, fun w' hw' => ?_, ?_⟩
                        · first | (go_simp; done) | (go_simp; decide) | (go_simp; omega)
                        with_reducible refine hK _ ?_
                        clear hK K
                        simp only [Act.put, List.setIfInBounds_toArray, List.set_cons_zero, List.set_cons_succ]
                        with_reducible refine wpQuiet_step (fun K hK => ?_)
                        refine ⟨.int .i64 0, fun w' hw' => ?_, ?_⟩
                        · first | (go_simp; done) | (go_simp; decide) | (go_simp; omega)
                        with_reducible refine hK _ ?_
                        clear hK K
                        simp only [Act.put, List.setIfInBounds_toArray, List.set_cons_zero, List.set_cons_succ]
                        with_reducible refine wpQuiet_step (fun K hK => ?_)
                        refine ⟨.pointer (some ⟨b, o, none⟩), fun w' hw' => ?_, ?_⟩
                        · first | (go_simp; done) | (go_simp; decide) | (go_simp; omega)
                        with_reducible refine hK _ ?_
                        clear hK K
                        simp only [Act.put, List.setIfInBounds_toArray, List.set_cons_zero, List.set_cons_succ]
                        with_reducible refine wpQuiet_step (fun K hK => ?_)
                        refine ⟨.agg #[.string d1.id, .int .i64 d1.ver, .int .i64 d1.k, .int .i64 d1.x, .string d1.s, .slice d1.an d1.ln d1.cn, .slice d1.ai d1.li d1.ci], fun w' hw' => ?_, ?_⟩
                        · have t0 := stay hw' x0; have t1 := stay hw' x1; have t2 := stay hw' x2; have t3 := stay hw' x3; have t4 := stay hw' x4; have t5 := stay hw' x5; have t6 := stay hw' x6; go_simp
                        with_reducible refine hK _ ?_
                        clear hK K
                        simp only [Act.put, List.setIfInBounds_toArray, List.set_cons_zero, List.set_cons_succ]
                        with_reducible refine wpQuiet_step (fun K hK => ?_)
                        refine ⟨.int .i64 N, fun w' hw' => ?_, ?_⟩
                        · go_simp
                          refine (cnt2.out w' hw').mono ?_
                          rintro e w'' ⟨rfl, hb'⟩
                          exact ⟨rfl, hw'.trans (hb'.mono hw'.size)⟩
                        with_reducible refine hK _ ?_
                        clear hK K
                        simp only [Act.put, List.setIfInBounds_toArray, List.set_cons_zero, List.set_cons_succ]
                        with_reducible refine wpQuiet_step (fun K hK => ?_)
                        refine ⟨.bool false, fun w' hw' => ?_, ?_⟩
                        · first | (go_simp; done) | (go_simp; decide) | (go_simp; omega)
                        with_reducible refine hK _ ?_
                        clear hK K
                        simp only [Act.put, List.setIfInBounds_toArray, List.set_cons_zero, List.set_cons_succ]
                        with_reducible refine wpQuiet_step (fun K hK => ?_)
                        refine ⟨.bool false, fun w' hw' => ?_, ?_⟩
                        · first | (go_simp; done) | (go_simp; decide) | (go_simp; omega)
                        with_reducible refine hK _ ?_
                        clear hK K
                        simp only [Act.put, List.setIfInBounds_toArray, List.set_cons_zero, List.set_cons_succ]
                        with_reducible refine wpQuiet_step (fun K hK => ?_)
                        refine k_quiet_if (by kernel_rfl) ?_
                        refine ⟨.int .i64 0, fun w' hw' => ?_, ?_⟩
                        · first | (go_simp; done) | (go_simp; decide) | (go_simp; omega)
                        with_reducible refine hK _ ?_
                        clear hK K
                        simp only [Act.put, List.setIfInBounds_toArray, List.set_cons_zero, List.set_cons_succ]
                        with_reducible refine wpQuiet_step (fun K hK => ?_)
                        refine k_quiet_if (by kernel_rfl) ?_
                        refine ⟨.bool false, fun w' hw' => ?_, ?_⟩
                        · first | (go_simp; done) | (go_simp; decide) | (go_simp; omega)
                        with_reducible refine hK _ ?_
                        clear hK K
                        simp only [Act.put, List.setIfInBounds_toArray, List.set_cons_zero, List.set_cons_succ]
                        with_reducible refine wpQuiet_step (fun K hK => ?_)
                        refine k_quiet_if (by kernel_rfl) ?_
                        refine ⟨.bool false, fun w' hw' => ?_, ?_⟩
                        · first | (go_simp; done) | (go_simp; decide) | (go_simp; omega)
                        with_reducible refine hK _ ?_
                        clear hK K
                        simp only [Act.put, List.setIfInBounds_toArray, List.set_cons_zero, List.set_cons_succ]
                        with_reducible refine wpQuiet_step (fun K hK => ?_)
                        refine k_quiet_else (by kernel_rfl) ?_
                        with_reducible refine hK _ ?_
                        clear hK K
                        simp only [Act.put, List.setIfInBounds_toArray, List.set_cons_zero, List.set_cons_succ]
                        with_reducible refine wpQuiet_step (fun K hK => ?_)
                        refine k_quiet_else (by kernel_rfl) ?_
                        with_reducible refine hK _ ?_
                        clear hK K
                        simp only [Act.put, List.setIfInBounds_toArray, List.set_cons_zero, List.set_cons_succ]
                        with_reducible refine wpQuiet_step (fun K hK => ?_)
                        refine k_quiet_else (by kernel_rfl) ?_
                        with_reducible refine hK _ ?_
                        clear hK K
                        simp only [Act.put, List.setIfInBounds_toArray, List.set_cons_zero, List.set_cons_succ]
                        with_reducible refine wpQuiet_step (fun K hK => ?_)
                        refine k_quiet_else (by kernel_rfl) ?_
                        with_reducible refine hK _ ?_
                        clear hK K
                        simp only [Act.put, List.setIfInBounds_toArray, List.set_cons_zero, List.set_cons_succ]
                        with_reducible refine wpQuiet_step (fun K hK => ?_)
                        refine k_quiet_else (by kernel_rfl) ?_
                        with_reducible refine hK _ ?_
                        clear hK K
                        simp only [Act.put, List.setIfInBounds_toArray, List.set_cons_zero, List.set_cons_succ]
                        with_reducible refine wpQuiet_step (fun K hK => ?_)
                        refine k_quiet_else (by kernel_rfl) ?_
                        with_reducible refine hK _ ?_
                        clear hK K
                        simp only [Act.put, List.setIfInBounds_toArray, List.set_cons_zero, List.set_cons_succ]
                        with_reducible refine wpQuiet_step (fun K hK => ?_)
                        refine k_quiet_else (by kernel_rfl) ?_
                        with_reducible refine hK _ ?_
                        clear hK K
                        simp only [Act.put, List.setIfInBounds_toArray, List.set_cons_zero, List.set_cons_succ]
                        with_reducible refine wpQuiet_step (fun K hK => ?_)
                        refine k_quiet_else (by kernel_rfl) ?_
                        with_reducible refine hK _ ?_
                        clear hK K
                        simp only [Act.put, List.setIfInBounds_toArray, List.set_cons_zero, List.set_cons_succ]
                        with_reducible refine wpQuiet_step (fun K hK => ?_)
                        refine k_quiet_else (by kernel_rfl) ?_
                        with_reducible refine hK _ ?_
                        clear hK K
                        simp only [Act.put, List.setIfInBounds_toArray, List.set_cons_zero, List.set_cons_succ]
                        with_reducible refine wpQuiet_step (fun K hK => ?_)
                        refine k_quiet_else (by kernel_rfl) ?_
                        with_reducible refine hK _ ?_
                        clear hK K
                        simp only [Act.put, List.setIfInBounds_toArray, List.set_cons_zero, List.set_cons_succ]
                        with_reducible refine wpQuiet_step (fun K hK => ?_)
                        refine k_quiet_else (by kernel_rfl) ?_
                        with_reducible refine hK _ ?_
                        clear hK K
                        simp only [Act.put, List.setIfInBounds_toArray, List.set_cons_zero, List.set_cons_succ]
                        with_reducible refine wpQuiet_step (fun K hK => ?_)
                        refine k_quiet_else (by kernel_rfl) ?_
                        with_reducible refine hK _ ?_
                        clear hK K
                        simp only [Act.put, List.setIfInBounds_toArray, List.set_cons_zero, List.set_cons_succ]
                        with_reducible refine wpQuiet_step (fun K hK => ?_)
                        refine k_quiet_if (by kernel_rfl) ?_
                        refine ⟨.bool false, fun w' hw' => ?_, ?_⟩
                        · first | (go_simp; done) | (go_simp; decide) | (go_simp; omega)
                        with_reducible refine hK _ ?_
                        clear hK K
                        simp only [Act.put, List.setIfInBounds_toArray, List.set_cons_zero, List.set_cons_succ]
                        with_reducible refine wpQuiet_step (fun K hK => ?_)
                        refine ⟨.bool false, fun w' hw' => ?_, ?_⟩
                        · first | (go_simp; done) | (go_simp; decide) | (go_simp; omega)
                        with_reducible refine hK _ ?_
                        clear hK K
                        simp only [Act.put, List.setIfInBounds_toArray, List.set_cons_zero, List.set_cons_succ]
                        refine wpQuiet_nil ?_
                        intro X1 hX1
                        have hb' := hid_e (hb.out.trans (hX1.mono hb.out.size))
                        clear hX1 hb hBr cnt1 cnt2 x0 x1 x2 x3 x4 x5 x6
                        go_wp2_with fail
                        exact ⟨⟨0 + 1, by go_num, by omega, hb'⟩, by simp [intOf]; omega⟩
                      · skip
                        obtain ⟨r, hr⟩ : ∃ r, Hid (q = r + 1) := ⟨q - 1, by show _ = _; omega⟩
                        obtain ⟨e1, he1⟩ : ∃ d, Hid (L[r]? = some d) := ⟨L[r]'(by rw [hLl.out]; have := hr.out; omega), List.getElem?_eq_getElem (by rw [hLl.out]; have := hr.out; omega)⟩
                        have hlt2 : Hid (cnK ts e1 e2 < 0) := hLn.out r e1 e2 he1.out (by rw [← hr.out]; exact he2.out)
                        obtain ⟨C, hC⟩ : ∃ C, Hid (cnK ts e1 e2 = C) := ⟨_, rfl⟩
                        have hC0 : ¬ (0 : Int) ≤ C := by have h := hlt2.out; rw [hC.out] at h; omega
                        have call := hid_e (fun W (hW : Below W5.heap.size W5 W) => cmp.out e1 (hLp.out.mem_iff.1 (List.mem_of_getElem? he1.out)) e2 (hLp.out.mem_iff.1 (List.mem_of_getElem? he2.out)) W hW)
                        rw [hC.out] at call
                        obtain ⟨gb, go_, eg, hy⟩ := (hda3.out.keep hb.out) r e1 he1.out
                        injection eg with eg
                        injection eg with e3 e4
                        subst e3
                        subst e4
                        unfold Dc.cells at hy
                        rw [Nat.zero_add] at hy
                        obtain ⟨y0, y1, y2, y3, y4, y5, y6⟩ := cells7 hy
                        clear hy
                        obtain ⟨gb, go_, eg, hy⟩ := (hda3.out.keep hb.out) q e2 he2.out
                        injection eg with eg
                        injection eg with e3 e4
                        subst e3
                        subst e4
                        unfold Dc.cells at hy
                        rw [Nat.zero_add] at hy
                        obtain ⟨v0, v1, v2, v3, v4, v5, v6⟩ := cells7 hy
                        clear hy
                        have q9 : (0 : Int) < (q : Int) := by omega
                        have hwq : IntKind.i64.wrap ((q : Int) - 1) = (r : Int) := by have h := hr.out; rw [wrap_in _ (by omega) (by omega)]; omega
                        have r0 : (0 : Int) ≤ (r : Int) := by omega
                        have r1 : (r : Int) < (n : Int) := by have := hr.out; omega
                        clear he1 he2 hlt2 hC hq0
                        go_upto_region 43 with fail
                        refine wp_region_quiet (C := fun w' => Below wr.heap.size wr w') (by kernel_rfl) (by kernel_rfl) (below_drewN (Below.refl _ _) 1) ?_
                        with_reducible refine wpQuiet_step (fun K hK => ?_)
                        refine ⟨.slice (some ⟨oa, 0, none⟩) n n, fun w' hw' => ?_, ?_⟩
                        · first | (go_simp; done) | (go_simp; decide) | (go_simp; omega)
                        with_reducible refine hK _ ?_
                        clear hK K
                        simp only [Act.put, List.setIfInBounds_toArray, List.set_cons_zero, List.set_cons_succ]
                        with_reducible refine wpQuiet_step (fun K hK => ?_)
                        refine ⟨.slice (some ⟨b, o, none⟩) n c, fun w' hw' => ?_, ?_⟩
                        · first | (go_simp; done) | (go_simp; decide) | (go_simp; omega)
                        with_reducible refine hK _ ?_
                        clear hK K
                        simp only [Act.put, List.setIfInBounds_toArray, List.set_cons_zero, List.set_cons_succ]
                        with_reducible refine wpQuiet_step (fun K hK => ?_)
                        refine ⟨.int .i64 q, fun w' hw' => ?_, ?_⟩
                        · first | (go_simp; done) | (go_simp; decide) | (go_simp; omega)
                        with_reducible refine hK _ ?_
                        clear hK K
                        simp only [Act.put, List.setIfInBounds_toArray, List.set_cons_zero, List.set_cons_succ]
                        with_reducible refine wpQuiet_step (fun K hK => ?_)
                        refine ⟨.pointer (some ⟨b, o + q * 7, none⟩), fun w' hw' => ?_, ?_⟩
                        · first | (go_simp; done) | (go_simp; decide) | (go_simp; omega)
                        with_reducible refine hK _ ?_
                        clear hK K
                        simp only [Act.put, List.setIfInBounds_toArray, List.set_cons_zero, List.set_cons_succ]
                        with_reducible refine wpQuiet_step (fun K hK => ?_)
                        refine ⟨.agg #[.string d1.id, .int .i64 d1.ver, .int .i64 d1.k, .int .i64 d1.x, .string d1.s, .slice d1.an d1.ln d1.cn, .slice d1.ai d1.li d1.ci], fun w' hw' => ?_, ?_⟩
                        · have t0 := stay hw' x0; have t1 := stay hw' x1; have t2 := stay hw' x2; have t3 := stay hw' x3; have t4 := stay hw' x4; have t5 := stay hw' x5; have t6 := stay hw' x6; go_simp
                        with_reducible refine hK _ ?_
                        clear hK K
                        simp only [Act.put, List.setIfInBounds_toArray, List.set_cons_zero, List.set_cons_succ]
                        with_reducible refine wpQuiet_step (fun K hK => ?_)
                        refine ⟨.int .i64 N, fun w' hw' => ?_, ?_⟩
                        · go_simp
                          refine (cnt1.out w' hw').mono ?_
                          rintro e w'' ⟨rfl, hb'⟩
                          exact ⟨rfl, hw'.trans (hb'.mono hw'.size)⟩
                        with_reducible refine hK _ ?_
                        clear hK K
                        simp only [Act.put, List.setIfInBounds_toArray, List.set_cons_zero, List.set_cons_succ]
                        with_reducible refine wpQuiet_step (fun K hK => ?_)
                        refine ⟨.slice (some ⟨b, o, none⟩) n c, fun w' hw' => ?_, ?_⟩
                        · first | (go_simp; done) | (go_simp; decide) | (go_simp; omega)
                        with_reducible refine hK _ ?_
                        clear hK K
                        simp only [Act.put, List.setIfInBounds_toArray, List.set_cons_zero, List.set_cons_succ]
                        with_reducible refine wpQuiet_step (fun K hK => ?_)
                        refine ⟨.slice (some ⟨b, o, none⟩) n c, fun w' hw' => ?_, ?_⟩
                        · first | (go_simp; done) | (go_simp; decide) | (go_simp; omega)
                        with_reducible refine hK _ ?_
                        clear hK K
                        simp only [Act.put, List.setIfInBounds_toArray, List.set_cons_zero, List.set_cons_succ]
                        with_reducible refine wpQuiet_step (fun K hK => ?_)
                        refine ⟨.int .i64 q, fun w' hw' => ?_, ?_⟩
                        · first | (go_simp; done) | (go_simp; decide) | (go_simp; omega)
                        with_reducible refine hK _ ?_
                        clear hK K
                        simp only [Act.put, List.setIfInBounds_toArray, List.set_cons_zero, List.set_cons_succ]
                        with_reducible refine wpQuiet_step (fun K hK => ?_)
                        refine ⟨.pointer (some ⟨b, o + q * 7, none⟩), fun w' hw' => ?_, ?_⟩
                        · first | (go_simp; done) | (go_simp; decide) | (go_simp; omega)
                        with_reducible refine hK _ ?_
                        clear hK K
                        simp only [Act.put, List.setIfInBounds_toArray, List.set_cons_zero, List.set_cons_succ]
                        with_reducible refine wpQuiet_step (fun K hK => ?_)
                        refine ⟨.agg #[.string d1.id, .int .i64 d1.ver, .int .i64 d1.k, .int .i64 d1.x, .string d1.s, .slice d1.an d1.ln d1.cn, .slice d1.ai d1.li d1.ci], fun w' hw' => ?_, ?_⟩
                        · have t0 := stay hw' x0; have t1 := stay hw' x1; have t2 := stay hw' x2; have t3 := stay hw' x3; have t4 := stay hw' x4; have t5 := stay hw' x5; have t6 := stay hw' x6; go_simp
                        with_reducible refine hK _ ?_
                        clear hK K
                        simp only [Act.put, List.setIfInBounds_toArray, List.set_cons_zero, List.set_cons_succ]
                        with_reducible refine wpQuiet_step (fun K hK => ?_)
                        refine ⟨.int .i64 N, fun w' hw' => ?_, ?_⟩
                        · go_simp
                          refine (cnt2.out w' hw').mono ?_
                          rintro e w'' ⟨rfl, hb'⟩
                          exact ⟨rfl, hw'.trans (hb'.mono hw'.size)⟩
                        with_reducible refine hK _ ?_
                        clear hK K
                        simp only [Act.put, List.setIfInBounds_toArray, List.set_cons_zero, List.set_cons_succ]
                        with_reducible refine wpQuiet_step (fun K hK => ?_)
                        refine ⟨.bool false, fun w' hw' => ?_, ?_⟩
                        · first | (go_simp; done) | (go_simp; decide) | (go_simp; omega)
                        with_reducible refine hK _ ?_
                        clear hK K
                        simp only [Act.put, List.setIfInBounds_toArray, List.set_cons_zero, List.set_cons_succ]
                        with_reducible refine wpQuiet_step (fun K hK => ?_)
                        refine ⟨.bool false, fun w' hw' => ?_, ?_⟩
                        · first | (go_simp; done) | (go_simp; decide) | (go_simp; omega)
                        with_reducible refine hK _ ?_
                        clear hK K
                        simp only [Act.put, List.setIfInBounds_toArray, List.set_cons_zero, List.set_cons_succ]
                        with_reducible refine wpQuiet_step (fun K hK => ?_)
                        refine k_quiet_if (by kernel_rfl) ?_
                        refine ⟨.int .i64 q, fun w' hw' => ?_, ?_⟩
                        · first | (go_simp; done) | (go_simp; decide) | (go_simp; omega)
                        with_reducible refine hK _ ?_
                        clear hK K
                        simp only [Act.put, List.setIfInBounds_toArray, List.set_cons_zero, List.set_cons_succ]
                        with_reducible refine wpQuiet_step (fun K hK => ?_)
                        refine k_quiet_if (by kernel_rfl) ?_
                        refine ⟨.bool true, fun w' hw' => ?_, ?_⟩
                        · first | (go_simp; done) | (go_simp; decide) | (go_simp; omega)
                        with_reducible refine hK _ ?_
                        clear hK K
                        simp only [Act.put, List.setIfInBounds_toArray, List.set_cons_zero, List.set_cons_succ]
                        with_reducible refine wpQuiet_step (fun K hK => ?_)
                        refine k_quiet_if (by kernel_rfl) ?_
                        refine ⟨.bool true, fun w' hw' => ?_, ?_⟩
                        · first | (go_simp; done) | (go_simp; decide) | (go_simp; omega)
                        with_reducible refine hK _ ?_
                        clear hK K
                        simp only [Act.put, List.setIfInBounds_toArray, List.set_cons_zero, List.set_cons_succ]
                        with_reducible refine wpQuiet_step (fun K hK => ?_)
                        refine k_quiet_if (by kernel_rfl) ?_
                        refine ⟨.pointer (some ⟨sb, 0, none⟩), fun w' hw' => ?_, ?_⟩
                        · first | (go_simp; done) | (go_simp; decide) | (go_simp; omega)
                        with_reducible refine hK _ ?_
                        clear hK K
                        simp only [Act.put, List.setIfInBounds_toArray, List.set_cons_zero, List.set_cons_succ]
                        with_reducible refine wpQuiet_step (fun K hK => ?_)
                        refine k_quiet_if (by kernel_rfl) ?_
                        refine ⟨.slice (some ⟨oa, 0, none⟩) n n, fun w' hw' => ?_, ?_⟩
                        · first | (go_simp; done) | (go_simp; decide) | (go_simp; omega)
                        with_reducible refine hK _ ?_
                        clear hK K
                        simp only [Act.put, List.setIfInBounds_toArray, List.set_cons_zero, List.set_cons_succ]
                        with_reducible refine wpQuiet_step (fun K hK => ?_)
                        refine k_quiet_if (by kernel_rfl) ?_
                        refine ⟨.int .i64 q, fun w' hw' => ?_, ?_⟩
                        · first | (go_simp; done) | (go_simp; decide) | (go_simp; omega)
                        with_reducible refine hK _ ?_
                        clear hK K
                        simp only [Act.put, List.setIfInBounds_toArray, List.set_cons_zero, List.set_cons_succ]
                        with_reducible refine wpQuiet_step (fun K hK => ?_)
                        refine k_quiet_if (by kernel_rfl) ?_
                        refine ⟨.int .i64 r, fun w' hw' => ?_, ?_⟩
                        · have hq9 := hwq; go_simp; try exact hq9
                        with_reducible refine hK _ ?_
                        clear hK K
                        simp only [Act.put, List.setIfInBounds_toArray, List.set_cons_zero, List.set_cons_succ]
                        with_reducible refine wpQuiet_step (fun K hK => ?_)
                        refine k_quiet_if (by kernel_rfl) ?_
                        refine ⟨.pointer (some ⟨oa, r * 7, none⟩), fun w' hw' => ?_, ?_⟩
                        · first | (go_simp; done) | (go_simp; decide) | (go_simp; omega)
                        with_reducible refine hK _ ?_
                        clear hK K
                        simp only [Act.put, List.setIfInBounds_toArray, List.set_cons_zero, List.set_cons_succ]
                        with_reducible refine wpQuiet_step (fun K hK => ?_)
                        refine k_quiet_if (by kernel_rfl) ?_
                        refine ⟨.agg #[.string e1.id, .int .i64 e1.ver, .int .i64 e1.k, .int .i64 e1.x, .string e1.s, .slice e1.an e1.ln e1.cn, .slice e1.ai e1.li e1.ci], fun w' hw' => ?_, ?_⟩
                        · have t0 := stay hw' y0; have t1 := stay hw' y1; have t2 := stay hw' y2; have t3 := stay hw' y3; have t4 := stay hw' y4; have t5 := stay hw' y5; have t6 := stay hw' y6; go_simp
                        with_reducible refine hK _ ?_
                        clear hK K
                        simp only [Act.put, List.setIfInBounds_toArray, List.set_cons_zero, List.set_cons_succ]
                        with_reducible refine wpQuiet_step (fun K hK => ?_)
                        refine k_quiet_if (by kernel_rfl) ?_
                        refine ⟨.slice (some ⟨oa, 0, none⟩) n n, fun w' hw' => ?_, ?_⟩
                        · first | (go_simp; done) | (go_simp; decide) | (go_simp; omega)
                        with_reducible refine hK _ ?_
                        clear hK K
                        simp only [Act.put, List.setIfInBounds_toArray, List.set_cons_zero, List.set_cons_succ]
                        with_reducible refine wpQuiet_step (fun K hK => ?_)
                        refine k_quiet_if (by kernel_rfl) ?_
                        refine ⟨.int .i64 q, fun w' hw' => ?_, ?_⟩
                        · first | (go_simp; done) | (go_simp; decide) | (go_simp; omega)
                        with_reducible refine hK _ ?_
                        clear hK K
                        simp only [Act.put, List.setIfInBounds_toArray, List.set_cons_zero, List.set_cons_succ]
                        with_reducible refine wpQuiet_step (fun K hK => ?_)
                        refine k_quiet_if (by kernel_rfl) ?_
                        refine ⟨.pointer (some ⟨oa, q * 7, none⟩), fun w' hw' => ?_, ?_⟩
                        · first | (go_simp; done) | (go_simp; decide) | (go_simp; omega)
                        with_reducible refine hK _ ?_
                        clear hK K
                        simp only [Act.put, List.setIfInBounds_toArray, List.set_cons_zero, List.set_cons_succ]
                        with_reducible refine wpQuiet_step (fun K hK => ?_)
                        refine k_quiet_if (by kernel_rfl) ?_
                        refine ⟨.agg #[.string e2.id, .int .i64 e2.ver, .int .i64 e2.k, .int .i64 e2.x, .string e2.s, .slice e2.an e2.ln e2.cn, .slice e2.ai e2.li e2.ci], fun w' hw' => ?_, ?_⟩
                        · have t0 := stay hw' v0; have t1 := stay hw' v1; have t2 := stay hw' v2; have t3 := stay hw' v3; have t4 := stay hw' v4; have t5 := stay hw' v5; have t6 := stay hw' v6; go_simp
                        with_reducible refine hK _ ?_
                        clear hK K
                        simp only [Act.put, List.setIfInBounds_toArray, List.set_cons_zero, List.set_cons_succ]
                        with_reducible refine wpQuiet_step (fun K hK => ?_)
                        refine k_quiet_if (by kernel_rfl) ?_
                        refine ⟨.int .i64 C, fun w' hw' => ?_, ?_⟩
                        · go_simp
                          refine (call.out w' (hBr.out.trans (hw'.mono hBr.out.size))).mono ?_
                          rintro e w'' ⟨rfl, hb'⟩
                          exact ⟨rfl, hw'.trans (hb'.mono hw'.size)⟩
                        with_reducible refine hK _ ?_
                        clear hK K
                        simp only [Act.put, List.setIfInBounds_toArray, List.set_cons_zero, List.set_cons_succ]
                        with_reducible refine wpQuiet_step (fun K hK => ?_)
                        refine k_quiet_if (by kernel_rfl) ?_
                        refine ⟨.bool false, fun w' hw' => ?_, ?_⟩
                        · first | (go_simp; done) | (go_simp; decide) | (go_simp; omega)
                        with_reducible refine hK _ ?_
                        clear hK K
                        simp only [Act.put, List.setIfInBounds_toArray, List.set_cons_zero, List.set_cons_succ]
                        with_reducible refine wpQuiet_step (fun K hK => ?_)
                        refine k_quiet_if (by kernel_rfl) ?_
                        refine ⟨.bool false, fun w' hw' => ?_, ?_⟩
                        · first | (go_simp; done) | (go_simp; decide) | (go_simp; omega)
                        with_reducible refine hK _ ?_
                        clear hK K
                        simp only [Act.put, List.setIfInBounds_toArray, List.set_cons_zero, List.set_cons_succ]
                        with_reducible refine wpQuiet_step (fun K hK => ?_)
                        refine ⟨.bool false, fun w' hw' => ?_, ?_⟩
                        · first | (go_simp; done) | (go_simp; decide) | (go_simp; omega)
                        with_reducible refine hK _ ?_
                        clear hK K
                        simp only [Act.put, List.setIfInBounds_toArray, List.set_cons_zero, List.set_cons_succ]
                        refine wpQuiet_nil ?_
                        intro X1 hX1
                        have hb' := hid_e (hb.out.trans (hX1.mono hb.out.size))
                        clear hX1 hb hBr cnt1 cnt2 x0 x1 x2 x3 x4 x5 x6
                        clear call hwq y0 y1 y2 y3 y4 y5 y6 v0 v1 v2 v3 v4 v5 v6
                        go_wp2_with fail
                        exact ⟨⟨q + 1, by go_num, by omega, hb'⟩, by simp [intOf]; omega⟩
                    · skip
                      obtain rfl : q = n := by omega
                      have q1 : ¬ (q : Int) < (q : Int) := by omega
                      go_wp2_with fail
                      refine (live_a _).mono ?_
                      rintro e w9 ⟨rfl, hb9⟩
                      replace hb9 := hid_e hb9
                      go_wp2_with fail
                      go_ret
                      exact ⟨rfl, (hb7.out.trans (hBr.out.mono hb7.out.size)).trans (hb9.out.mono (hb7.out.trans (hBr.out.mono hb7.out.size)).size)⟩
end Go.Proofs.YtkgcmcpakilacaaGreat.Tree
