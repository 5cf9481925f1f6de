import Derived.Test.YtgigikcopedoeaaGreatOG
import Derived.Deep.RegionHeld3
/-! ShapeOrders: the walk. -/
namespace Go.Proofs.YtgigikcopedoeaaGreat.Tree
open Go Go.RowKit Go.Stab

set_option maxHeartbeats 16000000 in
set_option maxRecDepth 100000 in
theorem orders_true (k1 x1 : Int) (s1 : ByteArray) (an1 : Option Addr) (ln1 cn1 : Nat) (ai1 : Option Addr) (li1 ci1 : Nat) (V : Tr) (a : Option Addr) (c n : Nat) (ds : List Dc) (w : World) (hV : Hid (VRep w V (five k1 x1 s1 (.slice an1 ln1 cn1) (.slice ai1 li1 ci1)))) (hsV : Hid (SmallT V)) (hn : Hid (ds.length = n)) (hnn : n ≤ 4611686018427387904) (hD : Hid (DocsAt w a ds)) (hR : Hid (Reads' w ds)) (hSd : Hid (∀ d ∈ ds, SmallT d.t)) :
    Calls Tryz.prog 5 #[.agg #[.int .i64 k1, .int .i64 x1, .string s1, .slice an1 ln1 cn1, .slice ai1 li1 ci1], .slice a n c] w fun e w' => e = .returned (.bool true) ∧ Below w.heap.size w w' := by
  obtain ⟨W1, hW1⟩ : ∃ W1, Hid (w.alloc (.cells #[.int .i64 k1, .int .i64 x1, .string s1, .slice an1 ln1 cn1, .slice ai1 li1 ci1] 25) = W1) := ⟨_, rfl⟩
  have hT1 : Bx1 w #[.int .i64 k1, .int .i64 x1, .string s1, .slice an1 ln1 cn1, .slice ai1 li1 ci1] W1 := by rw [← hW1.out]; exact ⟨(Below.refl _ w).alloc (Nat.le_refl _) _, heap_alloc_new w _⟩
  obtain ⟨cx0, cx1, cx2, cx3, cx4, -⟩ := row_cells hT1.box1
  have hb2 : Below W1.heap.size W1 (W1.alloc (.cells #[.int .i64 k1, .int .i64 x1, .string s1, .slice an1 ln1 cn1, .slice ai1 li1 ci1] 25)) := (Below.refl _ W1).alloc (Nat.le_refl _) _
  have hT2 := hT1.keep hb2
  have hcell : ∀ j, (W1.alloc (.cells #[.int .i64 k1, .int .i64 x1, .string s1, .slice an1 ln1 cn1, .slice ai1 li1 ci1] 25)).cell? ⟨W1.heap.size, j, none⟩ = (#[.int .i64 k1, .int .i64 x1, .string s1, .slice an1 ln1 cn1, .slice ai1 li1 ci1] : Array Value)[j]? := fun j => by unfold World.cell?; rw [heap_alloc_new W1 (.cells #[.int .i64 k1, .int .i64 x1, .string s1, .slice an1 ln1 cn1, .slice ai1 li1 ci1] 25)]; rfl
  have call1 := hid_e (large_any (some ⟨W1.heap.size, 0, none⟩) 1 1 [V] (W1.alloc (.cells #[.int .i64 k1, .int .i64 x1, .string s1, .slice an1 ln1 cn1, .slice ai1 li1 ci1] 25)) rfl (by omega) ⟨⟨Nat.le_refl _, by omega⟩, .inr ⟨W1.heap.size, 0, rfl, by simp, by
    unfold VRepL VRepL
    refine ⟨(five k1 x1 s1 (.slice an1 ln1 cn1) (.slice ai1 li1 ci1)), fun j u hj => ?_, VRep.keep hT2.below _ _ hV.out, trivial⟩
    rw [hcell]
    have hj5 := (List.getElem?_eq_some_iff.1 hj).1
    simp only [five, List.length_cons, List.length_nil] at hj5
    match j, hj5 with
    | 0, _ => exact hj
    | 1, _ => exact hj
    | 2, _ => exact hj
    | 3, _ => exact hj
    | 4, _ => exact hj⟩⟩)
  replace hT2 := hid_e hT2
  clear hcell hb2 hT1
  go_enter Tryz.func5, Tryz.ntmps5
  go_wp2_with (first | rw [hW1.out] | fail)
  refine call1.out.mono ?_
  rintro e W2 ⟨⟨z, rfl, -⟩, hb3⟩
  have hT := hT2.out.keep hb3
  clear call1 hb3 hT2 cx0 cx1 cx2 cx3 cx4
  cases z with
  | true =>
    go_wp2_with fail
    refine (live_a _).mono ?_
    rintro e w9 ⟨rfl, hb9⟩
    replace hb9 := hid_e hb9
    go_wp2_with fail
    go_ret
    exact ⟨rfl, hT.below.trans (hb9.out.mono hT.below.size)⟩
  | false =>
    have call2 := hid_e (many_exact a c n ds W2 hn.out hnn (hD.out.keep hT.below) (hR.out.keep hT.below) hSd.out)
    go_wp2_with fail
    refine call2.out.mono ?_
    rintro e W3 ⟨⟨z, rfl, hz⟩, hb3⟩
    replace hT := hT.keep hb3
    clear call2 hb3
    cases z with
    | true =>
      clear hz
      go_wp2_with fail
      refine (live_a _).mono ?_
      rintro e w9 ⟨rfl, hb9⟩
      replace hb9 := hid_e hb9
      go_wp2_with fail
      go_ret
      exact ⟨rfl, hT.below.trans (hb9.out.mono hT.below.size)⟩
    | false =>
      obtain ⟨h150, hparts⟩ := hz rfl
      clear hz hnn
      replace hparts := hid_e hparts
      have call := hid_e (psort_v V k1 x1 s1 an1 ln1 cn1 ai1 li1 ci1 W3 (VRep.keep hT.below _ _ hV.out) hsV.out)
      obtain ⟨cx0, cx1, cx2, cx3, cx4, -⟩ := row_cells hT.box1
      go_wp2_with fail
      refine call.out.mono ?_
      rintro e W4 ⟨hb, h4⟩
      clear call cx0 cx1 cx2 cx3 cx4
      replace hT := hT.keep hb
      clear hb
      have call := hid_e (rpsort_v V k1 x1 s1 an1 ln1 cn1 ai1 li1 ci1 W4 (VRep.keep hT.below _ _ hV.out) hsV.out)
      have hpo := hid_e (parseS_ok hsV.out)
      obtain ⟨⟨rc, ts⟩, hPS⟩ : ∃ R, Hid (parseS V = R) := ⟨_, rfl⟩
      rw [hPS.out] at h4 call hpo
      clear hPS
      simp only at h4 hpo
      rcases h4 with ⟨rfl, sb, rfl, hsort⟩ | ⟨hne, rfl⟩
      rotate_left
      · skip
        obtain ⟨c0, c1, c2, c3, c4, -⟩ := row_cells hT.box1
        go_wp2_with fail
        refine call.out.mono ?_
        rintro e W5 ⟨hb, h5⟩
        clear call c0 c1 c2 c3 c4
        simp only at h5
        obtain rfl : e = .returned (.tuple #[.slice none 0 0, .int .i64 rc]) := by rcases h5 with ⟨h, -⟩ | ⟨-, h⟩; exact absurd h hne; exact h
        clear h5
        replace hT := hT.keep hb
        clear hb
        have e1 : (rc != rc) = false := by simp
        have e2 : (rc != 0) = true := by simpa using hne
        clear hne
        go_wp2_with (first | (go_at_call 19; refine (num6 _ _).mono ?_; rintro e w9 ⟨rfl, rfl⟩) | fail)
        refine (live_a _).mono ?_
        rintro e W7 ⟨rfl, hb⟩
        replace hT := hT.keep hb
        clear hb
        go_wp2_with fail
        go_ret
        exact ⟨rfl, hT.below⟩
      obtain ⟨c0, c1, c2, c3, c4, -⟩ := row_cells hT.box1
      go_wp2_with fail
      refine call.out.mono ?_
      rintro e W5 ⟨hb, h5⟩
      clear call c0 c1 c2 c3 c4
      simp only at h5
      obtain ⟨ka, kc, rfl, hkeys⟩ : ∃ a c, e = .returned (.tuple #[.slice a ts.length c, .int .i64 0]) ∧ KeysAt wayE W5 a ts := by rcases h5 with ⟨-, h⟩ | ⟨h, -⟩; exact h; exact absurd rfl h
      replace hsort := hid_e (hsort.keep hb)
      replace hkeys := hid_e hkeys
      clear h5
      replace hT := hT.keep hb
      clear hb
      obtain ⟨tm, htm⟩ : ∃ tm, Hid (ts.length = tm) := ⟨_, rfl⟩
      rw [htm.out]
      go_wp2_with (first | (go_at_call 19; refine (num6 _ _).mono ?_; rintro e w9 ⟨rfl, rfl⟩) | fail)
      refine (live_a _).mono ?_
      rintro e W7 ⟨rfl, hb⟩
      replace hT := hT.keep hb
      replace hsort := hid_e (hsort.out.keep hb)
      replace hkeys := hid_e (hkeys.out.keep hb)
      clear hb
      obtain ⟨sa, sc, hs0, hsk⟩ := hsort.out.keys
      rw [htm.out] at hs0
      replace hs0 := hid_e hs0
      replace hsk := hid_e hsk
      clear hsort
      have htm8 : tm ≤ 1000 := by have := hpo.out.2; rw [htm.out] at this; omega
      have hD7 : Hid (DocsAt W7 a ds) := hD.out.keep hT.below
      have hR7 : Hid (Reads' W7 ds) := hR.out.keep hT.below
      have hP7 : Hid (∀ d ∈ ds, partsT d.t ≤ 1000000) := fun d hd => Nat.le_trans (hparts.out d hd) (by decide)
      have hb7 : Hid (Below w.heap.size w W7) := hT.below
      clear hT hparts
      have n150 : (n : Int) ≤ 150 := by omega
      have n0 : (0 : Int) ≤ (n : Int) := by omega
      go_wp2_with fail
      go_loopw [9] (fun iv wr => ∃ (q : Nat), iv = .int .i64 q ∧ q ≤ n ∧ Hid (Below W7.heap.size W7 wr)) (fun iv _ => n - (intOf iv).toNat)
      case atStart => exact ⟨0, rfl, Nat.zero_le _, Below.refl _ _⟩
      case round =>
        obtain ⟨q, rfl, hq, hb⟩ := hrel
        have q0 : (0 : Int) ≤ (q : Int) := by omega
        have q2 : (q : Int) ≤ 150 := by omega
        by_cases hlt : q + 1 < n
        · skip
          have q1 : (q : Int) + 1 < (n : Int) := by omega
          obtain ⟨p, hp⟩ : ∃ p, Hid (q + 1 = p) := ⟨_, rfl⟩
          have hwq : IntKind.i64.wrap ((q : Int) + 1) = (p : Int) := by rw [← hp.out]; rw [wrap_in _ (by omega) (by omega)]; rfl
          have p1 : (p : Int) < (n : Int) := by have := hp.out; omega
          have p0 : (0 : Int) ≤ (p : Int) := by omega
          have q3 : (q : Int) < (n : Int) := by omega
          obtain ⟨d1, hd1⟩ : ∃ d, Hid (ds[q]? = some d) := ⟨ds[q]'(by rw [hn.out]; omega), List.getElem?_eq_getElem (by rw [hn.out]; omega)⟩
          obtain ⟨d2, hd2⟩ : ∃ d, Hid (ds[p]? = some d) := ⟨ds[p]'(by rw [hn.out]; have := hp.out; omega), List.getElem?_eq_getElem (by rw [hn.out]; have := hp.out; omega)⟩
          have hbd : Hid (Below W7.heap.size W7 wr.drew) := below_drew hb.out
          obtain ⟨b, o, ea, hc1⟩ := (hD7.out.keep hbd.out) q d1 hd1.out
          obtain ⟨b', o', ea', hc2⟩ := (hD7.out.keep hbd.out) p d2 hd2.out
          subst ea
          injection ea' with ea'
          injection ea' with eb eo
          subst eb
          subst eo
          unfold Dc.cells at hc1 hc2
          obtain ⟨v1_0, v1_1, v1_2, v1_3, v1_4, v1_5, v1_6⟩ := cells7 hc1
          obtain ⟨v2_0, v2_1, v2_2, v2_3, v2_4, v2_5, v2_6⟩ := cells7 hc2
          clear hc1 hc2
          have m1 := List.mem_of_getElem? hd1.out
          have m2 := List.mem_of_getElem? hd2.out
          have cmp1 := hid_e (scompare_any ts tm sb sc sa d1 d2 W7 wr.drew hbd.out htm.out htm8 hs0.out hsk.out hpo.out.1 (hR7.out d1 m1) (hP7.out d1 m1) (hSd.out d1 m1) (hR7.out d2 m2) (hP7.out d2 m2) (hSd.out d2 m2))
          have cmp2 := hid_e (fun W (hW : Below W7.heap.size W7 W) => rcmp_any ts tm kc ka d1 d2 W htm.out htm8 (hkeys.out.keep hW) hpo.out.1 (VRep.keep hW _ _ (hR7.out d1 m1)) (hP7.out d1 m1) (hSd.out d1 m1) (VRep.keep hW _ _ (hR7.out d2 m2)) (hP7.out d2 m2) (hSd.out d2 m2))
          obtain ⟨C, hC⟩ : ∃ C, Hid (cnK ts d1 d2 = C) := ⟨_, rfl⟩
          rw [hC.out] at cmp1 cmp2
          have hcc : (C != C) = false := by simp
          unfold Dc.cells at cmp1 cmp2
          clear m1 m2 hC hd1 hd2
          go_upto_region 12 with fail
          go_region_held3 (fun W => W.cell? ⟨b, o + q * 7, none⟩ = some (.string d1.id) ∧ W.cell? ⟨b, o + q * 7 + 1, none⟩ = some (.int .i64 d1.ver) ∧ W.cell? ⟨b, o + q * 7 + 2, none⟩ = some (.int .i64 d1.k) ∧ W.cell? ⟨b, o + q * 7 + 3, none⟩ = some (.int .i64 d1.x) ∧ W.cell? ⟨b, o + q * 7 + 4, none⟩ = some (.string d1.s) ∧ W.cell? ⟨b, o + q * 7 + 5, none⟩ = some (.slice d1.an d1.ln d1.cn) ∧ W.cell? ⟨b, o + q * 7 + 6, none⟩ = some (.slice d1.ai d1.li d1.ci) ∧ W.cell? ⟨b, o + p * 7, none⟩ = some (.string d2.id) ∧ W.cell? ⟨b, o + p * 7 + 1, none⟩ = some (.int .i64 d2.ver) ∧ W.cell? ⟨b, o + p * 7 + 2, none⟩ = some (.int .i64 d2.k) ∧ W.cell? ⟨b, o + p * 7 + 3, none⟩ = some (.int .i64 d2.x) ∧ W.cell? ⟨b, o + p * 7 + 4, none⟩ = some (.string d2.s) ∧ W.cell? ⟨b, o + p * 7 + 5, none⟩ = some (.slice d2.an d2.ln d2.cn) ∧ W.cell? ⟨b, o + p * 7 + 6, none⟩ = some (.slice d2.ai d2.li d2.ci)) (go_keep) (first
            | (go_at_call 21; refine cmp1.out.mono ?_; rintro e Y1 ⟨rfl, hy1⟩; have av1_0 := stay hy1 v1_0; have av1_1 := stay hy1 v1_1; have av1_2 := stay hy1 v1_2; have av1_3 := stay hy1 v1_3; have av1_4 := stay hy1 v1_4; have av1_5 := stay hy1 v1_5; have av1_6 := stay hy1 v1_6; have av2_0 := stay hy1 v2_0; have av2_1 := stay hy1 v2_1; have av2_2 := stay hy1 v2_2; have av2_3 := stay hy1 v2_3; have av2_4 := stay hy1 v2_4; have av2_5 := stay hy1 v2_5; have av2_6 := stay hy1 v2_6; have hc1 := hid_e (hbd.out.trans (hy1.mono hbd.out.size)); clear hy1 cmp1 v1_0 v1_1 v1_2 v1_3 v1_4 v1_5 v1_6 v2_0 v2_1 v2_2 v2_3 v2_4 v2_5 v2_6)
            | (go_at_call 22; refine (cmp2.out _ hc1.out).mono ?_; rintro e Y2 ⟨rfl, hy2⟩; have bv1_0 := stay hy2 av1_0; have bv1_1 := stay hy2 av1_1; have bv1_2 := stay hy2 av1_2; have bv1_3 := stay hy2 av1_3; have bv1_4 := stay hy2 av1_4; have bv1_5 := stay hy2 av1_5; have bv1_6 := stay hy2 av1_6; have bv2_0 := stay hy2 av2_0; have bv2_1 := stay hy2 av2_1; have bv2_2 := stay hy2 av2_2; have bv2_3 := stay hy2 av2_3; have bv2_4 := stay hy2 av2_4; have bv2_5 := stay hy2 av2_5; have bv2_6 := stay hy2 av2_6; have hc2 := hid_e (hc1.out.trans (hy2.mono hc1.out.size)); clear hy2 cmp2 hc1 av1_0 av1_1 av1_2 av1_3 av1_4 av1_5 av1_6 av2_0 av2_1 av2_2 av2_3 av2_4 av2_5 av2_6))
          all_goals
            clear bv1_0 bv1_1 bv1_2 bv1_3 bv1_4 bv1_5 bv1_6 bv2_0 bv2_1 bv2_2 bv2_3 bv2_4 bv2_5 bv2_6
            go_wp2_with fail
            have hpq := hp.out
            exact ⟨⟨p, by go_num, by omega, hc2⟩, by simp [intOf]; omega⟩
        · skip
          have q1 : ¬ ((q : Int) + 1 < (n : Int)) := by omega
          clear hq hlt
          have hb0 : Hid (Below w.heap.size w wr) := hb7.out.trans (hb.out.mono hb7.out.size)
          have hrow0 := hid_e (owns_docs wr)
          have hbe : Hid (Below wr.heap.size wr (wr.alloc (.cells #[] 50))) := (Below.refl _ wr).alloc (Nat.le_refl _) _
          have hlie := hid_e (docs_lie ((hD7.out.keep hb.out).keep hbe.out))
          have hcl := hid_e (cellsD_len ds)
          rw [hn.out] at hlie hcl
          have hsz0 : Hid (wr.heap.size ≤ (wr.alloc (.cells #[] 50)).heap.size) := by rw [World.size_alloc]; show _ ≤ _; omega
          go_upto_region 14 with fail
          go_upto_region 15 with (first
            | (at_builtin; refine wpList_append_docs rfl _ _ _ rfl wr.heap.size wr.heap.size 0 0 [] hrow0.out rfl _ n c (cellsD ds) rfl hcl.out hlie.out (cellsD_one ds) (by omega) hsz0.out ?_; intro gl cl w1 hown1 hgrow1 hat1; rw [Nat.zero_add, List.nil_append] at hown1; rw [Nat.zero_add]; replace hown1 := hid_e hown1; have hb1 : Hid (Below wr.heap.size wr w1) := hbe.out.trans (grown_below hgrow1 hsz0.out (fun g hg => by cases hg; exact Nat.le_refl _)); clear hgrow1 hat1 hrow0 hbe hlie hsz0)
            | (at_builtin; refine wpList_append_docs rfl _ _ _ rfl wr.heap.size gl n cl (cellsD ds) (row_alloc hown1.out _) rfl (some ⟨w1.heap.size, 0, none⟩) 1 1 (idDoc ⟨#[98, 101, 104, 105, 110, 100]⟩).cells rfl rfl (.inr ⟨w1.heap.size, 0, rfl, doc_lies w1 (idDoc ⟨#[98, 101, 104, 105, 110, 100]⟩)⟩) (by unfold idDoc Dc.cells; simp [Value.oneCell']) (by omega) (by rw [World.size_alloc]; have := hb1.out.size; omega) ?_; intro g2 c2 w2 hown2 hgrow2 hat2; replace hown2 := hid_e hown2; have hge := hid_e (ownsRow_ge hown1.out (g := gl) rfl); have hb2 : Hid (Below wr.heap.size wr w2) := (hb1.out.alloc hb1.out.size _).trans (grown_below hgrow2 (by rw [World.size_alloc]; have := hb1.out.size; omega) (fun g hg => by cases hg; exact hge.out.1)); clear hgrow2 hat2 hb1 hown1 hge hcl))
          have hG : Hid (DRow wr.heap.size w2 (.slice (some ⟨g2, 0, none⟩) (n + 1) c2) (ds ++ [idDoc ⟨#[98, 101, 104, 105, 110, 100]⟩])) := by show World.ownsRow _ _ _ _ _ _ _; rw [List.length_append, hn.out, cellsD_append]; simpa [cellsD] using hown2.out
          have hcap : n + 1 ≤ c2 := by have := hG.out.cap.1; rw [List.length_append, hn.out] at this; exact this
          have hcap1 : (n : Int) ≤ (c2 : Int) := by omega
          have hG2 := hid_e (hG.out.lt (g := g2) (o := 0) rfl)
          have hDg : Hid (DocsAt w2 (some ⟨g2, 0, none⟩) ds) := docs_take hG.out.docs
          have hbh : Hid (DocsAt w2 (some ⟨g2, 0, none⟩) (ds ++ [idDoc ⟨#[98, 101, 104, 105, 110, 100]⟩])) := hG.out.docs
          have hB2 : Hid (Below W7.heap.size W7 w2) := hb.out.trans (hb2.out.mono hb.out.size)
          clear hown2 hG hb2 hb hb0
          have hB2d : Hid (Below W7.heap.size W7 w2.drew) := below_drew hB2.out
          have hw2d : Hid (Below w2.heap.size w2 w2.drew) := below_drew (Below.refl _ _)
          have ord := hid_e (fun W (hW : Below W7.heap.size W7 W) (hW2 : Below w2.heap.size w2 W) => sorder_any ts tm sb sc sa (some ⟨g2, 0, none⟩) c2 n ds W htm.out htm8 (stay hW hs0.out) (hsk.out.keep hW) hpo.out.1 (hR7.out.keep hW) hP7.out hSd.out hn.out (by omega) (hDg.out.keep hW2))
          obtain ⟨L, hL⟩ : ∃ L, Hid (isort (ltK' ts) ds = L) := ⟨_, rfl⟩
          rw [hL.out] at ord
          go_region_held3 (fun _ => True) (trivial) (first
            | (go_at_call 14; refine (ord.out _ hB2d.out hw2d.out).mono ?_; rintro e Y1 ⟨oa, rfl, hda, hla, hba, hy1⟩; have hE1 := hid_e (hB2d.out.trans (hy1.mono hB2d.out.size)); have hF1 := hid_e (hw2d.out.trans (hy1.mono hw2d.out.size)); replace hda := hid_e hda; replace hla : Hid (w2.heap.size ≤ oa) := hla; replace hba := hid_e hba; clear hy1)
            | (go_at_call 14; refine (ord.out _ hE1.out hF1.out).mono ?_; rintro e Y2 ⟨ob, rfl, hdb, hlb, hbb, hy2⟩; have hE2 := hid_e (hE1.out.trans (hy2.mono hE1.out.size)); have hF2 := hid_e (hF1.out.trans (hy2.mono hF1.out.size)); have hda2 := hid_e (hda.out.keep hy2); have hba2 := hid_e (hba.out.keep hy2); have hab : Hid (oa < ob) := Nat.lt_of_lt_of_le hba.out.lt hlb; replace hdb := hid_e hdb; replace hbb := hid_e hbb; clear hy2 hlb hda hba hE1 hF1 ord))
          all_goals
            clear hB2d hw2d
            have hsz2 : Hid (oa < Y2.heap.size) := hba2.out.lt
            have dord := hid_e (dorder_any ts tm kc ka a c n ds Y2 htm.out htm8 (hkeys.out.keep hE2.out) hpo.out.1 (hR7.out.keep hE2.out) hP7.out hSd.out hn.out (by omega) (hD7.out.keep hE2.out))
            rw [hL.out] at dord
            have hLl : Hid (L.length = n) := by rw [← hL.out, isort_length]; exact hn.out
            have hRL : Hid (Reads' W7 L) := fun d hd => hR7.out d ((isort_perm (ltK' ts) ds).mem_iff.1 (by rw [hL.out]; exact hd))
            clear hL
            go_wp2_with fail
            refine dord.out.mono ?_
            rintro e Y3 ⟨v6, rfl, hd6, hy3⟩
            clear dord
            obtain ⟨a6, c6, e6⟩ := hd6.slice
            rw [hLl.out] at e6
            subst e6
            have hE3 := hid_e (hE2.out.trans (hy3.mono hE2.out.size))
            have hF3 := hid_e (hF2.out.trans (hy3.mono hF2.out.size))
            have hda3 := hid_e (hda2.out.keep hy3)
            have hdb3 := hid_e (hdb.out.keep hy3)
            have hba3 := hid_e (hba2.out.keep hy3)
            have hbb3 := hid_e (hbb.out.lt)
            have hwne : Hid (∀ g o, a6 = some ⟨g, o, none⟩ → g ≠ oa) := fun g o e => by have := hd6.ge e; have := hsz2.out; omega
            replace hd6 := hid_e hd6.docs
            have hs3 : Hid (Y2.heap.size ≤ Y3.heap.size) := hy3.size
            clear hy3 hda2 hdb hba2 hbb hE2 hF2
            have dc1 := hid_e (docs_self (some ⟨oa, 0, none⟩) a6 n c6 n L Y3 hLl.out (by omega) hda3.out hd6.out (hRL.out.keep hE3.out))
            go_wp2_with fail
            refine dc1.out.mono ?_
            rintro e Y4 ⟨rfl, hy4⟩
            clear dc1
            have hB4 := hid_e hy4
            clear hy4
            have dc2 := hid_e (docs_self (some ⟨ob, 0, none⟩) a6 n c6 n L Y4 hLl.out (by omega) (hdb3.out.keep hB4.out) (hd6.out.keep hB4.out) (hRL.out.keep (hE3.out.trans (hB4.out.mono hE3.out.size))))
            go_wp2_with fail
            refine dc2.out.mono ?_
            rintro e Y5 ⟨rfl, hy5⟩
            clear dc2
            have hB5 := hid_e (hB4.out.trans (hy5.mono hB4.out.size))
            clear hy5 hB4
            have hE5 := hid_e (hE3.out.trans (hB5.out.mono hE3.out.size))
            have hF5 := hid_e (hF3.out.trans (hB5.out.mono hF3.out.size))
            have dc3 := hid_e (docs_self (some ⟨g2, 0, none⟩) a c2 c n ds Y5 hn.out (by omega) (hDg.out.keep hF5.out) (hD7.out.keep hE5.out) (hR7.out.keep hE5.out))
            go_wp2_with fail
            refine dc3.out.mono ?_
            rintro e Y6 ⟨rfl, hy6⟩
            clear dc3
            have hB6 := hid_e (hB5.out.trans (hy6.mono hB5.out.size))
            have hE6 := hid_e (hE5.out.trans (hy6.mono hE5.out.size))
            have hF6 := hid_e (hF5.out.trans (hy6.mono hF5.out.size))
            clear hy6 hB5 hE5 hF5
            obtain ⟨gg, go_, eg, hgc⟩ := (hbh.out.keep hF6.out) n (idDoc ⟨#[98, 101, 104, 105, 110, 100]⟩) (by rw [List.getElem?_append_right (by rw [hn.out]; exact Nat.le_refl _), hn.out, Nat.sub_self]; rfl)
            injection eg with eg
            injection eg with e1 e2
            subst e1
            subst e2
            have hgid : Y6.cell? ⟨g2, n * 7, none⟩ = some (.string ⟨#[98, 101, 104, 105, 110, 100]⟩) := by have h := hgc 0 _ rfl; rw [Nat.zero_add, Nat.add_zero] at h; exact h
            clear hgc hbh
            have hn1 : (n : Int) < ((n + 1 : Nat) : Int) := by omega
            have hn1b : (n : Int) < (n : Int) + 1 := by omega
            go_wp2_with fail
            have hda6 := hid_e (hda3.out.keep hB6.out)
            have hdb6 := hid_e (hdb3.out.keep hB6.out)
            have hd66 := hid_e (hd6.out.keep hB6.out)
            have hba6 := hid_e (hba3.out.keep hB6.out)
            clear hda3 hdb3 hd6 hba3 hda6
            go_loopw [14] (fun iv wr => ∃ (q : Nat), iv = .int .i64 q ∧ q ≤ n ∧ Hid (Sorted.But oa Y6 wr)) (fun iv _ => n - (intOf iv).toNat)
            case atStart => exact ⟨0, rfl, Nat.zero_le _, Sorted.But.refl _ _⟩
            case round =>
              clear hgid
              obtain ⟨q, rfl, hq, hb⟩ := hrel
              by_cases hlt : q < n
              · skip
                have q1 : (q : Int) < (n : Int) := by omega
                have q0 : (0 : Int) ≤ (q : Int) := by omega
                have hbk := hid_e (hba6.out.but hb.out)
                obtain ⟨u0, o0⟩ := hbk.out.cell (j := q * 7) (by omega)
                obtain ⟨u1, o1⟩ := hbk.out.cell (j := q * 7 + 1) (by omega)
                obtain ⟨u2, o2⟩ := hbk.out.cell (j := q * 7 + 2) (by omega)
                obtain ⟨u3, o3⟩ := hbk.out.cell (j := q * 7 + 3) (by omega)
                obtain ⟨u4, o4⟩ := hbk.out.cell (j := q * 7 + 4) (by omega)
                obtain ⟨u5, o5⟩ := hbk.out.cell (j := q * 7 + 5) (by omega)
                obtain ⟨u6, o6⟩ := hbk.out.cell (j := q * 7 + 6) (by omega)
                have f0 := hbk.out.soft (q * 7)
                have f1 := hbk.out.soft (q * 7 + 1)
                have f2 := hbk.out.soft (q * 7 + 2)
                have f3 := hbk.out.soft (q * 7 + 3)
                have f4 := hbk.out.soft (q * 7 + 4)
                have f5 := hbk.out.soft (q * 7 + 5)
                have f6 := hbk.out.soft (q * 7 + 6)
                have hb' := hid_e (hb.out.trans (Sorted.setCells_but oa [.string ⟨#[115, 112, 111, 105, 108, 116]⟩, .int .i64 0, .int .i64 0, .int .i64 0, .string ⟨#[]⟩, .slice none 0 0, .slice none 0 0] (q * 7) wr))
                clear hbk hb
                go_wp2_with fail
                exact ⟨⟨q + 1, by go_num, by omega, hb'⟩, by simp [intOf]; omega⟩
              · skip
                obtain rfl : q = n := by omega
                have q1 : ¬ (q : Int) < (q : Int) := by omega
                obtain ⟨xs, hrow⟩ := blk_row (hba6.out.but hb.out) (by omega)
                have hfb : Hid (Fb oa Y6 wr) := Fb.of_but hb.out
                clear hb hba6 hq hlt
                replace hrow := hid_e hrow
                go_wp2_with fail
                go_loopw [11, 15] (fun av iv wx => ∃ (p g cap : Nat) (xs : List Value), av = .slice (some ⟨g, 0, none⟩) (q + p) cap ∧ iv = .int .i64 p ∧ p ≤ 8 ∧ Hid (wx.ownsRow 0 50 7 (.slice (some ⟨g, 0, none⟩) (q + p) cap) (q + p) xs) ∧ Hid (g = oa ∨ Y6.heap.size ≤ g) ∧ Hid (Fb oa Y6 wx)) (fun _ iv _ => 8 - (intOf iv).toNat)
                case atStart => exact ⟨0, oa, q, xs, rfl, rfl, by omega, hrow, .inl rfl, hfb⟩
                case round =>
                  clear hrow hfb
                  obtain ⟨p, g, cap, xs, rfl, rfl, hp, hrow, hg, hfb⟩ := hrel
                  by_cases hlt : p < 8
                  · skip
                    have p1 : (p : Int) < 8 := by omega
                    have p0 : (0 : Int) ≤ (p : Int) := by omega
                    go_wp2_with (at_builtin; refine wpList_append_docs rfl _ _ _ rfl 0 g (q + p) cap xs (row_alloc hrow.out _) rfl (some ⟨wr.heap.size, 0, none⟩) 1 1 (idDoc ⟨#[103, 114, 111, 119, 110]⟩).cells rfl rfl (.inr ⟨wr.heap.size, 0, rfl, doc_lies wr (idDoc ⟨#[103, 114, 111, 119, 110]⟩)⟩) (by unfold idDoc Dc.cells; simp [Value.oneCell']) (by omega) (Nat.zero_le _) ?_; intro g3 c3 w3 hown3 hgrow3 hat3)
                    have hfb' : Hid (Fb oa Y6 w3) := (hfb.out.trans (Fb.of_below ((Below.refl _ wr).alloc (Nat.le_refl _) _))).grown hgrow3 hg.out
                    have hg' : Hid (g3 = oa ∨ Y6.heap.size ≤ g3) := by rcases hat3 with h | h; rw [h]; exact hg.out; right; rw [h, World.size_alloc]; have := hfb.out.size; omega
                    exact ⟨⟨p + 1, g3, c3, xs ++ (idDoc ⟨#[103, 114, 111, 119, 110]⟩).cells, rfl, by go_num, by omega, hown3, hg', hfb'⟩, by simp [intOf]; omega⟩
                  · skip
                    obtain rfl : p = 8 := by omega
                    have p1 : ¬ ((8 : Nat) : Int) < 8 := by omega
                    have hlo : Hid (W7.heap.size ≤ oa) := Nat.le_trans hB2.out.size hla.out
                    have hEf : Hid (Below W7.heap.size W7 wr) := hE6.out.trans (hfb.out.below hlo.out hE6.out.size)
                    have hdbf : Hid (DocsAt wr (some ⟨ob, 0, none⟩) L) := hdb6.out.fb (fun g o e => by injection e with e; injection e with e1 e2; have := hab.out; omega) hfb.out
                    have hd6f : Hid (DocsAt wr a6 L) := hd66.out.fb hwne.out hfb.out
                    have hdgf : Hid (DocsAt wr (some ⟨g2, 0, none⟩) ds) := (hDg.out.keep hF6.out).fb (fun g o e => by injection e with e; injection e with e1 e2; have := hG2.out; have := hla.out; omega) hfb.out
                    have dc4 := hid_e (docs_self (some ⟨ob, 0, none⟩) a6 q c6 q L wr hLl.out (by omega) hdbf.out hd6f.out (hRL.out.keep hEf.out))
                    go_wp2_with fail
                    refine dc4.out.mono ?_
                    rintro e Z1 ⟨rfl, hz1⟩
                    clear dc4
                    replace hz1 := hid_e hz1
                    have dc5 := hid_e (docs_self (some ⟨g2, 0, none⟩) a c2 c q ds Z1 hn.out (by omega) (hdgf.out.keep hz1.out) ((hD7.out.keep hEf.out).keep hz1.out) ((hR7.out.keep hEf.out).keep hz1.out))
                    go_wp2_with fail
                    refine dc5.out.mono ?_
                    rintro e Z2 ⟨rfl, hz2⟩
                    clear dc5
                    replace hz2 := hid_e hz2
                    go_wp2_with fail
                    go_ret
                    exact ⟨rfl, hb7.out.trans ((hEf.out.trans ((hz1.out.trans (hz2.out.mono hz1.out.size)).mono hEf.out.size)).mono hb7.out.size)⟩
end Go.Proofs.YtgigikcopedoeaaGreat.Tree
