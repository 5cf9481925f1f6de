import Derived.Test.YthafhemlnninbaaGreatXE
/-! ShapeNil: the walk. -/
namespace Go.Proofs.YthafhemlnninbaaGreat.Tree
open Go Go.RowKit Go.Stab

theorem live_any (w : World) : Calls Tryz.prog 9 #[] w fun e w' => e = .returned (.bool true) ∧ Below w.heap.size w w' := live6 w
def zeroT : Tr := .node 0 0 ⟨#[]⟩ [] []
theorem zero_rep (w : World) : VRep w zeroT (five 0 0 ⟨#[]⟩ (.slice none 0 0) (.slice none 0 0)) := by
  unfold zeroT VRep
  exact ⟨.slice none 0 0, none, 0, rfl, ⟨none, 0, rfl, ⟨Nat.le_refl _, by omega⟩, .inl rfl⟩, ⟨Nat.le_refl _, by omega⟩, .inl rfl⟩
/-- The box of the document's Value. -/
def Box5 (w : World) (k x : Int) (s : ByteArray) (an : Option Addr) (ln cn : Nat) (ai : Option Addr) (li ci : Nat) (W : World) : Prop :=
  W.cell? ⟨w.heap.size, 0, none⟩ = some (.int .i64 k) ∧ W.cell? ⟨w.heap.size, 1, none⟩ = some (.int .i64 x) ∧ W.cell? ⟨w.heap.size, 2, none⟩ = some (.string s) ∧ W.cell? ⟨w.heap.size, 3, none⟩ = some (.slice an ln cn) ∧ W.cell? ⟨w.heap.size, 4, none⟩ = some (.slice ai li ci)
theorem Box5.keep {w W W' : World} {k x : Int} {s : ByteArray} {an : Option Addr} {ln cn : Nat} {ai : Option Addr} {li ci : Nat} (h : Box5 w k x s an ln cn ai li ci W) (hb : Below W.heap.size W W') : Box5 w k x s an ln cn ai li ci W' := ⟨stay hb h.1, stay hb h.2.1, stay hb h.2.2.1, stay hb h.2.2.2.1, stay hb h.2.2.2.2⟩
set_option maxHeartbeats 8000000 in
set_option maxRecDepth 100000 in
theorem nil_true (k x : Int) (s : ByteArray) (an : Option Addr) (ln cn : Nat) (ai : Option Addr) (li ci : Nat) (t : Tr) (a : Option Addr) (c n : Nat) (ds : List Dc) (w : World) (hV : VRep w t (five k x s (.slice an ln cn) (.slice ai li ci))) (hn : ds.length = n) (hnn : n ≤ 4611686018427387904) (hD : DocsAt w a ds) (hR : Reads' w ds) :
    Calls Tryz.prog 3 #[.agg #[.int .i64 k, .int .i64 x, .string s, .slice an ln cn, .slice ai li ci], .slice a n c] w fun e w' => e = .returned (.bool true) ∧ Below w.heap.size w w' := by
  obtain ⟨W1, hW1⟩ : ∃ W1, Hid (w.alloc (.cells #[.int .i64 k, .int .i64 x, .string s, .slice an ln cn, .slice ai li ci] 25) = W1) := ⟨_, rfl⟩
  have hb1 : Hid (Below w.heap.size w W1) := by rw [← hW1.out]; exact (Below.refl _ w).alloc (Nat.le_refl _) _
  have hs1 : W1.heap.size = w.heap.size + 1 := by rw [← hW1.out]; simp
  have hbx : Box5 w k x s an ln cn ai li ci W1 := by
    have h : W1.heap[w.heap.size]? = some (.cells #[.int .i64 k, .int .i64 x, .string s, .slice an ln cn, .slice ai li ci] 25 (0, 0)) := by rw [← hW1.out]; exact heap_alloc_new w _
    obtain ⟨h0, h1, h2, h3, h4, -⟩ := row_cells h
    exact ⟨h0, h1, h2, h3, h4⟩
  obtain ⟨x0, x1, x2, x3, x4⟩ := id hbx
  have hrow : (W1.alloc (.cells #[.int .i64 k, .int .i64 x, .string s, .slice an ln cn, .slice ai li ci] 25)).heap[W1.heap.size]? = some (.cells #[.int .i64 k, .int .i64 x, .string s, .slice an ln cn, .slice ai li ci] 25 (0, 0)) := heap_alloc_new W1 _
  have hb2 : Below w.heap.size w (W1.alloc (.cells #[.int .i64 k, .int .i64 x, .string s, .slice an ln cn, .slice ai li ci] 25)) := hb1.out.alloc hb1.out.size _
  have call1 := hid_e (large_any (some ⟨W1.heap.size, 0, none⟩) 1 1 [t] (W1.alloc (.cells #[.int .i64 k, .int .i64 x, .string s, .slice an ln cn, .slice ai li ci] 25)) rfl (by omega) ⟨⟨Nat.le_refl _, by omega⟩, .inr ⟨W1.heap.size, 0, rfl, by simp, by
    unfold VRepL
    obtain ⟨h0, h1, h2, h3, h4, -⟩ := row_cells hrow
    refine ⟨five k x s (.slice an ln cn) (.slice ai li ci), fun j u hj => ?_, VRep.keep hb2 _ _ hV, by unfold VRepL; trivial⟩
    rw [Nat.zero_add]
    unfold five at hj
    match j, hj with
    | 0, hj => cases hj; exact h0
    | 1, hj => cases hj; exact h1
    | 2, hj => cases hj; exact h2
    | 3, hj => cases hj; exact h3
    | 4, hj => cases hj; exact h4⟩⟩)
  replace hb2 := hid_e hb2
  clear hrow
  replace hV := hid_e hV
  replace hn := hid_e hn
  replace hD := hid_e hD
  replace hR := hid_e hR
  replace hbx := hid_e hbx
  replace hs1 := hid_e hs1
  go_enter Tryz.func3, Tryz.ntmps3
  go_wp2_with (first | rw [hW1.out] | fail)
  refine call1.out.mono ?_
  rintro e W2 ⟨⟨z, rfl, -⟩, hb2'⟩
  have hB2 := hid_e (hb2.out.trans (hb2'.mono hb2.out.size))
  have hX2 : Hid (Box5 w k x s an ln cn ai li ci W2) := hbx.out.keep (((Below.refl _ W1).alloc (Nat.le_refl _) _).trans (hb2'.mono (by rw [World.size_alloc]; omega)))
  clear call1 hb2' hb2 x0 x1 x2 x3 x4
  cases z with
  | true =>
    go_wp2_with fail
    refine (live_any W2).mono ?_
    rintro e W3 ⟨rfl, hb3⟩
    replace hb3 := hid_e hb3
    go_wp2_with fail
    go_ret
    exact ⟨rfl, hB2.out.trans (hb3.out.mono hB2.out.size)⟩
  | false =>
    have call2 := hid_e (many_any a c n ds W2 hn.out hnn (hD.out.keep hB2.out) (hR.out.keep hB2.out))
    go_wp2_with fail
    refine call2.out.mono ?_
    rintro e W3 ⟨⟨z, rfl, hz⟩, hb3'⟩
    have hB3 := hid_e (hB2.out.trans (hb3'.mono hB2.out.size))
    have hX3 := hid_e (hX2.out.keep hb3')
    clear call2 hb3' hX2 hB2
    cases z with
    | true =>
      go_wp2_with fail
      refine (live_any W3).mono ?_
      rintro e W4 ⟨rfl, hb4⟩
      replace hb4 := hid_e hb4
      go_wp2_with fail
      go_ret
      exact ⟨rfl, hB3.out.trans (hb4.out.mono hB3.out.size)⟩
    | false =>
      have hn150 := hz rfl
      clear hz
      obtain ⟨x0, x1, x2, x3, x4⟩ := hX3.out
      have x0' : W3.drew.cell? ⟨w.heap.size, 0, none⟩ = some (.int .i64 k) := x0
      have x1' : W3.drew.cell? ⟨w.heap.size, 1, none⟩ = some (.int .i64 x) := x1
      have x2' : W3.drew.cell? ⟨w.heap.size, 2, none⟩ = some (.string s) := x2
      have x3' : W3.drew.cell? ⟨w.heap.size, 3, none⟩ = some (.slice an ln cn) := x3
      have x4' : W3.drew.cell? ⟨w.heap.size, 4, none⟩ = some (.slice ai li ci) := x4
      have hB3' : Hid (Below w.heap.size w W3.drew) := below_drew hB3.out
      go_upto_region 5 with fail
      go_region_held3 (fun W => W.cell? ⟨w.heap.size, 0, none⟩ = some (.int .i64 k) ∧ W.cell? ⟨w.heap.size, 1, none⟩ = some (.int .i64 x) ∧ W.cell? ⟨w.heap.size, 2, none⟩ = some (.string s) ∧ W.cell? ⟨w.heap.size, 3, none⟩ = some (.slice an ln cn) ∧ W.cell? ⟨w.heap.size, 4, none⟩ = some (.slice ai li ci)) (go_keep) (first
        | (go_at_call 11; refine (apply_nil k x s an ln cn ai li ci _).mono ?_; rintro e Y1 ⟨rfl, hy1⟩; have a0 := stay hy1 x0'; have a1 := stay hy1 x1'; have a2 := stay hy1 x2'; have a3 := stay hy1 x3'; have a4 := stay hy1 x4'; have hC1 := hid_e (hB3'.out.trans (hy1.mono hB3'.out.size)); clear hy1 x0 x1 x2 x3 x4 x0' x1' x2' x3' x4')
        | (go_at_call 10; refine (equal_self t k x s an ln cn ai li ci Y1 (VRep.keep hC1.out _ _ hV.out)).mono ?_; rintro e Y2 ⟨rfl, hy2⟩; have b0 := stay hy2 a0; have b1 := stay hy2 a1; have b2 := stay hy2 a2; have b3 := stay hy2 a3; have b4 := stay hy2 a4; have hC2 := hid_e (hC1.out.trans (hy2.mono hC1.out.size)); clear hy2 a0 a1 a2 a3 a4)
        | (go_at_call 12; refine (key_nil k x s an ln cn ai li ci _).mono ?_; rintro e Y3 ⟨rfl, hy3⟩; have c0 := stay hy3 b0; have c1 := stay hy3 b1; have c2 := stay hy3 b2; have c3 := stay hy3 b3; have c4 := stay hy3 b4; have hC3 := hid_e (hC2.out.trans (hy3.mono hC2.out.size)); clear hy3 b0 b1 b2 b3 b4)
        | (go_at_call 10; refine (equal_self zeroT 0 0 ⟨#[]⟩ none 0 0 none 0 0 Y3 (zero_rep _)).mono ?_; rintro e Y4 ⟨rfl, hy4⟩; have d0 := stay hy4 c0; have d1 := stay hy4 c1; have d2 := stay hy4 c2; have d3 := stay hy4 c3; have d4 := stay hy4 c4; have hC4 := hid_e (hC3.out.trans (hy4.mono hC3.out.size)); clear hy4 c0 c1 c2 c3 c4)
        | (go_at_call 14; refine (order_nil a c n ds Y4 hn.out (by omega) (hD.out.keep hC4.out)).mono ?_; rintro e Y5 ⟨ob, rfl, hd5, hy5⟩; have f0 := stay hy5 d0; have f1 := stay hy5 d1; have f2 := stay hy5 d2; have f3 := stay hy5 d3; have f4 := stay hy5 d4; have hC5 := hid_e (hC4.out.trans (hy5.mono hC4.out.size)); replace hd5 := hid_e hd5; clear hy5 d0 d1 d2 d3 d4)
        | (go_at_call 15; refine (rorder_any (.slice none 0 0) a c n ds Y5 ltId swoId (fun x y => cmpS x.id y.id) (fun _ _ => rfl) (fun x _ y _ W _ => rcompare_nil x y W) hn.out (by omega) (hD.out.keep hC5.out)).mono ?_; rintro e Y6 ⟨v6, rfl, hd6, hy6⟩; obtain ⟨a6, c6, e6⟩ := hd6.slice; rw [isort_length, hn.out] at e6; subst e6; have g0 := stay hy6 f0; have g1 := stay hy6 f1; have g2 := stay hy6 f2; have g3 := stay hy6 f3; have g4 := stay hy6 f4; have hC6 := hid_e (hC5.out.trans (hy6.mono hC5.out.size)); have hd5' := hid_e (hd5.out.keep hy6); replace hd6 := hid_e hd6.docs; clear hy6 f0 f1 f2 f3 f4 hd5)
        | (go_at_call 13; refine (docs_self (some ⟨ob, 0, none⟩) a6 n c6 n (isort ltId ds) Y6 (by rw [isort_length, hn.out]) hnn hd5'.out hd6.out (fun d hd => VRep.keep hC6.out _ _ (hR.out d ((isort_perm ltId ds).mem_iff.1 hd)))).mono ?_; rintro e Y7 ⟨rfl, hy7⟩; have h0 := stay hy7 g0; have h1 := stay hy7 g1; have h2 := stay hy7 g2; have h3 := stay hy7 g3; have h4 := stay hy7 g4; have hC7 := hid_e (hC6.out.trans (hy7.mono hC6.out.size)); clear hy7 g0 g1 g2 g3 g4)
        | (go_at_call 9; refine (live_any Y7).mono ?_; rintro e Y8 ⟨rfl, hy8⟩; have i0 := stay hy8 h0; have i1 := stay hy8 h1; have i2 := stay hy8 h2; have i3 := stay hy8 h3; have i4 := stay hy8 h4; have hC8 := hid_e (hC7.out.trans (hy8.mono hC7.out.size)); clear hy8 h0 h1 h2 h3 h4))
      all_goals
        go_wp2_with fail
        go_ret
        exact ⟨rfl, hC8.out⟩
end Go.Proofs.YthafhemlnninbaaGreat.Tree
