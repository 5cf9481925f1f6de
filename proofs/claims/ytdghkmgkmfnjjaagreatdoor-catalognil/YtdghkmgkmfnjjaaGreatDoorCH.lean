import Derived.Test.YtdghkmgkmfnjjaaGreatDoorCG
/-! commit. -/
namespace Go.Proofs.YtdghkmgkmfnjjaaGreatDoor
open Go Go.RowKit Go.Maps

def oneC (bn bi : Nat) : Obj := .cells #[.string ⟨#[120]⟩, .int .i64 0, .int .i64 6, .int .i64 0, .string ⟨#[]⟩, .slice (some ⟨bn, 0, none⟩) 1 1, .slice (some ⟨bi, 0, none⟩) 1 1] 58
theorem cell_grown {w w' : World} {kb a j : Nat} {v : Value} (h : w.cell? ⟨a, j, none⟩ = some v) (hg : w.grownBy w' (some kb)) (hn : a ≠ kb) : w'.cell? ⟨a, j, none⟩ = some v := (World.cell?_of_block (w := w) (a := ⟨a, j, none⟩) (hg.block a (lt_of_cell h) (fun e => hn (by cases e; rfl)))).trans h
theorem num_grown {w w' : World} {kb a : Nat} {x : Int} (h : NumAt w a 0 x) (hg : w.grownBy w' (some kb)) (hn : a ≠ kb) : NumAt w' a 0 x := ⟨cell_grown h.1 hg hn, cell_grown h.2.1 hg hn, cell_grown h.2.2.1 hg hn, cell_grown h.2.2.2.1 hg hn, cell_grown h.2.2.2.2 hg hn⟩
theorem set_belowD {w x : World} {kb j m : Nat} {v : Value} (h : Below w.heap.size w x) : w.grownBy ((x.setCell ⟨kb, j, none⟩ v).drewN m) (some kb) := by
  have g := grown_below_any h (grown_set x kb j v)
  exact ⟨g.os, g.tape, g.output, g.size, g.block⟩
theorem grown_both {w x y : World} {kb : Nat} (h : w.grownBy x (some kb)) (k : x.grownBy y (some kb)) : w.grownBy y (some kb) := ⟨k.os.trans h.os, k.tape.trans h.tape, k.output.trans h.output, Nat.le_trans h.size k.size, fun i hi hn => (k.block i (Nat.lt_of_lt_of_le hi h.size) hn).trans (h.block i hi hn)⟩
theorem ix0_grown {w w' : World} {xb kb : Nat} {cnt : Int} {ix : Value} (h : Ix0 w xb) (hg : w.grownBy w' (some kb)) (hk : CollAt w kb cnt ix) : Ix0 w' xb := by
  obtain ⟨bp, cp, ge, gk, h1, h2⟩ := h
  refine ⟨bp, cp, ge, gk, (hg.block xb (Array.getElem?_eq_some_iff.1 h1).1 (fun e => ?_)).trans h1, cell_grown h2 hg (ne_coll hk h2 (fun e => absurd (Value.string.inj e) (by decide)))⟩
  cases e
  unfold CollAt at hk
  unfold IxAt at h1
  rw [hk] at h1
  cases h1
set_option maxHeartbeats 4000000 in
set_option maxRecDepth 100000 in
theorem commit_two (kb xb gn bn bi bn' bi' : Nat) (w : World) (h : Coll1 w kb 0 xb) (hX : Ix0 w xb) (hR : w.heap[gn]? = some (nowC bn bi bn' bi')) (hn1 : w.cell? ⟨bn, 0, none⟩ = some (.string nameA)) (hI1 : NumAt w bi 0 5) (hn2 : w.cell? ⟨bn', 0, none⟩ = some (.string nameA)) (hI2 : NumAt w bi' 0 7) :
    Calls Tryz.prog 37 #[.pointer (some ⟨kb, 0, none⟩), .slice none 0 0, .slice (some ⟨gn, 0, none⟩) 2 2] w fun e w' => ∃ yb, e = .returned (.int .i64 0) ∧ w.grownBy w' (some kb) ∧ Coll1 w' kb 2 yb ∧ IxTwo w' yb := by
  obtain ⟨g, c, hK, hc0, hgk⟩ := h
  have q1 := ne_coll hK hn1 (fun e => absurd (Value.string.inj e) (by decide))
  have q2 := ne_coll hK hI1.1 (fun e => by cases e)
  have q3 := ne_coll hK hn2 (fun e => absurd (Value.string.inj e) (by decide))
  have q4 := ne_coll hK hI2.1 (fun e => by cases e)
  have q5 : gn ≠ kb := fun e => by
    subst e
    unfold CollAt at hK
    unfold nowC at hR
    rw [hK] at hR
    cases hR
  have hfin := hid_of (fun (m : Nat) (X : World) (hB : Below w.heap.size w X) => change_ixs kb xb gn bn bi bn' bi' 2 ((X.setCell ⟨kb, 1, none⟩ (.int .i64 2)).drewN m)
    ⟨g, c, coll_cnt (hK.keep hB) 2, cell_grown hc0 (set_belowD hB) hgk, hgk⟩ (ix0_grown hX (set_belowD hB) hK) ((set_belowD hB).block gn (Array.getElem?_eq_some_iff.1 hR).1 (fun e => q5 (by cases e; rfl)) |>.trans hR) (cell_grown hn1 (set_belowD hB) q1) (num_grown hI1 (set_belowD hB) q2) (cell_grown hn2 (set_belowD hB) q3) (num_grown hI2 (set_belowD hB) q4))
  unfold nowC at hR
  replace hK := hid_of hK
  replace hR := hid_of hR
  have HB0 := hid_of (Below.refl w.heap.size w)
  clear hc0 hX hn1 hI1 hn2 hI2 q1 q2 q3 q4 q5 hgk
  go_enter Tryz.func37, Tryz.ntmps37
  go_wp2_with fail
  refine wp_loop_rounds 3 ?_
  have hc := row14 (block_keep hR.out HB0.out)
  have z0 := hc 0; have z1 := hc 1; have z2 := hc 2; have z3 := hc 3; have z4 := hc 4; have z5 := hc 5; have z6 := hc 6
  simp only [List.getElem?_toArray, List.getElem?_cons_zero, List.getElem?_cons_succ] at z0 z1 z2 z3 z4 z5 z6
  clear hc
  have hA : Below w.heap.size w (w.alloc (.cells #[.string ⟨#[98]⟩, .int .i64 0, .int .i64 6, .int .i64 0, .string ⟨#[]⟩, .slice (some ⟨bn, 0, none⟩) 1 1, .slice (some ⟨bi, 0, none⟩) 1 1] 58)) := HB0.out.alloc HB0.out.size _
  have v0 := item_at (heap_alloc_new w (.cells #[.string ⟨#[98]⟩, .int .i64 0, .int .i64 6, .int .i64 0, .string ⟨#[]⟩, .slice (some ⟨bn, 0, none⟩) 1 1, .slice (some ⟨bi, 0, none⟩) 1 1] 58))
  have rl := (hK.out.keep hA).at 11
  replace hA := hid_of hA
  rw [rounds_succ]
  go_upto_region 4 with fail
  generalize w.alloc (.cells #[.string ⟨#[98]⟩, .int .i64 0, .int .i64 6, .int .i64 0, .string ⟨#[]⟩, .slice (some ⟨bn, 0, none⟩) 1 1, .slice (some ⟨bi, 0, none⟩) 1 1] 58) = A0 at hA v0 rl ⊢
  obtain ⟨v2, v3, v4, v5, v6⟩ := v0
  obtain ⟨s0, hs0⟩ : ∃ s, Hid (s = w.heap.size) := ⟨_, rfl⟩
  rw [← hs0.out] at v2 v3 v4 v5 v6 ⊢
  clear z0 z1 z2 z3 z4 z5 z6
  go_region_held3 (fun W => W.cell? ⟨kb, 11, none⟩ = some (.pointer none) ∧ W.cell? ⟨s0, 2, none⟩ = some (.int .i64 6) ∧ W.cell? ⟨s0, 3, none⟩ = some (.int .i64 0) ∧ W.cell? ⟨s0, 4, none⟩ = some (.string ⟨#[]⟩) ∧ W.cell? ⟨s0, 5, none⟩ = some (.slice (some ⟨bn, 0, none⟩) 1 1) ∧ W.cell? ⟨s0, 6, none⟩ = some (.slice (some ⟨bi, 0, none⟩) 1 1)) (go_keep) ((go_at_call 58; refine (check_nil _ _ _ _ _ _ _ _ _ _).mono ?_; rintro e X1 ⟨rfl, hb'⟩; have hbA : Below A0.heap.size A0 X1 := (below_drewN (Below.refl _ A0) 1).trans hb'; have HB1 := hid_of (hA.out.trans (hbA.mono hA.out.size)); have j0 := stay hbA rl; have j2 := stay hbA v2; have j3 := stay hbA v3; have j4 := stay hbA v4; have j5 := stay hbA v5; have j6 := stay hbA v6; clear hb' hbA))
  clear hA rl v2 v3 v4 v5 v6 j0 j2 j3 j4 j5 j6
  go_wp2_with fail
  have hc := row14 (block_keep hR.out HB1.out)
  have z0 := hc 7; have z1 := hc 8; have z2 := hc 9; have z3 := hc 10; have z4 := hc 11; have z5 := hc 12; have z6 := hc 13
  simp only [List.getElem?_toArray, List.getElem?_cons_zero, List.getElem?_cons_succ] at z0 z1 z2 z3 z4 z5 z6
  clear hc
  have hA : Below w.heap.size w (X1.alloc (.cells #[.string ⟨#[97]⟩, .int .i64 0, .int .i64 6, .int .i64 0, .string ⟨#[]⟩, .slice (some ⟨bn', 0, none⟩) 1 1, .slice (some ⟨bi', 0, none⟩) 1 1] 58)) := HB1.out.alloc HB1.out.size _
  have v0 := item_at (heap_alloc_new X1 (.cells #[.string ⟨#[97]⟩, .int .i64 0, .int .i64 6, .int .i64 0, .string ⟨#[]⟩, .slice (some ⟨bn', 0, none⟩) 1 1, .slice (some ⟨bi', 0, none⟩) 1 1] 58))
  have rl := (hK.out.keep hA).at 11
  replace hA := hid_of hA
  rw [rounds_succ]
  go_upto_region 4 with fail
  generalize X1.alloc (.cells #[.string ⟨#[97]⟩, .int .i64 0, .int .i64 6, .int .i64 0, .string ⟨#[]⟩, .slice (some ⟨bn', 0, none⟩) 1 1, .slice (some ⟨bi', 0, none⟩) 1 1] 58) = A1 at hA v0 rl ⊢
  obtain ⟨v2, v3, v4, v5, v6⟩ := v0
  obtain ⟨s1, hs1⟩ : ∃ s, Hid (s = X1.heap.size) := ⟨_, rfl⟩
  rw [← hs1.out] at v2 v3 v4 v5 v6 ⊢
  clear z0 z1 z2 z3 z4 z5 z6
  go_region_held3 (fun W => W.cell? ⟨kb, 11, none⟩ = some (.pointer none) ∧ W.cell? ⟨s1, 2, none⟩ = some (.int .i64 6) ∧ W.cell? ⟨s1, 3, none⟩ = some (.int .i64 0) ∧ W.cell? ⟨s1, 4, none⟩ = some (.string ⟨#[]⟩) ∧ W.cell? ⟨s1, 5, none⟩ = some (.slice (some ⟨bn', 0, none⟩) 1 1) ∧ W.cell? ⟨s1, 6, none⟩ = some (.slice (some ⟨bi', 0, none⟩) 1 1)) (go_keep) ((go_at_call 58; refine (check_nil _ _ _ _ _ _ _ _ _ _).mono ?_; rintro e X2 ⟨rfl, hb'⟩; have hbA : Below A1.heap.size A1 X2 := (below_drewN (Below.refl _ A1) 1).trans hb'; have HB2 := hid_of (hA.out.trans (hbA.mono hA.out.size)); have j0 := stay hbA rl; have j2 := stay hbA v2; have j3 := stay hbA v3; have j4 := stay hbA v4; have j5 := stay hbA v5; have j6 := stay hbA v6; clear hb' hbA))
  clear hA rl v2 v3 v4 v5 v6 j0 j2 j3 j4 j5 j6
  go_wp2_with fail
  rw [rounds_succ]
  have hK2 := hK.out.keep HB2.out
  have k1 := hK2.at 1
  have kf := hK2.fz 1
  have hc := coll_cnt hK2 2
  have m1 := hc.at 1
  have m2 := hc.at 2
  have hg := hid_of (fun m => set_belowD (kb := kb) (j := 1) (m := m) (v := .int .i64 2) HB2.out)
  have hf := hid_of (fun m => hfin.out m X2 HB2.out)
  clear hfin hK2 hc hR hK
  go_wp2_with fail
  go_quiet (fail)
  go_wp2_with fail
  refine (hf.out _).mono ?_
  rintro e X3 ⟨yb, rfl, h1, h2, h3⟩
  replace h1 := hid_of (grown_both (hg.out _) h1)
  replace h2 := hid_of h2
  replace h3 := hid_of h3
  clear hf hg k1 kf m1 m2
  go_wp2_with fail
  go_ret
  exact ⟨yb, rfl, h1.out, h2.out, h3.out⟩
end Go.Proofs.YtdghkmgkmfnjjaaGreatDoor
