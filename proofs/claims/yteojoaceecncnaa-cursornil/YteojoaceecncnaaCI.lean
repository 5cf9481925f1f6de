import Derived.Test.YteojoaceecncnaaCH
import Derived.WalkMore
import Derived.ScopeJumps
import Derived.Deep.RegionHeld3
import Derived.OrdersHeld
/-! cursor: look over three items. -/
namespace Go.Proofs.Yteojoaceecncnaa
open Go Go.RowKit

theorem set_far {w : World} {b c i j : Nat} (h : b ≠ c ∨ i ≠ j) (v : Value) : (w.setCell ⟨c, j, none⟩ v).cell? ⟨b, i, none⟩ = w.cell? ⟨b, i, none⟩ := by
  by_cases hb : b = c
  · subst hb
    have hij := h.resolve_left (fun h => h rfl)
    cases hh : w.heap[b]? with
    | none => simp [World.cell?, World.setCell, Array.getElem?_modify, hh]
    | some o => cases o <;> simp [World.cell?, World.setCell, Array.getElem?_modify, hh, Ne.symm hij]
  · exact World.cell?_of_block (Below.heap_setCell _ _ _ _ hb)
theorem sp7 {a b1 b2 b3 b4 b5 b6 b7 b8 c : Prop} (h : a ∧ b1 ∧ b2 ∧ b3 ∧ b4 ∧ b5 ∧ b6 ∧ b7 ∧ b8 ∧ c) : a ∧ (b1 ∧ b2 ∧ b3 ∧ b4 ∧ b5 ∧ b6 ∧ b7 ∧ b8) ∧ c := ⟨h.1, ⟨h.2.1, h.2.2.1, h.2.2.2.1, h.2.2.2.2.1, h.2.2.2.2.2.1, h.2.2.2.2.2.2.1, h.2.2.2.2.2.2.2.1, h.2.2.2.2.2.2.2.2.1⟩, h.2.2.2.2.2.2.2.2.2⟩
set_option maxHeartbeats 8000000 in
set_option maxRecDepth 100000 in
theorem look3 (ib c pg batch : Nat) (kk : Nat → ByteArray) (nn : Nat → Int) (p0 : Pg) (w : World) (ht : Turned kk) (hI : ItsAt w ib kk nn) (hib : ib ≠ pg) (hl : p0.looked ≤ 1000) (hd : p0.docs = []) (hP : PgAt w pg batch p0.looked p0.rank p0.key (.slice none 0 0)) :
    Calls Try.prog 16 #[.pointer (some ⟨pg, 0, none⟩), .slice (some ⟨ib, 0, none⟩) 3 c] w fun e w' => e = .returned (.tuple #[]) ∧ ∃ W1 a cc, Below w.heap.size w W1 ∧ LSt kk nn pg batch W1 (p0.run kk batch 3) a cc w' := by
  have hpl := hid_of (placesOf3 ib c kk nn w ht.sz hI)
  have hpg := hid_of (Array.getElem?_eq_some_iff.1 hP).1
  replace hI := hid_of hI
  replace hP := hid_of hP
  replace ht := hid_of ht
  replace hib := hid_of hib
  replace hl := hid_of hl
  replace hd := hid_of hd
  go_enter Try.func16, Try.ntmps16
  go_step3
  go_wp2_with fail
  refine hpl.out.mono ?_
  rintro e X0 ⟨rfl, hB0, hL0⟩
  have hor := hid_of (order3 w.heap.size kk X0 ht.out hL0)
  have hX0 := hid_of (Nat.lt_of_lt_of_le (Nat.lt_succ_self _) (Array.getElem?_eq_some_iff.1 hL0).1)
  replace hB0 := hid_of hB0
  replace hL0 := hid_of hL0
  clear hpl
  go_wp2_with fail
  go_step3
  go_wp2_with fail
  refine hor.out.mono ?_
  rintro e W1 ⟨rfl, hB1, hR1⟩
  replace hL0 := hid_of (hL0.out.keep hB1)
  replace hB0 := hid_of (hB0.out.trans (hB1.mono hB0.out.size))
  replace hR1 := hid_of hR1
  replace hI := hid_of (hI.out.keep hB0.out)
  replace hP := hid_of (hP.out.keep hB0.out)
  have hpb := hid_of (show ¬ w.heap.size = pg by have := hpg.out; omega)
  have hob := hid_of (show ¬ X0.heap.size = pg by have := hpg.out; have := hX0.out; omega)
  clear hor hB1
  generalize w.heap.size = pb at hL0 hpb ⊢
  generalize X0.heap.size = ob at hR1 hob ⊢
  have hS0 := hid_of (⟨by rw [hd.out]; exact hP.out, by rw [hd.out]; exact Rw.nil _ _ _ _, Fr.refl _ _⟩ : LSt kk nn pg batch W1 p0 none 0 W1)
  have hpw := hid_of (Nat.lt_of_lt_of_le hpg.out hB0.out.size)
  clear hP hpg
  go_wp2_with fail
  go_loopw [13] (fun i wr => ∃ (q : Nat) (a : Option Addr) (cc : Nat), q ≤ 3 ∧ i = .int .i64 q ∧ LSt kk nn pg batch W1 (p0.run kk batch q) a cc wr) (fun i _ => 3 - (intOf i).toNat)
  case atStart => exact ⟨0, none, 0, Nat.zero_le _, rfl, hS0.out⟩
  case round =>
    clear hS0
    rename_i wr
    obtain ⟨q, a, cc, hq, rfl, hL⟩ := hrel
    replace hL := hid_of hL
    by_cases hlt : q < 3
    · have hd1 : decide ((q : Int) < 3) = true := by simp; omega
      obtain ⟨i, hi⟩ : ∃ i, Hid (i = 2 - q) := ⟨_, rfl⟩
      have hi3 : i < 3 := by have := hi.out; omega
      have hi4 : (i : Int) < 3 := by omega
      have r0 : wr.cell? ⟨ob, q, none⟩ = some (.int .i64 i) := by rw [hi.out]; exact (hR1.out.frame hL.out.fr hob.out).at hlt
      have hstep : Hid (p0.run kk batch (q + 1) = (p0.run kk batch q).step kk batch i) := by rw [hi.out]; rfl
      have hle := hid_of (Pg.run_le kk batch p0 q)
      have hrf := hid_of (Pg.run_full (kk := kk) (batch := batch) (p := p0) (q := q))
      generalize p0.run kk batch q = st at hL hstep hle hrf
      have hfu := hid_of (full_any pg batch st.looked st.rank st.docs.length cc st.key a wr hL.out.page)
      go_wp2_with fail
      refine hfu.out.mono ?_
      rintro e X1 ⟨rfl, hX1⟩
      replace hL := hid_of (hL.out.keep hX1)
      clear hfu r0 hX1 wr
      rename_i wr_gone
      by_cases hfull : st.docs.length = batch
      · have hdf : decide (st.docs.length = batch) = true := by simpa using hfull
        rw [hdf]
        clear hdf
        go_wp2_with fail
        simp only [Exit.noGoto]
        go_end0
        refine ⟨rfl, W1, a, cc, hB0.out, ?_⟩
        have e := hrf.out hfull (3 - q)
        rw [show q + (3 - q) = 3 by omega] at e
        rw [e]
        exact hL.out
      · have hdf : decide (st.docs.length = batch) = false := by simpa using hfull
        rw [hdf]
        clear hdf hrf
        obtain ⟨p0', p1'⟩ := (hL0.out.frame hL.out.fr hpb.out).all hi3
        obtain ⟨⟨g0, g1, g2, g3, g4, g5, g6, g7, g8⟩, hf⟩ := hL.out.page.cells
        have hz := fun W => hid_of (pcompare_any (rankK (kk i)) (kk i) st.rank st.key W)
        obtain ⟨z, hzz⟩ : ∃ z, Hid (cmpP (rankK (kk i)) (kk i) st.rank st.key = z) := ⟨_, rfl⟩
        rw [hzz.out] at hz
        by_cases hle0 : z ≤ 0
        · have hst2 : Hid (p0.run kk batch (q + 1) = st) := hstep.out.trans (by unfold Pg.step; rw [if_neg hfull, hzz.out, if_pos hle0])
          have hdz : decide (z ≤ 0) = true := by simpa using hle0
          clear hstep hfull hle0 hzz
          go_wp2_with fail
          refine wp_region_quiet (C := fun w' => Below X1.heap.size X1 w') (by kernel_rfl) (by kernel_rfl) (below_drewN (Below.refl _ _) 1) ?_
          with_reducible refine wpQuiet_step (fun K hK => ?_)
          refine ⟨.slice (some ⟨pb, 0, none⟩) 3 3, fun w' hw' => ?_, ?_⟩
          · first | (go_simp; done) | (go_simp; decide) | (go_simp; omega)
          with_reducible refine hK _ ?_
          clear hK K
          simp only [Act.put, List.setIfInBounds_toArray, List.set_cons_zero, List.set_cons_succ]
          with_reducible refine wpQuiet_step (fun K hK => ?_)
          refine ⟨.int .i64 i, fun w' hw' => ?_, ?_⟩
          · first | (go_simp; done) | (go_simp; decide) | (go_simp; omega)
          with_reducible refine hK _ ?_
          clear hK K
          simp only [Act.put, List.setIfInBounds_toArray, List.set_cons_zero, List.set_cons_succ]
          with_reducible refine wpQuiet_step (fun K hK => ?_)
          refine ⟨.pointer (some ⟨pb, i * 2, none⟩), fun w' hw' => ?_, ?_⟩
          · first | (go_simp; done) | (go_simp; decide) | (go_simp; omega)
          with_reducible refine hK _ ?_
          clear hK K
          simp only [Act.put, List.setIfInBounds_toArray, List.set_cons_zero, List.set_cons_succ]
          with_reducible refine wpQuiet_step (fun K hK => ?_)
          refine ⟨.agg #[.int .u64 (rankK (kk i)), .string (kk i)], fun w' hw' => ?_, ?_⟩
          · have t0 := stay hw' p0'; have t1 := stay hw' p1'; go_simp
          with_reducible refine hK _ ?_
          clear hK K
          simp only [Act.put, List.setIfInBounds_toArray, List.set_cons_zero, List.set_cons_succ]
          with_reducible refine wpQuiet_step (fun K hK => ?_)
          refine ⟨.pointer (some ⟨pg, 0, none⟩), fun w' hw' => ?_, ?_⟩
          · first | (go_simp; done) | (go_simp; decide) | (go_simp; omega)
          with_reducible refine hK _ ?_
          clear hK K
          simp only [Act.put, List.setIfInBounds_toArray, List.set_cons_zero, List.set_cons_succ]
          with_reducible refine wpQuiet_step (fun K hK => ?_)
          refine ⟨.pointer (some ⟨pg, 0, none⟩), fun w' hw' => ?_, ?_⟩
          · first | (go_simp; done) | (go_simp; decide) | (go_simp; omega)
          with_reducible refine hK _ ?_
          clear hK K
          simp only [Act.put, List.setIfInBounds_toArray, List.set_cons_zero, List.set_cons_succ]
          with_reducible refine wpQuiet_step (fun K hK => ?_)
          refine ⟨.pointer (some ⟨pg, 0, none⟩), fun w' hw' => ?_, ?_⟩
          · first | (go_simp; done) | (go_simp; decide) | (go_simp; omega)
          with_reducible refine hK _ ?_
          clear hK K
          simp only [Act.put, List.setIfInBounds_toArray, List.set_cons_zero, List.set_cons_succ]
          with_reducible refine wpQuiet_step (fun K hK => ?_)
          refine ⟨.pointer (some ⟨pg, 4, none⟩), fun w' hw' => ?_, ?_⟩
          · first | (go_simp; done) | (go_simp; decide) | (go_simp; omega)
          with_reducible refine hK _ ?_
          clear hK K
          simp only [Act.put, List.setIfInBounds_toArray, List.set_cons_zero, List.set_cons_succ]
          with_reducible refine wpQuiet_step (fun K hK => ?_)
          refine ⟨.agg #[.int .u64 st.rank, .string st.key], fun w' hw' => ?_, ?_⟩
          · have t0 := stay hw' g4; have t1 := stay hw' g5; go_simp
          with_reducible refine hK _ ?_
          clear hK K
          simp only [Act.put, List.setIfInBounds_toArray, List.set_cons_zero, List.set_cons_succ]
          with_reducible refine wpQuiet_step (fun K hK => ?_)
          refine ⟨.int .i64 z, fun w' hw' => ?_, ?_⟩
          · go_simp
            refine ((hz w').out).mono ?_
            rintro e w'' ⟨rfl, hb'⟩
            exact ⟨rfl, hw'.trans (hb'.mono hw'.size)⟩
          with_reducible refine hK _ ?_
          clear hK K
          simp only [Act.put, List.setIfInBounds_toArray, List.set_cons_zero, List.set_cons_succ]
          with_reducible refine wpQuiet_step (fun K hK => ?_)
          refine ⟨.bool true, fun w' hw' => ?_, ?_⟩
          · first | (go_simp; done) | (go_simp; decide) | (go_simp; omega)
          with_reducible refine hK _ ?_
          clear hK K
          simp only [Act.put, List.setIfInBounds_toArray, List.set_cons_zero, List.set_cons_succ]
          with_reducible refine wpQuiet_step (fun K hK => ?_)
          refine ⟨.bool true, fun w' hw' => ?_, ?_⟩
          · first | (go_simp; done) | (go_simp; decide) | (go_simp; omega)
          with_reducible refine hK _ ?_
          clear hK K
          simp only [Act.put, List.setIfInBounds_toArray, List.set_cons_zero, List.set_cons_succ]
          refine wpQuiet_nil ?_
          intro X2 hX2
          replace hL := hid_of (hL.out.keep hX2)
          clear hX2 p0' p1' g0 g1 g2 g3 g4 g5 g6 g7 g8 hf hz hdz
          go_wp2_with fail
          go_roundw
          case rel => exact ⟨q + 1, a, cc, by omega, by simp, by rw [hst2.out]; exact hL.out⟩
          case measure => simp [intOf]; omega
        · have hst2 : Hid (p0.run kk batch (q + 1) = ⟨st.looked + 1, rankK (kk i), kk i, st.docs ++ [i]⟩) := hstep.out.trans (by unfold Pg.step; rw [if_neg hfull, hzz.out, if_neg hle0])
          have hdz : decide (z ≤ 0) = false := by simpa using hle0
          clear hstep hfull hle0 hzz
          go_wp2_with fail
          refine wp_region_quiet (C := fun w' => Below X1.heap.size X1 w') (by kernel_rfl) (by kernel_rfl) (below_drewN (Below.refl _ _) 1) ?_
          with_reducible refine wpQuiet_step (fun K hK => ?_)
          refine ⟨.slice (some ⟨pb, 0, none⟩) 3 3, fun w' hw' => ?_, ?_⟩
          · first | (go_simp; done) | (go_simp; decide) | (go_simp; omega)
          with_reducible refine hK _ ?_
          clear hK K
          simp only [Act.put, List.setIfInBounds_toArray, List.set_cons_zero, List.set_cons_succ]
          with_reducible refine wpQuiet_step (fun K hK => ?_)
          refine ⟨.int .i64 i, fun w' hw' => ?_, ?_⟩
          · first | (go_simp; done) | (go_simp; decide) | (go_simp; omega)
          with_reducible refine hK _ ?_
          clear hK K
          simp only [Act.put, List.setIfInBounds_toArray, List.set_cons_zero, List.set_cons_succ]
          with_reducible refine wpQuiet_step (fun K hK => ?_)
          refine ⟨.pointer (some ⟨pb, i * 2, none⟩), fun w' hw' => ?_, ?_⟩
          · first | (go_simp; done) | (go_simp; decide) | (go_simp; omega)
          with_reducible refine hK _ ?_
          clear hK K
          simp only [Act.put, List.setIfInBounds_toArray, List.set_cons_zero, List.set_cons_succ]
          with_reducible refine wpQuiet_step (fun K hK => ?_)
          refine ⟨.agg #[.int .u64 (rankK (kk i)), .string (kk i)], fun w' hw' => ?_, ?_⟩
          · have t0 := stay hw' p0'; have t1 := stay hw' p1'; go_simp
          with_reducible refine hK _ ?_
          clear hK K
          simp only [Act.put, List.setIfInBounds_toArray, List.set_cons_zero, List.set_cons_succ]
          with_reducible refine wpQuiet_step (fun K hK => ?_)
          refine ⟨.pointer (some ⟨pg, 0, none⟩), fun w' hw' => ?_, ?_⟩
          · first | (go_simp; done) | (go_simp; decide) | (go_simp; omega)
          with_reducible refine hK _ ?_
          clear hK K
          simp only [Act.put, List.setIfInBounds_toArray, List.set_cons_zero, List.set_cons_succ]
          with_reducible refine wpQuiet_step (fun K hK => ?_)
          refine ⟨.pointer (some ⟨pg, 0, none⟩), fun w' hw' => ?_, ?_⟩
          · first | (go_simp; done) | (go_simp; decide) | (go_simp; omega)
          with_reducible refine hK _ ?_
          clear hK K
          simp only [Act.put, List.setIfInBounds_toArray, List.set_cons_zero, List.set_cons_succ]
          with_reducible refine wpQuiet_step (fun K hK => ?_)
          refine ⟨.pointer (some ⟨pg, 0, none⟩), fun w' hw' => ?_, ?_⟩
          · first | (go_simp; done) | (go_simp; decide) | (go_simp; omega)
          with_reducible refine hK _ ?_
          clear hK K
          simp only [Act.put, List.setIfInBounds_toArray, List.set_cons_zero, List.set_cons_succ]
          with_reducible refine wpQuiet_step (fun K hK => ?_)
          refine ⟨.pointer (some ⟨pg, 4, none⟩), fun w' hw' => ?_, ?_⟩
          · first | (go_simp; done) | (go_simp; decide) | (go_simp; omega)
          with_reducible refine hK _ ?_
          clear hK K
          simp only [Act.put, List.setIfInBounds_toArray, List.set_cons_zero, List.set_cons_succ]
          with_reducible refine wpQuiet_step (fun K hK => ?_)
          refine ⟨.agg #[.int .u64 st.rank, .string st.key], fun w' hw' => ?_, ?_⟩
          · have t0 := stay hw' g4; have t1 := stay hw' g5; go_simp
          with_reducible refine hK _ ?_
          clear hK K
          simp only [Act.put, List.setIfInBounds_toArray, List.set_cons_zero, List.set_cons_succ]
          with_reducible refine wpQuiet_step (fun K hK => ?_)
          refine ⟨.int .i64 z, fun w' hw' => ?_, ?_⟩
          · go_simp
            refine ((hz w').out).mono ?_
            rintro e w'' ⟨rfl, hb'⟩
            exact ⟨rfl, hw'.trans (hb'.mono hw'.size)⟩
          with_reducible refine hK _ ?_
          clear hK K
          simp only [Act.put, List.setIfInBounds_toArray, List.set_cons_zero, List.set_cons_succ]
          with_reducible refine wpQuiet_step (fun K hK => ?_)
          refine ⟨.bool false, fun w' hw' => ?_, ?_⟩
          · first | (go_simp; done) | (go_simp; decide) | (go_simp; omega)
          with_reducible refine hK _ ?_
          clear hK K
          simp only [Act.put, List.setIfInBounds_toArray, List.set_cons_zero, List.set_cons_succ]
          with_reducible refine wpQuiet_step (fun K hK => ?_)
          refine ⟨.bool false, fun w' hw' => ?_, ?_⟩
          · first | (go_simp; done) | (go_simp; decide) | (go_simp; omega)
          with_reducible refine hK _ ?_
          clear hK K
          simp only [Act.put, List.setIfInBounds_toArray, List.set_cons_zero, List.set_cons_succ]
          refine wpQuiet_nil ?_
          intro X2 hX2
          replace hL := hid_of (hL.out.keep hX2)
          clear hX2 p0' p1' g0 g1 g2 g3 g4 g5 g6 g7 g8 hf hz hdz
          obtain ⟨p0', p1'⟩ := (hL0.out.frame hL.out.fr hpb.out).all hi3
          obtain ⟨⟨g0, g1, g2, g3, g4, g5, g6, g7, g8⟩, hf⟩ := hL.out.page.cells
          have f3 := hf 3
          have f4 := hf 4
          have f5 := hf 5
          have f8 := hf 8
          clear hf
          go_wp2_with fail
          go_region
          have hwr : wrap64 ((st.looked : Int) + 1) = ((st.looked + 1 : Nat) : Int) := by
            have := hle.out.1
            have := hl.out
            unfold wrap64
            omega
          rw [hwr]
          clear g0 g1 g2 g3 g4 g5 g6 g7 g8 f3 f4 f5 f8 p0' p1' hwr
          replace hL := hid_of (hL.out.looks hpw.out (st.looked + 1) (rankK (kk i)) (kk i))
          generalize ((((X2.setCell ⟨pg, 3, none⟩ (.int .i64 ((st.looked + 1 : Nat) : Int))).setCell ⟨pg, 4, none⟩ (.int .u64 (rankK (kk i)))).setCell ⟨pg, 5, none⟩ (.string (kk i))).setCell ⟨pg, 8, none⟩ (.int .i64 0)).drew = X3 at hL ⊢
          have hlen := hid_of (show st.docs.length ≤ 3 by have := hle.out.2; rw [hd.out] at this; simp at this; omega)
          obtain ⟨st3, hst3⟩ : ∃ s : Pg, Hid (s = ⟨st.looked + 1, rankK (kk i), kk i, st.docs⟩) := ⟨_, rfl⟩
          rw [← hst3.out] at hL
          rw [show st.docs = st3.docs by rw [hst3.out]] at hst2 hlen
          have hst4 : Hid (p0.run kk batch (q + 1) = ⟨st3.looked, st3.rank, st3.key, st3.docs ++ [i]⟩) := hst2.out.trans (by rw [hst3.out])
          clear hst2 hst3 hle
          obtain ⟨y0, y1, y2, y3, y4, y5, y6⟩ := hI.out.frame hL.out.fr hib.out i hi3
          go_wp2_with fail
          have hL4 := hid_of (hL.out.keep ((Below.refl _ X3).alloc (Nat.le_refl _) (.cells #[.string (kk i), .int .i64 (nn i), .int .i64 3, .int .i64 (nn i), .string ⟨#[]⟩, .slice none 0 0, .slice none 0 0] 50)))
          have hx4 := heap_alloc_new X3 (.cells #[.string (kk i), .int .i64 (nn i), .int .i64 3, .int .i64 (nn i), .string ⟨#[]⟩, .slice none 0 0, .slice none 0 0] 50)
          generalize X3.alloc (.cells #[.string (kk i), .int .i64 (nn i), .int .i64 3, .int .i64 (nn i), .string ⟨#[]⟩, .slice none 0 0, .slice none 0 0] 50) = X4 at hL4 hx4 ⊢
          obtain ⟨xb, hxb⟩ : ∃ n, Hid (n = X3.heap.size) := ⟨_, rfl⟩
          rw [← hxb.out] at hx4 ⊢
          obtain ⟨x0, x1, x2, x3, x4, x5, x6⟩ := cells7 hx4
          obtain ⟨⟨k0, k1, k2, k3, k4, k5, k6, k7, k8⟩, hf⟩ := hL4.out.page.cells
          have hm := fun W => hid_of (match_nil (nn i) W)
          unfold numV at hm
          replace hx4 := hid_of hx4
          clear y0 y1 y2 y3 y4 y5 y6
          refine wp_region_quiet (C := fun w' => Below X4.heap.size X4 w') (by kernel_rfl) (by kernel_rfl) (below_drewN (Below.refl _ _) 1) ?_
          with_reducible refine wpQuiet_step (fun K hK => ?_)
          refine ⟨.pointer (some ⟨pg, 0, none⟩), fun w' hw' => ?_, ?_⟩
          · first | (go_simp; done) | (go_simp; decide) | (go_simp; omega)
          with_reducible refine hK _ ?_
          clear hK K
          simp only [Act.put, List.setIfInBounds_toArray, List.set_cons_zero, List.set_cons_succ]
          with_reducible refine wpQuiet_step (fun K hK => ?_)
          refine ⟨.pointer (some ⟨pg, 0, none⟩), fun w' hw' => ?_, ?_⟩
          · first | (go_simp; done) | (go_simp; decide) | (go_simp; omega)
          with_reducible refine hK _ ?_
          clear hK K
          simp only [Act.put, List.setIfInBounds_toArray, List.set_cons_zero, List.set_cons_succ]
          with_reducible refine wpQuiet_step (fun K hK => ?_)
          refine ⟨.pointer (some ⟨pg, 0, none⟩), fun w' hw' => ?_, ?_⟩
          · first | (go_simp; done) | (go_simp; decide) | (go_simp; omega)
          with_reducible refine hK _ ?_
          clear hK K
          simp only [Act.put, List.setIfInBounds_toArray, List.set_cons_zero, List.set_cons_succ]
          with_reducible refine wpQuiet_step (fun K hK => ?_)
          refine ⟨.pointer (some ⟨pg, 0, none⟩), fun w' hw' => ?_, ?_⟩
          · first | (go_simp; done) | (go_simp; decide) | (go_simp; omega)
          with_reducible refine hK _ ?_
          clear hK K
          simp only [Act.put, List.setIfInBounds_toArray, List.set_cons_zero, List.set_cons_succ]
          with_reducible refine wpQuiet_step (fun K hK => ?_)
          refine ⟨.pointer none, fun w' hw' => ?_, ?_⟩
          · have t0 := stay hw' k0; go_simp
          with_reducible refine hK _ ?_
          clear hK K
          simp only [Act.put, List.setIfInBounds_toArray, List.set_cons_zero, List.set_cons_succ]
          with_reducible refine wpQuiet_step (fun K hK => ?_)
          refine ⟨.pointer (some ⟨xb, 2, none⟩), fun w' hw' => ?_, ?_⟩
          · first | (go_simp; done) | (go_simp; decide) | (go_simp; omega)
          with_reducible refine hK _ ?_
          clear hK K
          simp only [Act.put, List.setIfInBounds_toArray, List.set_cons_zero, List.set_cons_succ]
          with_reducible refine wpQuiet_step (fun K hK => ?_)
          refine ⟨.agg #[.int .i64 3, .int .i64 (nn i), .string ⟨#[]⟩, .slice none 0 0, .slice none 0 0], fun w' hw' => ?_, ?_⟩
          · have t0 := stay hw' x2; have t1 := stay hw' x3; have t2 := stay hw' x4; have t3 := stay hw' x5; have t4 := stay hw' x6; go_simp
          with_reducible refine hK _ ?_
          clear hK K
          simp only [Act.put, List.setIfInBounds_toArray, List.set_cons_zero, List.set_cons_succ]
          with_reducible refine wpQuiet_step (fun K hK => ?_)
          refine ⟨.bool true, fun w' hw' => ?_, ?_⟩
          · go_simp
            refine ((hm w').out).mono ?_
            rintro e w'' ⟨rfl, hb'⟩
            exact ⟨rfl, hw'.trans (hb'.mono hw'.size)⟩
          with_reducible refine hK _ ?_
          clear hK K
          simp only [Act.put, List.setIfInBounds_toArray, List.set_cons_zero, List.set_cons_succ]
          refine wpQuiet_nil ?_
          intro X5 hX5
          clear x0 x1 x2 x3 x4 x5 x6 k0 k1 k2 k3 k4 k5 k6 k7 k8 hf hm
          replace hL4 := hid_of (hL4.out.keep hX5)
          replace hx4 := hid_of ((hX5.block _ (Array.getElem?_eq_some_iff.1 hx4.out).1).trans hx4.out)
          clear hX5 X4
          go_wp2_with fail
          obtain ⟨x0, x1, x2, x3, x4, x5, x6⟩ := cells7 hx4.out
          obtain ⟨⟨k0, k1, k2, k3, k4, k5, k6, k7, k8⟩, hf⟩ := hL4.out.page.cells
          have f7 := hf 7
          have hap := hid_of (apply_nil (nn i) X5.drew)
          unfold numV at hap
          clear hf k0 k2 k3 k4 k5 k6 k8
          have hsame : Hid (∀ w' : World, w'.heap[pg]? = X5.heap[pg]? → w'.heap[xb]? = X5.heap[xb]? → (w'.cell? ⟨pg, 7, none⟩ = some (.slice a st3.docs.length cc) ∧ w'.cell? ⟨pg, 1, none⟩ = some (.pointer none) ∧ w'.cell? ⟨xb, 0, none⟩ = some (.string (kk i)) ∧ w'.cell? ⟨xb, 1, none⟩ = some (.int .i64 (nn i)) ∧ w'.cell? ⟨xb, 2, none⟩ = some (.int .i64 3) ∧ w'.cell? ⟨xb, 3, none⟩ = some (.int .i64 (nn i)) ∧ w'.cell? ⟨xb, 4, none⟩ = some (.string ⟨#[]⟩) ∧ w'.cell? ⟨xb, 5, none⟩ = some (.slice none 0 0) ∧ w'.cell? ⟨xb, 6, none⟩ = some (.slice none 0 0) ∧ w'.frozen? ⟨pg, 7, none⟩ = false)) := by
            intro w' e1 e2
            rw [World.cell?_of_block (w := X5) (a := ⟨pg, 7, none⟩) e1, World.cell?_of_block (w := X5) (a := ⟨pg, 1, none⟩) e1, World.frozen?_of_block (w := X5) (a := ⟨pg, 7, none⟩) e1, World.cell?_of_block (w := X5) (a := ⟨xb, 0, none⟩) e2, World.cell?_of_block (w := X5) (a := ⟨xb, 1, none⟩) e2, World.cell?_of_block (w := X5) (a := ⟨xb, 2, none⟩) e2, World.cell?_of_block (w := X5) (a := ⟨xb, 3, none⟩) e2, World.cell?_of_block (w := X5) (a := ⟨xb, 4, none⟩) e2, World.cell?_of_block (w := X5) (a := ⟨xb, 5, none⟩) e2, World.cell?_of_block (w := X5) (a := ⟨xb, 6, none⟩) e2]
            exact ⟨k7, k1, x0, x1, x2, x3, x4, x5, x6, f7⟩
          have hlp := hid_of (Array.getElem?_eq_some_iff.1 hL4.out.page).1
          have hlx := hid_of (Array.getElem?_eq_some_iff.1 hx4.out).1
          have hmid := hid_of (fun (wr W3 : World) (g o c2 : Nat) (ys : List Value) (hw : Below X5.heap.size X5 wr) (hA : Appd wr W1.heap.size 7 a st3.docs.length 1 cc ys g o c2 W3) => hsame.out W3 ((hL.out.mid hpw.out hA (.inl rfl) (Nat.lt_of_lt_of_le hlp.out hw.size)).trans (hw.block _ hlp.out)) ((hL.out.mid hpw.out hA (.inr (by rw [hxb.out]; exact Nat.le_refl _)) (Nat.lt_of_lt_of_le hlx.out hw.size)).trans (hw.block _ hlx.out)))
          have hbel := hid_of (fun (w' : World) (hw : Below X5.heap.size X5 w') => hsame.out w' (hw.block _ hlp.out) (hw.block _ hlx.out))
          have hdr := hid_of (hsame.out X5.drew rfl rfl)
          obtain ⟨ri, hri, hri1, hri2, hri3⟩ := doc_info
          have hcA := hid_of (fun (W6 : World) (hw : Below X5.heap.size X5 W6) => hbel.out W6 hw)
          have hcB := hid_of (fun (W6 : World) (hw : Below X5.heap.size X5 W6) => hbel.out (W6.alloc (.cells #[.string (kk i), .int .i64 (nn i), .int .i64 3, .int .i64 (nn i), .string ⟨#[]⟩, .slice none 0 0, .slice none 0 0] 53)) (hw.alloc hw.size _))
          have hcC := hid_of (fun (W6 : World) (hw : Below X5.heap.size X5 W6) => hL4.out.keep (hw.alloc hw.size (.cells #[.string (kk i), .int .i64 (nn i), .int .i64 3, .int .i64 (nn i), .string ⟨#[]⟩, .slice none 0 0, .slice none 0 0] 53)))
          have hcD : Hid (∀ W6 : World, Src Try.prog 7 27 (.slice (some ⟨W6.heap.size, 0, none⟩) 1 1) 1 (itCs (kk i) (nn i)) (W6.alloc (.cells #[.string (kk i), .int .i64 (nn i), .int .i64 3, .int .i64 (nn i), .string ⟨#[]⟩, .slice none 0 0, .slice none 0 0] 53))) := fun W6 => Src.of_block Try.underlying27 (heap_alloc_new W6 (.cells #[.string (kk i), .int .i64 (nn i), .int .i64 3, .int .i64 (nn i), .string ⟨#[]⟩, .slice none 0 0, .slice none 0 0] 53)) 1 1 rfl (by simp [Value.oneCell'])
          have hcE := hid_of (fun (W6 : World) (hw : Below X5.heap.size X5 W6) => hw.alloc hw.size (.cells #[.string (kk i), .int .i64 (nn i), .int .i64 3, .int .i64 (nn i), .string ⟨#[]⟩, .slice none 0 0, .slice none 0 0] 53))
          have hnum : Hid (st3.docs.length + 1 ≤ maxLen ∧ (st3.docs.length + 1) * 104 ≤ 140737488355328) := by
            have := hlen.out
            unfold Hid maxLen
            omega
          have hW1 := hid_of hL4.out.fr.size
          clear k7 k1 x0 x1 x2 x3 x4 x5 x6 f7
          have hne7 := hid_of (show xb ≠ pg by have := hL.out.fr.size; have := hpw.out; have := hxb.out; omega)
          have hset : Hid (∀ (w' : World) (v : Value), (w'.cell? ⟨pg, 1, none⟩ = some (.pointer none) ∧ w'.cell? ⟨xb, 0, none⟩ = some (.string (kk i)) ∧ w'.cell? ⟨xb, 1, none⟩ = some (.int .i64 (nn i)) ∧ w'.cell? ⟨xb, 2, none⟩ = some (.int .i64 3) ∧ w'.cell? ⟨xb, 3, none⟩ = some (.int .i64 (nn i)) ∧ w'.cell? ⟨xb, 4, none⟩ = some (.string ⟨#[]⟩) ∧ w'.cell? ⟨xb, 5, none⟩ = some (.slice none 0 0) ∧ w'.cell? ⟨xb, 6, none⟩ = some (.slice none 0 0)) → ((w'.setCell ⟨pg, 7, none⟩ v).cell? ⟨pg, 1, none⟩ = some (.pointer none) ∧ (w'.setCell ⟨pg, 7, none⟩ v).cell? ⟨xb, 0, none⟩ = some (.string (kk i)) ∧ (w'.setCell ⟨pg, 7, none⟩ v).cell? ⟨xb, 1, none⟩ = some (.int .i64 (nn i)) ∧ (w'.setCell ⟨pg, 7, none⟩ v).cell? ⟨xb, 2, none⟩ = some (.int .i64 3) ∧ (w'.setCell ⟨pg, 7, none⟩ v).cell? ⟨xb, 3, none⟩ = some (.int .i64 (nn i)) ∧ (w'.setCell ⟨pg, 7, none⟩ v).cell? ⟨xb, 4, none⟩ = some (.string ⟨#[]⟩) ∧ (w'.setCell ⟨pg, 7, none⟩ v).cell? ⟨xb, 5, none⟩ = some (.slice none 0 0) ∧ (w'.setCell ⟨pg, 7, none⟩ v).cell? ⟨xb, 6, none⟩ = some (.slice none 0 0))) := by
            intro w' v h
            obtain ⟨a1, a2, a3, a4, a5, a6, a7, a8⟩ := h
            exact ⟨(set_far (.inr (by decide)) _).trans a1, (set_far (.inl hne7.out) _).trans a2, (set_far (.inl hne7.out) _).trans a3, (set_far (.inl hne7.out) _).trans a4, (set_far (.inl hne7.out) _).trans a5, (set_far (.inl hne7.out) _).trans a6, (set_far (.inl hne7.out) _).trans a7, (set_far (.inl hne7.out) _).trans a8⟩
          obtain ⟨d7, hS5, fd⟩ := sp7 hdr.out
          replace hS5 := hid_of hS5
          refine wp_region_noPanic ?_
          refine wp_region_held_drew (S := fun w' => w'.cell? ⟨pg, 1, none⟩ = some (.pointer none) ∧ w'.cell? ⟨xb, 0, none⟩ = some (.string (kk i)) ∧ w'.cell? ⟨xb, 1, none⟩ = some (.int .i64 (nn i)) ∧ w'.cell? ⟨xb, 2, none⟩ = some (.int .i64 3) ∧ w'.cell? ⟨xb, 3, none⟩ = some (.int .i64 (nn i)) ∧ w'.cell? ⟨xb, 4, none⟩ = some (.string ⟨#[]⟩) ∧ w'.cell? ⟨xb, 5, none⟩ = some (.slice none 0 0) ∧ w'.cell? ⟨xb, 6, none⟩ = some (.slice none 0 0)) (by kernel_rfl) hS5.out (fun hHeld => ?_)
          refine wpAnyH_take (i := 0) (v := .pointer (some ⟨pg, 0, none⟩)) rfl (by kernel_rfl) (by kernel_rfl) (by kernel_rfl) (fun _ _ _ h => (h : False).elim) (Or.inl ⟨by rfl, (by intro w' hS; obtain ⟨s1, s2, s3, s4, s5, s6, s7, s8⟩ := hS; go_simp)⟩) hHeld ?_
          simp only [Act.put, List.getElem_toArray, List.getElem_cons_zero, List.setIfInBounds_toArray, List.set_cons_zero, List.set_cons_succ]
          refine wpAnyH_take (i := 1) (v := .pointer (some ⟨pg, 0, none⟩)) rfl (by kernel_rfl) (by kernel_rfl) (by kernel_rfl) (fun _ _ _ h => (h : False).elim) (Or.inl ⟨by rfl, (by intro w' hS; obtain ⟨s1, s2, s3, s4, s5, s6, s7, s8⟩ := hS; go_simp)⟩) hHeld ?_
          simp only [Act.put, List.getElem_toArray, List.getElem_cons_zero, List.getElem_cons_succ, List.setIfInBounds_toArray, List.set_cons_zero, List.set_cons_succ]
          refine wpAnyH_take (i := 2) (v := .pointer (some ⟨pg, 0, none⟩)) rfl (by kernel_rfl) (by kernel_rfl) (by kernel_rfl) (fun _ _ _ h => (h : False).elim) (Or.inl ⟨by rfl, (by intro w' hS; obtain ⟨s1, s2, s3, s4, s5, s6, s7, s8⟩ := hS; go_simp)⟩) hHeld ?_
          simp only [Act.put, List.getElem_toArray, List.getElem_cons_zero, List.getElem_cons_succ, List.setIfInBounds_toArray, List.set_cons_zero, List.set_cons_succ]
          refine wpAnyH_take (i := 3) (v := .pointer (some ⟨pg, 7, none⟩)) rfl (by kernel_rfl) (by kernel_rfl) (by kernel_rfl) (fun _ _ _ h => (h : False).elim) (Or.inl ⟨by rfl, (by intro w' hS; obtain ⟨s1, s2, s3, s4, s5, s6, s7, s8⟩ := hS; go_simp)⟩) hHeld ?_
          simp only [Act.put, List.getElem_toArray, List.getElem_cons_zero, List.getElem_cons_succ, List.setIfInBounds_toArray, List.set_cons_zero, List.set_cons_succ]
          refine wpAnyH_take (i := 5) (v := .pointer (some ⟨xb, 0, none⟩)) rfl (by kernel_rfl) (by kernel_rfl) (by kernel_rfl) (fun _ _ _ h => (h : False).elim) (Or.inl ⟨by rfl, (by intro w' hS; obtain ⟨s1, s2, s3, s4, s5, s6, s7, s8⟩ := hS; go_simp)⟩) hHeld ?_
          simp only [Act.put, List.getElem_toArray, List.getElem_cons_zero, List.getElem_cons_succ, List.setIfInBounds_toArray, List.set_cons_zero, List.set_cons_succ]
          refine wpAnyH_take (i := 6) (v := .string (kk i)) rfl (by kernel_rfl) (by kernel_rfl) (by kernel_rfl) (fun _ _ _ h => (h : False).elim) (Or.inl ⟨by rfl, (by intro w' hS; obtain ⟨s1, s2, s3, s4, s5, s6, s7, s8⟩ := hS; go_simp)⟩) hHeld ?_
          simp only [Act.put, List.getElem_toArray, List.getElem_cons_zero, List.getElem_cons_succ, List.setIfInBounds_toArray, List.set_cons_zero, List.set_cons_succ]
          refine wpAnyH_take (i := 7) (v := .pointer (some ⟨xb, 1, none⟩)) rfl (by kernel_rfl) (by kernel_rfl) (by kernel_rfl) (fun _ _ _ h => (h : False).elim) (Or.inl ⟨by rfl, (by intro w' hS; obtain ⟨s1, s2, s3, s4, s5, s6, s7, s8⟩ := hS; go_simp)⟩) hHeld ?_
          simp only [Act.put, List.getElem_toArray, List.getElem_cons_zero, List.getElem_cons_succ, List.setIfInBounds_toArray, List.set_cons_zero, List.set_cons_succ]
          refine wpAnyH_take (i := 8) (v := .int .i64 (nn i)) rfl (by kernel_rfl) (by kernel_rfl) (by kernel_rfl) (fun _ _ _ h => (h : False).elim) (Or.inl ⟨by rfl, (by intro w' hS; obtain ⟨s1, s2, s3, s4, s5, s6, s7, s8⟩ := hS; go_simp)⟩) hHeld ?_
          simp only [Act.put, List.getElem_toArray, List.getElem_cons_zero, List.getElem_cons_succ, List.setIfInBounds_toArray, List.set_cons_zero, List.set_cons_succ]
          refine wpAnyH_take (i := 9) (v := .pointer (some ⟨pg, 0, none⟩)) rfl (by kernel_rfl) (by kernel_rfl) (by kernel_rfl) (fun _ _ _ h => (h : False).elim) (Or.inl ⟨by rfl, (by intro w' hS; obtain ⟨s1, s2, s3, s4, s5, s6, s7, s8⟩ := hS; go_simp)⟩) hHeld ?_
          simp only [Act.put, List.getElem_toArray, List.getElem_cons_zero, List.getElem_cons_succ, List.setIfInBounds_toArray, List.set_cons_zero, List.set_cons_succ]
          refine wpAnyH_take (i := 10) (v := .pointer (some ⟨pg, 0, none⟩)) rfl (by kernel_rfl) (by kernel_rfl) (by kernel_rfl) (fun _ _ _ h => (h : False).elim) (Or.inl ⟨by rfl, (by intro w' hS; obtain ⟨s1, s2, s3, s4, s5, s6, s7, s8⟩ := hS; go_simp)⟩) hHeld ?_
          simp only [Act.put, List.getElem_toArray, List.getElem_cons_zero, List.getElem_cons_succ, List.setIfInBounds_toArray, List.set_cons_zero, List.set_cons_succ]
          refine wpAnyH_take (i := 11) (v := .pointer (some ⟨pg, 0, none⟩)) rfl (by kernel_rfl) (by kernel_rfl) (by kernel_rfl) (fun _ _ _ h => (h : False).elim) (Or.inl ⟨by rfl, (by intro w' hS; obtain ⟨s1, s2, s3, s4, s5, s6, s7, s8⟩ := hS; go_simp)⟩) hHeld ?_
          simp only [Act.put, List.getElem_toArray, List.getElem_cons_zero, List.getElem_cons_succ, List.setIfInBounds_toArray, List.set_cons_zero, List.set_cons_succ]
          refine wpAnyH_take (i := 12) (v := .pointer (some ⟨pg, 1, none⟩)) rfl (by kernel_rfl) (by kernel_rfl) (by kernel_rfl) (fun _ _ _ h => (h : False).elim) (Or.inl ⟨by rfl, (by intro w' hS; obtain ⟨s1, s2, s3, s4, s5, s6, s7, s8⟩ := hS; go_simp)⟩) hHeld ?_
          simp only [Act.put, List.getElem_toArray, List.getElem_cons_zero, List.getElem_cons_succ, List.setIfInBounds_toArray, List.set_cons_zero, List.set_cons_succ]
          refine wpAnyH_take (i := 13) (v := .pointer none) rfl (by kernel_rfl) (by kernel_rfl) (by kernel_rfl) (fun _ _ _ h => (h : False).elim) (Or.inl ⟨by rfl, (by intro w' hS; obtain ⟨s1, s2, s3, s4, s5, s6, s7, s8⟩ := hS; go_simp)⟩) hHeld ?_
          simp only [Act.put, List.getElem_toArray, List.getElem_cons_zero, List.getElem_cons_succ, List.setIfInBounds_toArray, List.set_cons_zero, List.set_cons_succ]
          refine wpAnyH_take (i := 14) (v := .pointer (some ⟨xb, 2, none⟩)) rfl (by kernel_rfl) (by kernel_rfl) (by kernel_rfl) (fun _ _ _ h => (h : False).elim) (Or.inl ⟨by rfl, (by intro w' hS; obtain ⟨s1, s2, s3, s4, s5, s6, s7, s8⟩ := hS; go_simp)⟩) hHeld ?_
          simp only [Act.put, List.getElem_toArray, List.getElem_cons_zero, List.getElem_cons_succ, List.setIfInBounds_toArray, List.set_cons_zero, List.set_cons_succ]
          refine wpAnyH_take (i := 15) (v := .agg #[.int .i64 3, .int .i64 (nn i), .string ⟨#[]⟩, .slice none 0 0, .slice none 0 0]) rfl (by kernel_rfl) (by kernel_rfl) (by kernel_rfl) (fun _ _ _ h => (h : False).elim) (Or.inl ⟨by rfl, (by intro w' hS; obtain ⟨s1, s2, s3, s4, s5, s6, s7, s8⟩ := hS; go_simp)⟩) hHeld ?_
          simp only [Act.put, List.getElem_toArray, List.getElem_cons_zero, List.getElem_cons_succ, List.setIfInBounds_toArray, List.set_cons_zero, List.set_cons_succ]
          refine wpAnyH_ready (rs := [4, 16]) (by kernel_rfl) (by simp) ?_
          refine AllReadyH.cons rfl (fun K hK => ?_) ?_
          · rw [if_pos (by rfl)]
            go_simp
            refine hK.out _ _ hS5.out (fun hHeld => ?_)
            clear hK K
            try simp only [Act.put, List.getElem_toArray, List.getElem_cons_zero, List.getElem_cons_succ, List.setIfInBounds_toArray, List.set_cons_zero, List.set_cons_succ]
            refine wpAnyH_ready (rs := [16]) (by kernel_rfl) (by simp) ?_
            refine AllReadyH.cons rfl (fun K hK => ?_) ?_
            · rw [if_pos (by rfl)]
              go_simp
              refine hap.out.mono ?_
              rintro e X6 ⟨rfl, hX6⟩
              have hX6 := hid_of (⟨hX6.os, hX6.tape, hX6.output, hX6.size, hX6.block⟩ : Below X5.heap.size X5 X6)
              obtain ⟨b7, hS6, fb⟩ := sp7 (hcA.out X6 hX6.out)
              obtain ⟨c7, hS7, fc⟩ := sp7 (hcB.out X6 hX6.out)
              replace hS6 := hid_of hS6
              replace hS7 := hid_of hS7
              have hL7 := hid_of (hcC.out X6 hX6.out)
              have z0 := hid_of hL7.out.row
              have hsrc := hid_of (hcD.out X6)
              have hb7 := hid_of (hcE.out X6 hX6.out)
              try simp only
              refine hK.out _ _ hS6.out (fun hHeld => ?_)
              clear hK K
              try simp only [Act.put, List.getElem_toArray, List.getElem_cons_zero, List.getElem_cons_succ, List.setIfInBounds_toArray, List.set_cons_zero, List.set_cons_succ]
              refine wpAnyH_take (i := 17) (v := .agg #[.string (kk i), .int .i64 (nn i), .int .i64 3, .int .i64 (nn i), .string ⟨#[]⟩, .slice none 0 0, .slice none 0 0]) rfl (by kernel_rfl) (by kernel_rfl) (by kernel_rfl) (fun _ _ _ h => (h : False).elim) (Or.inl ⟨by rfl, (by intro w' hS; obtain ⟨s1, s2, s3, s4, s5, s6, s7, s8⟩ := hS; go_simp)⟩) hHeld ?_
              simp only [Act.put, List.getElem_toArray, List.getElem_cons_zero, List.getElem_cons_succ, List.setIfInBounds_toArray, List.set_cons_zero, List.set_cons_succ]
              refine wpAnyH_ready (rs := [18]) (by kernel_rfl) (by simp) ?_
              refine AllReadyH.cons rfl (fun K hK => ?_) ?_
              · rw [if_pos (by rfl)]
                go_simp
                refine hK.out _ _ hS7.out (fun hHeld => ?_)
                clear hK K
                try simp only [Act.put, List.getElem_toArray, List.getElem_cons_zero, List.getElem_cons_succ, List.setIfInBounds_toArray, List.set_cons_zero, List.set_cons_succ]
                refine wpAnyH_ready (rs := [19]) (by kernel_rfl) (by simp) ?_
                refine AllReadyH.cons rfl (fun K hK => ?_) ?_
                · refine step_append_rw _ (by rfl) _ _ 27 (by rfl) 53 ri _ 7 104 Try.underlying27 hri hri1 hri2 hri3 (by rfl) W1.heap.size a st3.docs.length cc (flatD kk nn st3.docs) (by rfl) z0.out.len z0.out.le z0.out.mx z0.out.rd _ (by rfl) 1 (itCs (kk i) (nn i)) hsrc.out (fun _ => z0.out) (by decide) hnum.out.1 hnum.out.2 (Nat.le_trans hW1.out hb7.out.size) ?_
                  intro g2 o2 c2 W3 hA
                  obtain ⟨m7, hS3, fm⟩ := sp7 (hmid.out _ W3 g2 o2 c2 _ hb7.out hA)
                  replace hS3 := hid_of hS3
                  have hS4 := hid_of (hset.out W3 (.slice (some ⟨g2, o2, none⟩) (st3.docs.length + 1) c2) hS3.out)
                  have hV3 := hid_of (hL7.out.app hpw.out hA)
                  clear hA
                  refine hK.out _ _ hS3.out (fun hHeld => ?_)
                  clear hK K
                  try simp only [Act.put, List.getElem_toArray, List.getElem_cons_zero, List.getElem_cons_succ, List.setIfInBounds_toArray, List.set_cons_zero, List.set_cons_succ]
                  refine wpAnyH_take (i := 20) (v := .pointer (some ⟨pg, 0, none⟩)) rfl (by kernel_rfl) (by kernel_rfl) (by kernel_rfl) (fun _ _ _ h => (h : False).elim) (Or.inl ⟨by rfl, (by intro w' hS; obtain ⟨s1, s2, s3, s4, s5, s6, s7, s8⟩ := hS; go_simp)⟩) hHeld ?_
                  simp only [Act.put, List.getElem_toArray, List.getElem_cons_zero, List.getElem_cons_succ, List.setIfInBounds_toArray, List.set_cons_zero, List.set_cons_succ]
                  refine wpAnyH_take (i := 21) (v := .pointer (some ⟨pg, 7, none⟩)) rfl (by kernel_rfl) (by kernel_rfl) (by kernel_rfl) (fun _ _ _ h => (h : False).elim) (Or.inl ⟨by rfl, (by intro w' hS; obtain ⟨s1, s2, s3, s4, s5, s6, s7, s8⟩ := hS; go_simp)⟩) hHeld ?_
                  simp only [Act.put, List.getElem_toArray, List.getElem_cons_zero, List.getElem_cons_succ, List.setIfInBounds_toArray, List.set_cons_zero, List.set_cons_succ]
                  refine wpAnyH_ready (rs := [22]) (by kernel_rfl) (by simp) ?_
                  refine AllReadyH.cons rfl (fun K hK => ?_) ?_
                  · rw [if_pos (by rfl)]
                    go_simp
                    refine hK.out _ _ hS4.out (fun hHeld => ?_)
                    clear hK K
                    try simp only [Act.put, List.getElem_toArray, List.getElem_cons_zero, List.getElem_cons_succ, List.setIfInBounds_toArray, List.set_cons_zero, List.set_cons_succ]
                    refine wpAnyH_done (by kernel_rfl) (NoPanic.normal ?_) _
                    go_wp2_with fail
                    go_roundw
                    case rel => exact ⟨q + 1, _, _, by omega, by simp, by rw [hst4.out]; exact hV3.out⟩
                    case measure => simp [intOf]; omega
                  exact AllReadyH.nil
                exact AllReadyH.nil
              exact AllReadyH.nil
            exact AllReadyH.nil
          refine AllReadyH.cons rfl (fun K hK => ?_) ?_
          · rw [if_pos (by rfl)]
            go_simp
            refine hap.out.mono ?_
            rintro e X6 ⟨rfl, hX6⟩
            have hX6 := hid_of (⟨hX6.os, hX6.tape, hX6.output, hX6.size, hX6.block⟩ : Below X5.heap.size X5 X6)
            obtain ⟨b7, hS6, fb⟩ := sp7 (hcA.out X6 hX6.out)
            obtain ⟨c7, hS7, fc⟩ := sp7 (hcB.out X6 hX6.out)
            replace hS6 := hid_of hS6
            replace hS7 := hid_of hS7
            have hL7 := hid_of (hcC.out X6 hX6.out)
            have z0 := hid_of hL7.out.row
            have hsrc := hid_of (hcD.out X6)
            have hb7 := hid_of (hcE.out X6 hX6.out)
            try simp only
            refine hK.out _ _ hS6.out (fun hHeld => ?_)
            clear hK K
            try simp only [Act.put, List.getElem_toArray, List.getElem_cons_zero, List.getElem_cons_succ, List.setIfInBounds_toArray, List.set_cons_zero, List.set_cons_succ]
            refine wpAnyH_take (i := 17) (v := .agg #[.string (kk i), .int .i64 (nn i), .int .i64 3, .int .i64 (nn i), .string ⟨#[]⟩, .slice none 0 0, .slice none 0 0]) rfl (by kernel_rfl) (by kernel_rfl) (by kernel_rfl) (fun _ _ _ h => (h : False).elim) (Or.inl ⟨by rfl, (by intro w' hS; obtain ⟨s1, s2, s3, s4, s5, s6, s7, s8⟩ := hS; go_simp)⟩) hHeld ?_
            simp only [Act.put, List.getElem_toArray, List.getElem_cons_zero, List.getElem_cons_succ, List.setIfInBounds_toArray, List.set_cons_zero, List.set_cons_succ]
            refine wpAnyH_ready (rs := [4, 18]) (by kernel_rfl) (by simp) ?_
            refine AllReadyH.cons rfl (fun K hK => ?_) ?_
            · rw [if_pos (by rfl)]
              go_simp
              refine hK.out _ _ hS6.out (fun hHeld => ?_)
              clear hK K
              try simp only [Act.put, List.getElem_toArray, List.getElem_cons_zero, List.getElem_cons_succ, List.setIfInBounds_toArray, List.set_cons_zero, List.set_cons_succ]
              refine wpAnyH_ready (rs := [18]) (by kernel_rfl) (by simp) ?_
              refine AllReadyH.cons rfl (fun K hK => ?_) ?_
              · rw [if_pos (by rfl)]
                go_simp
                refine hK.out _ _ hS7.out (fun hHeld => ?_)
                clear hK K
                try simp only [Act.put, List.getElem_toArray, List.getElem_cons_zero, List.getElem_cons_succ, List.setIfInBounds_toArray, List.set_cons_zero, List.set_cons_succ]
                refine wpAnyH_ready (rs := [19]) (by kernel_rfl) (by simp) ?_
                refine AllReadyH.cons rfl (fun K hK => ?_) ?_
                · refine step_append_rw _ (by rfl) _ _ 27 (by rfl) 53 ri _ 7 104 Try.underlying27 hri hri1 hri2 hri3 (by rfl) W1.heap.size a st3.docs.length cc (flatD kk nn st3.docs) (by rfl) z0.out.len z0.out.le z0.out.mx z0.out.rd _ (by rfl) 1 (itCs (kk i) (nn i)) hsrc.out (fun _ => z0.out) (by decide) hnum.out.1 hnum.out.2 (Nat.le_trans hW1.out hb7.out.size) ?_
                  intro g2 o2 c2 W3 hA
                  obtain ⟨m7, hS3, fm⟩ := sp7 (hmid.out _ W3 g2 o2 c2 _ hb7.out hA)
                  replace hS3 := hid_of hS3
                  have hS4 := hid_of (hset.out W3 (.slice (some ⟨g2, o2, none⟩) (st3.docs.length + 1) c2) hS3.out)
                  have hV3 := hid_of (hL7.out.app hpw.out hA)
                  clear hA
                  refine hK.out _ _ hS3.out (fun hHeld => ?_)
                  clear hK K
                  try simp only [Act.put, List.getElem_toArray, List.getElem_cons_zero, List.getElem_cons_succ, List.setIfInBounds_toArray, List.set_cons_zero, List.set_cons_succ]
                  refine wpAnyH_take (i := 20) (v := .pointer (some ⟨pg, 0, none⟩)) rfl (by kernel_rfl) (by kernel_rfl) (by kernel_rfl) (fun _ _ _ h => (h : False).elim) (Or.inl ⟨by rfl, (by intro w' hS; obtain ⟨s1, s2, s3, s4, s5, s6, s7, s8⟩ := hS; go_simp)⟩) hHeld ?_
                  simp only [Act.put, List.getElem_toArray, List.getElem_cons_zero, List.getElem_cons_succ, List.setIfInBounds_toArray, List.set_cons_zero, List.set_cons_succ]
                  refine wpAnyH_take (i := 21) (v := .pointer (some ⟨pg, 7, none⟩)) rfl (by kernel_rfl) (by kernel_rfl) (by kernel_rfl) (fun _ _ _ h => (h : False).elim) (Or.inl ⟨by rfl, (by intro w' hS; obtain ⟨s1, s2, s3, s4, s5, s6, s7, s8⟩ := hS; go_simp)⟩) hHeld ?_
                  simp only [Act.put, List.getElem_toArray, List.getElem_cons_zero, List.getElem_cons_succ, List.setIfInBounds_toArray, List.set_cons_zero, List.set_cons_succ]
                  refine wpAnyH_ready (rs := [22]) (by kernel_rfl) (by simp) ?_
                  refine AllReadyH.cons rfl (fun K hK => ?_) ?_
                  · rw [if_pos (by rfl)]
                    go_simp
                    refine hK.out _ _ hS4.out (fun hHeld => ?_)
                    clear hK K
                    try simp only [Act.put, List.getElem_toArray, List.getElem_cons_zero, List.getElem_cons_succ, List.setIfInBounds_toArray, List.set_cons_zero, List.set_cons_succ]
                    refine wpAnyH_done (by kernel_rfl) (NoPanic.normal ?_) _
                    go_wp2_with fail
                    go_roundw
                    case rel => exact ⟨q + 1, _, _, by omega, by simp, by rw [hst4.out]; exact hV3.out⟩
                    case measure => simp [intOf]; omega
                  exact AllReadyH.nil
                exact AllReadyH.nil
              exact AllReadyH.nil
            refine AllReadyH.cons rfl (fun K hK => ?_) ?_
            · rw [if_pos (by rfl)]
              go_simp
              refine hK.out _ _ hS7.out (fun hHeld => ?_)
              clear hK K
              try simp only [Act.put, List.getElem_toArray, List.getElem_cons_zero, List.getElem_cons_succ, List.setIfInBounds_toArray, List.set_cons_zero, List.set_cons_succ]
              refine wpAnyH_ready (rs := [4]) (by kernel_rfl) (by simp) ?_
              refine AllReadyH.cons rfl (fun K hK => ?_) ?_
              · rw [if_pos (by rfl)]
                go_simp
                refine hK.out _ _ hS7.out (fun hHeld => ?_)
                clear hK K
                try simp only [Act.put, List.getElem_toArray, List.getElem_cons_zero, List.getElem_cons_succ, List.setIfInBounds_toArray, List.set_cons_zero, List.set_cons_succ]
                refine wpAnyH_ready (rs := [19]) (by kernel_rfl) (by simp) ?_
                refine AllReadyH.cons rfl (fun K hK => ?_) ?_
                · refine step_append_rw _ (by rfl) _ _ 27 (by rfl) 53 ri _ 7 104 Try.underlying27 hri hri1 hri2 hri3 (by rfl) W1.heap.size a st3.docs.length cc (flatD kk nn st3.docs) (by rfl) z0.out.len z0.out.le z0.out.mx z0.out.rd _ (by rfl) 1 (itCs (kk i) (nn i)) hsrc.out (fun _ => z0.out) (by decide) hnum.out.1 hnum.out.2 (Nat.le_trans hW1.out hb7.out.size) ?_
                  intro g2 o2 c2 W3 hA
                  obtain ⟨m7, hS3, fm⟩ := sp7 (hmid.out _ W3 g2 o2 c2 _ hb7.out hA)
                  replace hS3 := hid_of hS3
                  have hS4 := hid_of (hset.out W3 (.slice (some ⟨g2, o2, none⟩) (st3.docs.length + 1) c2) hS3.out)
                  have hV3 := hid_of (hL7.out.app hpw.out hA)
                  clear hA
                  refine hK.out _ _ hS3.out (fun hHeld => ?_)
                  clear hK K
                  try simp only [Act.put, List.getElem_toArray, List.getElem_cons_zero, List.getElem_cons_succ, List.setIfInBounds_toArray, List.set_cons_zero, List.set_cons_succ]
                  refine wpAnyH_take (i := 20) (v := .pointer (some ⟨pg, 0, none⟩)) rfl (by kernel_rfl) (by kernel_rfl) (by kernel_rfl) (fun _ _ _ h => (h : False).elim) (Or.inl ⟨by rfl, (by intro w' hS; obtain ⟨s1, s2, s3, s4, s5, s6, s7, s8⟩ := hS; go_simp)⟩) hHeld ?_
                  simp only [Act.put, List.getElem_toArray, List.getElem_cons_zero, List.getElem_cons_succ, List.setIfInBounds_toArray, List.set_cons_zero, List.set_cons_succ]
                  refine wpAnyH_take (i := 21) (v := .pointer (some ⟨pg, 7, none⟩)) rfl (by kernel_rfl) (by kernel_rfl) (by kernel_rfl) (fun _ _ _ h => (h : False).elim) (Or.inl ⟨by rfl, (by intro w' hS; obtain ⟨s1, s2, s3, s4, s5, s6, s7, s8⟩ := hS; go_simp)⟩) hHeld ?_
                  simp only [Act.put, List.getElem_toArray, List.getElem_cons_zero, List.getElem_cons_succ, List.setIfInBounds_toArray, List.set_cons_zero, List.set_cons_succ]
                  refine wpAnyH_ready (rs := [22]) (by kernel_rfl) (by simp) ?_
                  refine AllReadyH.cons rfl (fun K hK => ?_) ?_
                  · rw [if_pos (by rfl)]
                    go_simp
                    refine hK.out _ _ hS4.out (fun hHeld => ?_)
                    clear hK K
                    try simp only [Act.put, List.getElem_toArray, List.getElem_cons_zero, List.getElem_cons_succ, List.setIfInBounds_toArray, List.set_cons_zero, List.set_cons_succ]
                    refine wpAnyH_done (by kernel_rfl) (NoPanic.normal ?_) _
                    go_wp2_with fail
                    go_roundw
                    case rel => exact ⟨q + 1, _, _, by omega, by simp, by rw [hst4.out]; exact hV3.out⟩
                    case measure => simp [intOf]; omega
                  exact AllReadyH.nil
                exact AllReadyH.nil
              exact AllReadyH.nil
            exact AllReadyH.nil
          exact AllReadyH.nil
    · obtain rfl : q = 3 := by omega
      go_wp2_with fail
      simp only [Exit.noGoto]
      go_end0
      exact ⟨rfl, W1, a, cc, hB0.out, hL.out⟩
end Go.Proofs.Yteojoaceecncnaa
