import Derived.Test.YtloeongljbgmnaaEM
/-! epoch: sift where nothing holds. -/
namespace Go.Proofs.Ytloeongljbgmnaa
open Go Go.RowKit
theorem ref_info : ∃ ri, Try.prog.info? 82 = some ri ∧ ri.zero = some (.agg #[.int .i64 0, .int .i64 0]) ∧ ri.size = 2 ∧ ri.bytes = 16 := by
  have : (Try.prog.info? 82).map (fun i => (i.zero, i.size, i.bytes)) = some (some (.agg #[.int .i64 0, .int .i64 0]), 2, 16) := by kernel_rfl
  cases hq : Try.prog.info? 82 with
  | none => rw [hq] at this; cases this
  | some ri => rw [hq] at this; simp at this; exact ⟨ri, rfl, this.1, this.2.1, this.2.2⟩
set_option maxRecDepth 100000 in
theorem index_nil (g c : Nat) (f : Value) (w : World) : Calls Try.prog 61 #[.slice (some ⟨g, 0, none⟩) 0 c, f] w fun e w' => e = .returned (.int .i64 (-1)) ∧ w' = w := by
  go_enter Try.func61, Try.ntmps61
  go_wp2_with fail
  refine wp_loop_rounds 1 ?_
  rw [rounds_succ]
  go_wp2_with fail
  go_ret
  exact ⟨rfl, rfl⟩
set_option maxRecDepth 100000 in
theorem contains_nil (g c : Nat) (f : Value) (w : World) : Calls Try.prog 76 #[.slice (some ⟨g, 0, none⟩) 0 c, f] w fun e w' => e = .returned (.bool false) ∧ w' = w := by
  have hi := hid_of (index_nil g c f w)
  go_enter Try.func76, Try.ntmps76
  go_wp2_with fail
  refine hi.out.mono ?_
  rintro e W2 ⟨rfl, hz⟩
  obtain rfl : w = W2 := hz.symm
  clear hi hz
  go_wp2_with fail
  go_ret
  exact ⟨rfl, rfl⟩
set_option maxRecDepth 100000 in
theorem isheld_nil (g c : Nat) (a : Option Addr) (n m : Nat) (t : Int) (w : World) : Calls Try.prog 62 #[.agg #[.slice a n m, .int .i64 t], .slice (some ⟨g, 0, none⟩) 0 c] w fun e w' => e = .returned (.bool false) ∧ Below w.heap.size w w' := by
  have hB : Hid (Below w.heap.size w (w.alloc (.cells #[.slice a n m, .int .i64 t] 61))) := (Below.refl _ w).alloc (Nat.le_refl _) _
  have hi := hid_of (fun f => contains_nil g c f (w.alloc (.cells #[.slice a n m, .int .i64 t] 61)))
  have hmf : ∀ (fn : Fn) (first cap : Array Value) (w : World), (Instr.makeFunc fn first cap).run Try.prog w = .ok (.func fn first cap) w := fun _ _ _ _ => rfl
  go_enter Try.func62, Try.ntmps62
  go_wp2_with fail
  refine (hi.out _).mono ?_
  rintro e W2 ⟨rfl, rfl⟩
  clear hi
  go_wp2_with fail
  go_ret
  exact ⟨rfl, hB.out⟩
set_option maxRecDepth 100000 in
set_option maxHeartbeats 4000000 in
theorem sift_free (g gr : Nat) (la : Option Addr) (num gen t : Int) (w : World) (h1 : One w la gr num gen t) : Calls Try.prog 48 #[.agg #[.int .i64 1, .slice la 1 1], .slice (some ⟨g, 0, none⟩) 0 2] w fun e w' => Below w.heap.size w w' ∧ ∃ a g1 cc, e = .returned (.tuple #[.agg #[.int .i64 0, .slice a 0 1], .slice (some ⟨g1, 0, none⟩) 1 cc]) ∧ w.heap.size ≤ g1 ∧ w'.cell? ⟨g1, 0, none⟩ = some (.int .i64 num) ∧ w'.cell? ⟨g1, 1, none⟩ = some (.int .i64 gen) := by
  obtain ⟨gk, gb, rfl, e1, e2, e3⟩ := h1.at_
  obtain ⟨ri, hri, hri1, hri2, hri3⟩ := ref_info
  obtain ⟨W2, hW2⟩ : ∃ W2, Hid ((w.alloc (.cells #[.int .i64 1, .slice (some ⟨gk, 0, none⟩) 1 1] 49)).alloc (.cells #[.int .i64 0, .slice none 0 0] 49) = W2) := ⟨_, rfl⟩
  have x0 := heap_alloc2_old w (.cells #[.int .i64 1, .slice (some ⟨gk, 0, none⟩) 1 1] 49) (.cells #[.int .i64 0, .slice none 0 0] 49)
  have x1 := heap_alloc2_new w (.cells #[.int .i64 1, .slice (some ⟨gk, 0, none⟩) 1 1] 49) (.cells #[.int .i64 0, .slice none 0 0] 49)
  have hB2 : Below w.heap.size w W2 := by rw [← hW2.out]; exact ((Below.refl _ w).alloc (Nat.le_refl _) _).alloc (by simp) _
  have hs2 : W2.heap.size = w.heap.size + 2 := by rw [← hW2.out]; simp
  rw [hW2.out] at x0 x1
  obtain ⟨f0, f1⟩ := cells2 x0
  obtain ⟨W3, hW3⟩ : ∃ W3, Hid (W2.alloc (.cells #[.slice none 0 0, .int .i64 0] 110) = W3) := ⟨_, rfl⟩
  have hB23 : Below W2.heap.size W2 W3 := by rw [← hW3.out]; exact (Below.refl _ W2).alloc (Nat.le_refl _) _
  have z2 := heap_alloc_new W2 (.cells #[.slice none 0 0, .int .i64 0] 110)
  rw [hW3.out] at z2
  have z0 := (hB23.block _ (Array.getElem?_eq_some_iff.1 x0).1).trans x0
  have z1 := (hB23.block _ (Array.getElem?_eq_some_iff.1 x1).1).trans x1
  have hB : Below w.heap.size w W3 := hB2.trans (hB23.mono hB2.size)
  replace hs2 := hid_of hs2
  obtain ⟨a0, a1⟩ := cells2 z0
  have ek := (hB.block _ (Array.getElem?_eq_some_iff.1 e1).1).trans e1
  obtain ⟨b0, b1⟩ := cells2 ek
  obtain ⟨W4, hW4⟩ : ∃ W4, Hid (W3.alloc (.cells #[.slice (some ⟨gb, 0, none⟩) 1 1, .int .i64 t] 110) = W4) := ⟨_, rfl⟩
  have hB4 : Below W3.heap.size W3 W4 := by rw [← hW4.out]; exact (Below.refl _ W3).alloc (Nat.le_refl _) _
  have k4 := heap_alloc_new W3 (.cells #[.slice (some ⟨gb, 0, none⟩) 1 1, .int .i64 t] 110)
  rw [hW4.out] at k4
  obtain ⟨c0, c1⟩ := cells2 k4
  have hm := mk_stay
  have y0 := (hB4.block _ (Array.getElem?_eq_some_iff.1 z0).1).trans z0
  have y1 := (hB4.block _ (Array.getElem?_eq_some_iff.1 z1).1).trans z1
  have hb4 : Below w.heap.size w W4 := hB.trans (hB4.mono hB.size)
  have eb := (hb4.block _ (Array.getElem?_eq_some_iff.1 e2).1).trans e2
  have er := (hb4.block _ (Array.getElem?_eq_some_iff.1 e3).1).trans e3
  obtain ⟨d0, d1⟩ := cells2 eb
  obtain ⟨W5, hW5⟩ : ∃ W5, Hid (W4.alloc (.cells #[.slice (some ⟨gr, 0, none⟩) 1 1, .int .i64 t] 61) = W5) := ⟨_, rfl⟩
  have hB5 : Below W4.heap.size W4 W5 := by rw [← hW5.out]; exact (Below.refl _ W4).alloc (Nat.le_refl _) _
  have k5 := heap_alloc_new W4 (.cells #[.slice (some ⟨gr, 0, none⟩) 1 1, .int .i64 t] 61)
  rw [hW5.out] at k5
  obtain ⟨m0, m1⟩ := cells2 k5
  have hh := hid_of (isheld_nil g 2 (some ⟨gr, 0, none⟩) 1 1 t W5)
  have y0 := hid_of ((hB5.block _ (Array.getElem?_eq_some_iff.1 y0).1).trans y0)
  have y1 := hid_of ((hB5.block _ (Array.getElem?_eq_some_iff.1 y1).1).trans y1)
  have er := hid_of ((hB5.block _ (Array.getElem?_eq_some_iff.1 er).1).trans er)
  have hb5 : Hid (Below w.heap.size w W5) := hb4.trans (hB5.mono hb4.size)
  replace k5 := hid_of k5
  clear x0 x1 hB2 hB23 e1 e2 e3 ek h1 z0 z1 z2 k4 hB hB4 eb hb4 hB5
  go_enter Try.func48, Try.ntmps48
  go_upto_region 1 with (rw [hW2.out])
  go_step3
  go_wp2_with (rw [hW3.out])
  go_step3
  go_wp2_with fail
  refine wp_loop_rounds 2 ?_
  rw [rounds_succ]
  go_wp2_with (rw [hW4.out])
  refine wp_loop_rounds 1 ?_
  rw [rounds_succ]
  go_wp2_with fail
  refine wp_loop_rounds 2 ?_
  rw [rounds_succ]
  go_wp2_with (rw [hW5.out])
  refine hh.out.mono ?_
  rintro e W6 ⟨rfl, hB6⟩
  have y0 := hid_of ((hB6.block _ (Array.getElem?_eq_some_iff.1 y0.out).1).trans y0.out)
  have y1 := hid_of ((hB6.block _ (Array.getElem?_eq_some_iff.1 y1.out).1).trans y1.out)
  have er := hid_of ((hB6.block _ (Array.getElem?_eq_some_iff.1 er.out).1).trans er.out)
  obtain ⟨m0, m1⟩ := cells2 ((hB6.block _ (Array.getElem?_eq_some_iff.1 k5.out).1).trans k5.out)
  have hb6 : Hid (Below w.heap.size w W6) := hb5.out.trans (hB6.mono hb5.out.size)
  have hm1 : Hid (0 + 1 ≤ maxLen) := by unfold Hid maxLen; omega
  have hone : Hid (∀ u ∈ [Value.int .i64 num, .int .i64 gen], u.oneCell' = true) := by unfold Hid; simp [Value.oneCell']
  have hbs : Hid (w.heap.size ≤ W6.heap.size) := hb6.out.size
  clear hh k5 hb5 hB6 hW5 hW4 hW3 hW2 a0 a1 b0 b1 c0 c1 f0 f1 d0 d1
  go_wp2_with (at_builtin; refine wpList_append_lies _ rfl _ _ 26 rfl w.heap.size 82 ri _ 2 16 refs_u hri hri1 hri2 hri3 rfl (by decide) _ 0 [] rfl (World.ownsRow_nil _ _ _ _) _ 1 1 [.int .i64 num, .int .i64 gen] rfl rfl (World.news_of_block er.out) hone.out (by decide) hm1.out (by decide) hbs.out _ rfl ?_; intro g1 cc W7 r1 r2 r3 r4; replace r1 := hid_of r1; replace r2 := hid_of r2; clear r3 r4)
  have r2' : W6.grownBy W7 none := r2.out
  have hF7 : Fr (fun _ => False) w W7 := (Fr.of_below hb6.out).grown r2' (fun g e => by cases e)
  have s0 : W7.heap[w.heap.size]? = some (.cells #[.int .i64 1, .slice (some ⟨gk, 0, none⟩) 1 1] 49 (0, 0)) := (r2'.block _ (Array.getElem?_eq_some_iff.1 y0.out).1 (fun e => by cases e)).trans y0.out
  have s1 : W7.heap[w.heap.size + 1]? = some (.cells #[.int .i64 0, .slice none 0 0] 49 (0, 0)) := (r2'.block _ (Array.getElem?_eq_some_iff.1 y1.out).1 (fun e => by cases e)).trans y1.out
  have q0 := r1.out.cellAt 0 (by omega)
  have q1 := r1.out.cellAt 1 (by omega)
  have hge : Hid (w.heap.size ≤ g1) := by
    obtain ⟨-, hx⟩ := r1.out
    rcases hx with ⟨hv, -⟩ | ⟨g', cap', cur, hv, hg, -⟩
    · cases hv
    · cases hv
      exact hg
  have hne : w.heap.size + 1 ≠ g1 := by
    obtain ⟨-, hx⟩ := r1.out
    rcases hx with ⟨hv, -⟩ | ⟨g', cap', cur, hv, hg, hh, -⟩
    · cases hv
    · cases hv
      exact ne_of_types s1 hh (by decide)
  obtain ⟨t0, t1⟩ := cells2 s0
  have kk := setRow_heap W7 (w.heap.size + 1) _ #[.int .i64 0, .slice (some ⟨W2.heap.size, 0, none⟩) 0 1] _ _ s1
  obtain ⟨u0, u1⟩ := cells2 kk
  have hfin : Hid (Below w.heap.size w (W7.setRow (w.heap.size + 1) #[.int .i64 0, .slice (some ⟨W2.heap.size, 0, none⟩) 0 1]) ∧ (W7.setRow (w.heap.size + 1) #[.int .i64 0, .slice (some ⟨W2.heap.size, 0, none⟩) 0 1]).cell? ⟨g1, 0, none⟩ = some (.int .i64 num) ∧ (W7.setRow (w.heap.size + 1) #[.int .i64 0, .slice (some ⟨W2.heap.size, 0, none⟩) 0 1]).cell? ⟨g1, 1, none⟩ = some (.int .i64 gen)) :=
    ⟨below_setRow' (hF7.below (Nat.le_refl _) (fun _ h => h.elim)) (by omega) _, (World.cell?_of_block (setRow_other _ _ _ _ hne.symm)).trans q0, (World.cell?_of_block (setRow_other _ _ _ _ hne.symm)).trans q1⟩
  clear r1 r2 r2' hF7 s0 kk y0 y1 er hb6 hne q0 q1 m0 m1
  rw [rounds_succ]
  go_wp2_with fail
  rw [rounds_succ]
  go_wp2_with (refine wpList_store_row rfl 49 _ _ rfl (w.heap.size + 1) _ rfl rfl _ _ s1 list_i rfl (ls_one _ _ _ _) ?_)
  go_wp2_with fail
  rw [Exit.noGoto_ret]
  exact bodyPost_ret (v := .tuple #[.agg #[.int .i64 0, .slice (some ⟨W2.heap.size, 0, none⟩) 0 1], .slice (some ⟨g1, 0, none⟩) 1 cc]) (by simp [results, Try.results48, go_sem, u0, u1]) rfl ⟨hfin.out.1, _, _, _, rfl, hge.out, hfin.out.2⟩
end Go.Proofs.Ytloeongljbgmnaa
