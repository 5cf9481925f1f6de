import Derived.Test.YtdghkmgkmfnjjaaGreatDoorCL
import Derived.Deep.AppendLies
import Derived.Deep.RegionHeld3
import Derived.OrdersHeld
/-! What a collection is. -/
namespace Go.Proofs.YtdghkmgkmfnjjaaGreatDoor
open Go Go.RowKit Go.Maps

abbrev collC (cnt : Int) (sp : Value) : Array Value := #[.string nameC, .int .i64 cnt, .int .i64 2, .int .i64 0, .int .i64 0, .string ⟨#[]⟩, .slice none 0 0, .slice none 0 0, .int .i64 0, .int .i64 0, sp]
theorem AS : (Tryz.prog.info? 27).map (fun i => (i.zero, i.size, i.bytes)) = some (some (.agg #[.string ⟨#[]⟩, .string ⟨#[]⟩, .bool false]), 3, 40) := by kernel_rfl
theorem cells_at {w : World} {b : Nat} {cs : Array Value} {t : TypeId} (h : w.heap[b]? = some (.cells cs t (0, 0))) (j : Nat) : w.cell? ⟨b, j, none⟩ = cs[j]? ∧ w.frozen? ⟨b, j, none⟩ = false := by
  simp [World.cell?, World.frozen?, h]
theorem set_ten {w : World} {b : Nat} {c0 c1 c2 c3 c4 c5 c6 c7 c8 c9 c10 : Value} {t : TypeId} (h : w.heap[b]? = some (.cells #[c0, c1, c2, c3, c4, c5, c6, c7, c8, c9, c10] t (0, 0))) (v : Value) : (w.setCell ⟨b, 10, none⟩ v).heap[b]? = some (.cells #[c0, c1, c2, c3, c4, c5, c6, c7, c8, c9, v] t (0, 0)) := by
  simp [World.setCell, Array.getElem?_modify, h]
theorem put11 {W0 W : World} {lo b : Nat} {o0 o1 o2 o3 o4 o5 o6 o7 o8 o9 o10 v0 v1 v2 v3 v4 v5 v6 v7 v8 v9 v10 : Value} {t : TypeId} (h : W.heap[b]? = some (.cells #[o0, o1, o2, o3, o4, o5, o6, o7, o8, o9, o10] t (0, 0))) (hB : Below lo W0 W) (hb : lo ≤ b) :
    (((((((((((W.setCell ⟨b, 0, none⟩ v0).setCell ⟨b, 1, none⟩ v1).setCell ⟨b, 2, none⟩ v2).setCell ⟨b, 3, none⟩ v3).setCell ⟨b, 4, none⟩ v4).setCell ⟨b, 5, none⟩ v5).setCell ⟨b, 6, none⟩ v6).setCell ⟨b, 7, none⟩ v7).setCell ⟨b, 8, none⟩ v8).setCell ⟨b, 9, none⟩ v9).setCell ⟨b, 10, none⟩ v10).heap[b]? = some (.cells #[v0, v1, v2, v3, v4, v5, v6, v7, v8, v9, v10] t (0, 0)) ∧ Below lo W0 (((((((((((W.setCell ⟨b, 0, none⟩ v0).setCell ⟨b, 1, none⟩ v1).setCell ⟨b, 2, none⟩ v2).setCell ⟨b, 3, none⟩ v3).setCell ⟨b, 4, none⟩ v4).setCell ⟨b, 5, none⟩ v5).setCell ⟨b, 6, none⟩ v6).setCell ⟨b, 7, none⟩ v7).setCell ⟨b, 8, none⟩ v8).setCell ⟨b, 9, none⟩ v9).setCell ⟨b, 10, none⟩ v10) := by
  refine ⟨by simp [World.setCell, Array.getElem?_modify, h], ?_⟩
  iterate 11 refine Below.setCell ?_ hb _
  exact hB
set_option maxHeartbeats 4000000 in
set_option maxRecDepth 100000 in
theorem told_c (nk yb : Nat) (w : World) (hk : Coll1 w nk 2 yb) (hX : IxTwo w yb) :
    Calls Tryz.prog 19 #[.pointer (some ⟨nk, 0, none⟩)] w fun e w' => ∃ sp c, e = .returned (.agg (collC 2 (.slice sp 1 c))) ∧ Below w.heap.size w w' := by
  obtain ⟨i5, hi5, hz0, hz1, hz2⟩ := info_parts AS
  obtain ⟨g, c, hK, hc0, -⟩ := hk
  obtain ⟨lo, bp, cp, e1, e2, g', c', kv', hI, -⟩ := hX
  have z := fun o => (hK.keep ((Below.refl _ w).alloc (Nat.le_refl _) o)).at
  have z0 := fun o => z o 0; have z1 := fun o => z o 1; have z2 := fun o => z o 2; have z3 := fun o => z o 3; have z4 := fun o => z o 4; have z5 := fun o => z o 5; have z6 := fun o => z o 6; have z7 := fun o => z o 7; have z8 := fun o => z o 8; have z9 := fun o => z o 9; have z10 := fun o => z o 10; have z12 := fun o => z o 12
  simp only [List.getElem?_toArray, List.getElem?_cons_zero, List.getElem?_cons_succ] at z0 z1 z2 z3 z4 z5 z6 z7 z8 z9 z10 z12
  have y12 := fun o o' => cell_alloc' (z12 o) o'
  clear z
  have hB2 := ((Below.refl _ w).alloc (Nat.le_refl _) (.cells #[.string ⟨#[]⟩, .int .i64 0, .int .i64 0, .int .i64 0, .int .i64 0, .string ⟨#[]⟩, .slice none 0 0, .slice none 0 0, .int .i64 0, .int .i64 0, .slice none 0 0] 39)).alloc (by simp) (.cells (collC 2 (.slice none 0 0)) 39)
  have n1 := new1 w (.cells #[.string ⟨#[]⟩, .int .i64 0, .int .i64 0, .int .i64 0, .int .i64 0, .string ⟨#[]⟩, .slice none 0 0, .slice none 0 0, .int .i64 0, .int .i64 0, .slice none 0 0] 39) (.cells (collC 2 (.slice none 0 0)) 39)
  have n2 := new2 w (.cells #[.string ⟨#[]⟩, .int .i64 0, .int .i64 0, .int .i64 0, .int .i64 0, .string ⟨#[]⟩, .slice none 0 0, .slice none 0 0, .int .i64 0, .int .i64 0, .slice none 0 0] 39) (.cells (collC 2 (.slice none 0 0)) 39)
  unfold collC at hB2 n1 n2 ⊢
  go_enter Tryz.func19, Tryz.ntmps19
  go_wp2_with fail
  generalize (w.alloc (.cells #[.string ⟨#[]⟩, .int .i64 0, .int .i64 0, .int .i64 0, .int .i64 0, .string ⟨#[]⟩, .slice none 0 0, .slice none 0 0, .int .i64 0, .int .i64 0, .slice none 0 0] 39)).alloc (.cells #[.string nameC, .int .i64 2, .int .i64 2, .int .i64 0, .int .i64 0, .string ⟨#[]⟩, .slice none 0 0, .slice none 0 0, .int .i64 0, .int .i64 0, .slice none 0 0] 39) = W2 at hB2 n1 n2 ⊢
  have hc2 := stay hB2 hc0
  have hsp := hid_of (spec_any yb _ _ _ _ _ _ W2.drew (hI.keep (below_drew hB2)))
  obtain ⟨q10, qf⟩ := cells_at n2 10
  simp only [List.getElem?_toArray, List.getElem?_cons_zero, List.getElem?_cons_succ] at q10
  clear z0 z1 z2 z3 z4 z5 z6 z7 z8 z9 z10 z12 y12 hc0 hK hI
  replace n1 := hid_of n1
  replace n2 := hid_of n2
  replace hB2 := hid_of hB2
  obtain ⟨k1, hk1⟩ : ∃ k, Hid (k = w.heap.size + 1) := ⟨_, rfl⟩
  rw [← hk1.out] at q10 qf n2 ⊢
  refine wp_loop_rounds 2 ?_
  rw [rounds_succ]
  go_wp2_with fail
  have q10d : W2.drew.cell? ⟨k1, 10, none⟩ = some (.slice none 0 0) := q10
  have qfd : W2.drew.frozen? ⟨k1, 10, none⟩ = false := qf
  clear q10 qf
  refine wp_region_noPanic ?_
  refine wp_region_held_drew (S := fun _ => True) (by kernel_rfl) trivial (fun hHeld => ?_)
  refine wpAnyH_take (i := 0) (v := .pointer (some ⟨k1, 10, none⟩)) rfl (by kernel_rfl) (by kernel_rfl) (by kernel_rfl) (fun _ _ _ h => (h : False).elim) (Or.inl ⟨by rfl, (by intro w' hS; go_simp)⟩) hHeld ?_
  simp only [Act.put, List.getElem_toArray, List.getElem_cons_zero, List.setIfInBounds_toArray, List.set_cons_zero, List.set_cons_succ]
  refine wpAnyH_take (i := 2) (v := .pointer (some ⟨yb, 0, none⟩)) rfl (by kernel_rfl) (by kernel_rfl) (by kernel_rfl) (fun _ _ _ h => (h : False).elim) (Or.inl ⟨by rfl, (by intro w' hS; go_simp)⟩) hHeld ?_
  simp only [Act.put, List.getElem_toArray, List.getElem_cons_zero, List.getElem_cons_succ, List.setIfInBounds_toArray, List.set_cons_zero, List.set_cons_succ]
  refine wpAnyH_ready (rs := [1, 3]) (by kernel_rfl) (by simp) ?_
  refine AllReadyH.cons rfl (fun K hK => ?_) ?_
  · rw [if_pos (by rfl)]
    go_simp
    refine hK.out _ _ trivial (fun hHeld => ?_)
    clear hK K
    try simp only [Act.put, List.getElem_toArray, List.getElem_cons_zero, List.getElem_cons_succ, List.setIfInBounds_toArray, List.set_cons_zero, List.set_cons_succ]
    refine wpAnyH_ready (rs := [3]) (by kernel_rfl) (by simp) ?_
    refine AllReadyH.cons rfl (fun K hK => ?_) ?_
    · rw [if_pos (by rfl)]
      go_simp
      refine hsp.out.mono ?_
      rintro e X3 ⟨rfl, hb3⟩
      have p10 : X3.cell? ⟨k1, 10, none⟩ = some (.slice none 0 0) := stay hb3 q10d
      have p10a := fun o => cell_alloc' p10 o
      replace hb3 := hid_of hb3
      try simp only
      refine hK.out _ _ trivial (fun hHeld => ?_)
      clear hK K
      try simp only [Act.put, List.getElem_toArray, List.getElem_cons_zero, List.getElem_cons_succ, List.setIfInBounds_toArray, List.set_cons_zero, List.set_cons_succ]
      refine wpAnyH_ready (rs := [4]) (by kernel_rfl) (by simp) ?_
      refine AllReadyH.cons rfl (fun K hK => ?_) ?_
      · rw [if_pos (by rfl)]
        go_simp
        refine hK.out _ _ trivial (fun hHeld => ?_)
        clear hK K
        try simp only [Act.put, List.getElem_toArray, List.getElem_cons_zero, List.getElem_cons_succ, List.setIfInBounds_toArray, List.set_cons_zero, List.set_cons_succ]
        refine wpAnyH_ready (rs := [5]) (by kernel_rfl) (by simp) ?_
        refine AllReadyH.cons rfl (fun K hK => ?_) ?_
        · refine step_append_lies _ (by rfl) _ _ 37 (by rfl) X3.heap.size 27 i5 _ 3 40 Tryz.underlying37 hi5 hz0 hz1 hz2 (by rfl) (by decide) _ 0 ([] : List Value) (by rfl) (World.ownsRow_nil _ _ _ _) _ 1 1 [.string ⟨#[110]⟩, .string ⟨#[116]⟩, .bool false] (by rfl) (by rfl) (World.news_of_block (heap_alloc_new X3 _)) (by simp [Value.oneCell']) (by decide) (by unfold maxLen; omega) (by omega) (by simp) _ rfl ?_
          intro g2 cap2 X4 hown2 hgrow2 hat2 hlt2
          have hb4 := ((Below.refl _ X3).alloc (Nat.le_refl _) _).trans (grown_below hgrow2 (by simp) (fun g hg => by cases hg))
          have m10 := stay hb4 p10
          have N4 := block_keep (block_keep (w := W2.drew) n2.out hb3.out) hb4
          have mf := (cells_at N4 10).2
          replace N4 := hid_of N4
          replace hb4 := hid_of hb4
          clear hgrow2 hat2 hlt2 hown2 p10 p10a
          refine hK.out _ _ trivial (fun hHeld => ?_)
          clear hK K
          try simp only [Act.put, List.getElem_toArray, List.getElem_cons_zero, List.getElem_cons_succ, List.setIfInBounds_toArray, List.set_cons_zero, List.set_cons_succ]
          refine wpAnyH_take (i := 6) (v := .pointer (some ⟨k1, 10, none⟩)) rfl (by kernel_rfl) (by kernel_rfl) (by kernel_rfl) (fun _ _ _ h => (h : False).elim) (Or.inl ⟨by rfl, (by intro w' hS; go_simp)⟩) hHeld ?_
          simp only [Act.put, List.getElem_toArray, List.getElem_cons_zero, List.getElem_cons_succ, List.setIfInBounds_toArray, List.set_cons_zero, List.set_cons_succ]
          refine wpAnyH_ready (rs := [7]) (by kernel_rfl) (by simp) ?_
          refine AllReadyH.cons rfl (fun K hK => ?_) ?_
          · rw [if_pos (by rfl)]
            go_simp
            refine hK.out _ _ trivial (fun hHeld => ?_)
            clear hK K
            try simp only [Act.put, List.getElem_toArray, List.getElem_cons_zero, List.getElem_cons_succ, List.setIfInBounds_toArray, List.set_cons_zero, List.set_cons_succ]
            refine wpAnyH_done (by kernel_rfl) (NoPanic.normal ?_) _
            have V0 : Hid (Below w.heap.size w (X4.setCell ⟨k1, 10, none⟩ (.slice (some ⟨g2, 0, none⟩) 1 cap2))) := ((hB2.out.trans ((⟨hb3.out.os, hb3.out.tape, hb3.out.output, hb3.out.size, hb3.out.block⟩ : Below W2.heap.size W2 X3).mono hB2.out.size)).trans (hb4.out.mono (Nat.le_trans hB2.out.size hb3.out.size))).grown (grown_set X4 k1 10 _) (Nat.le_trans (Nat.le_trans hB2.out.size hb3.out.size) hb4.out.size) (fun j hj => by cases hj; have := hk1.out; omega)
            have V1 : (X4.setCell ⟨k1, 10, none⟩ (.slice (some ⟨g2, 0, none⟩) 1 cap2)).heap[k1]? = some (.cells #[.string nameC, .int .i64 2, .int .i64 2, .int .i64 0, .int .i64 0, .string ⟨#[]⟩, .slice none 0 0, .slice none 0 0, .int .i64 0, .int .i64 0, .slice (some ⟨g2, 0, none⟩) 1 cap2] 39 (0, 0)) := set_ten N4.out _
            have V2 : (X4.setCell ⟨k1, 10, none⟩ (.slice (some ⟨g2, 0, none⟩) 1 cap2)).heap[w.heap.size]? = some (.cells #[.string ⟨#[]⟩, .int .i64 0, .int .i64 0, .int .i64 0, .int .i64 0, .string ⟨#[]⟩, .slice none 0 0, .slice none 0 0, .int .i64 0, .int .i64 0, .slice none 0 0] 39 (0, 0)) := (Below.heap_setCell _ _ _ _ (show w.heap.size ≠ k1 by have := hk1.out; omega)).trans (block_keep (block_keep (w := W2.drew) n1.out hb3.out) hb4.out)
            clear m10 mf N4 hb4 hb3 hsp n1 n2 hB2 q10d qfd
            generalize X4.setCell ⟨k1, 10, none⟩ (.slice (some ⟨g2, 0, none⟩) 1 cap2) = X5 at V0 V1 V2 ⊢
            have r := fun j => (cells_at V1 j).1
            have r0 := r 0; have r1 := r 1; have r2 := r 2; have r3 := r 3; have r4 := r 4; have r5 := r 5; have r6 := r 6; have r7 := r 7; have r8 := r 8; have r9 := r 9; have r10 := r 10
            have t := fun j => (cells_at V2 j).1
            have t0 := t 0; have t1 := t 1; have t2 := t 2; have t3 := t 3; have t4 := t 4; have t5 := t 5; have t6 := t 6; have t7 := t 7; have t8 := t 8; have t9 := t 9; have t10 := t 10
            have f := fun j => (cells_at V2 j).2
            have f0 := f 0; have f1 := f 1; have f2 := f 2; have f3 := f 3; have f4 := f 4; have f5 := f 5; have f6 := f 6; have f7 := f 7; have f8 := f 8; have f9 := f 9; have f10 := f 10
            simp only [List.getElem?_toArray, List.getElem?_cons_zero, List.getElem?_cons_succ] at r0 r1 r2 r3 r4 r5 r6 r7 r8 r9 r10 t0 t1 t2 t3 t4 t5 t6 t7 t8 t9 t10
            clear r t f
            go_wp2_with fail
            rw [rounds_succ]
            go_wp2_with fail
            obtain ⟨P1, P2⟩ := put11 (v0 := .string nameC) (v1 := .int .i64 2) (v2 := .int .i64 2) (v3 := .int .i64 0) (v4 := .int .i64 0) (v5 := .string ⟨#[]⟩) (v6 := .slice none 0 0) (v7 := .slice none 0 0) (v8 := .int .i64 0) (v9 := .int .i64 0) (v10 := .slice (some ⟨g2, 0, none⟩) 1 cap2) V2 V0.out (Nat.le_refl _)
            clear f0 f1 f2 f3 f4 f5 f6 f7 f8 f9 f10 r0 r1 r2 r3 r4 r5 r6 r7 r8 r9 r10 t0 t1 t2 t3 t4 t5 t6 t7 t8 t9 t10
            generalize (((((((((((X5.setCell ⟨w.heap.size, 0, none⟩ (.string nameC)).setCell ⟨w.heap.size, 1, none⟩ (.int .i64 2)).setCell ⟨w.heap.size, 2, none⟩ (.int .i64 2)).setCell ⟨w.heap.size, 3, none⟩ (.int .i64 0)).setCell ⟨w.heap.size, 4, none⟩ (.int .i64 0)).setCell ⟨w.heap.size, 5, none⟩ (.string ⟨#[]⟩)).setCell ⟨w.heap.size, 6, none⟩ (.slice none 0 0)).setCell ⟨w.heap.size, 7, none⟩ (.slice none 0 0)).setCell ⟨w.heap.size, 8, none⟩ (.int .i64 0)).setCell ⟨w.heap.size, 9, none⟩ (.int .i64 0)).setCell ⟨w.heap.size, 10, none⟩ (.slice (some ⟨g2, 0, none⟩) 1 cap2)) = X6 at P1 P2 ⊢
            have r := fun j => (cells_at P1 j).1
            have r0 := r 0; have r1 := r 1; have r2 := r 2; have r3 := r 3; have r4 := r 4; have r5 := r 5; have r6 := r 6; have r7 := r 7; have r8 := r 8; have r9 := r 9; have r10 := r 10
            simp only [List.getElem?_toArray, List.getElem?_cons_zero, List.getElem?_cons_succ] at r0 r1 r2 r3 r4 r5 r6 r7 r8 r9 r10
            clear r
            refine bodyPost_ret (v := .agg #[.string nameC, .int .i64 2, .int .i64 2, .int .i64 0, .int .i64 0, .string ⟨#[]⟩, .slice none 0 0, .slice none 0 0, .int .i64 0, .int .i64 0, .slice (some ⟨g2, 0, none⟩) 1 cap2]) (by simp [results, Tryz.results19, go_sem, r0, r1, r2, r3, r4, r5, r6, r7, r8, r9, r10]) rfl ?_
            exact ⟨_, _, rfl, P2⟩
          exact AllReadyH.nil
        exact AllReadyH.nil
      exact AllReadyH.nil
    exact AllReadyH.nil
  refine AllReadyH.cons rfl (fun K hK => ?_) ?_
  · rw [if_pos (by rfl)]
    go_simp
    refine hsp.out.mono ?_
    rintro e X3 ⟨rfl, hb3⟩
    have p10 : X3.cell? ⟨k1, 10, none⟩ = some (.slice none 0 0) := stay hb3 q10d
    have p10a := fun o => cell_alloc' p10 o
    replace hb3 := hid_of hb3
    try simp only
    refine hK.out _ _ trivial (fun hHeld => ?_)
    clear hK K
    try simp only [Act.put, List.getElem_toArray, List.getElem_cons_zero, List.getElem_cons_succ, List.setIfInBounds_toArray, List.set_cons_zero, List.set_cons_succ]
    refine wpAnyH_ready (rs := [1, 4]) (by kernel_rfl) (by simp) ?_
    refine AllReadyH.cons rfl (fun K hK => ?_) ?_
    · rw [if_pos (by rfl)]
      go_simp
      refine hK.out _ _ trivial (fun hHeld => ?_)
      clear hK K
      try simp only [Act.put, List.getElem_toArray, List.getElem_cons_zero, List.getElem_cons_succ, List.setIfInBounds_toArray, List.set_cons_zero, List.set_cons_succ]
      refine wpAnyH_ready (rs := [4]) (by kernel_rfl) (by simp) ?_
      refine AllReadyH.cons rfl (fun K hK => ?_) ?_
      · rw [if_pos (by rfl)]
        go_simp
        refine hK.out _ _ trivial (fun hHeld => ?_)
        clear hK K
        try simp only [Act.put, List.getElem_toArray, List.getElem_cons_zero, List.getElem_cons_succ, List.setIfInBounds_toArray, List.set_cons_zero, List.set_cons_succ]
        refine wpAnyH_ready (rs := [5]) (by kernel_rfl) (by simp) ?_
        refine AllReadyH.cons rfl (fun K hK => ?_) ?_
        · refine step_append_lies _ (by rfl) _ _ 37 (by rfl) X3.heap.size 27 i5 _ 3 40 Tryz.underlying37 hi5 hz0 hz1 hz2 (by rfl) (by decide) _ 0 ([] : List Value) (by rfl) (World.ownsRow_nil _ _ _ _) _ 1 1 [.string ⟨#[110]⟩, .string ⟨#[116]⟩, .bool false] (by rfl) (by rfl) (World.news_of_block (heap_alloc_new X3 _)) (by simp [Value.oneCell']) (by decide) (by unfold maxLen; omega) (by omega) (by simp) _ rfl ?_
          intro g2 cap2 X4 hown2 hgrow2 hat2 hlt2
          have hb4 := ((Below.refl _ X3).alloc (Nat.le_refl _) _).trans (grown_below hgrow2 (by simp) (fun g hg => by cases hg))
          have m10 := stay hb4 p10
          have N4 := block_keep (block_keep (w := W2.drew) n2.out hb3.out) hb4
          have mf := (cells_at N4 10).2
          replace N4 := hid_of N4
          replace hb4 := hid_of hb4
          clear hgrow2 hat2 hlt2 hown2 p10 p10a
          refine hK.out _ _ trivial (fun hHeld => ?_)
          clear hK K
          try simp only [Act.put, List.getElem_toArray, List.getElem_cons_zero, List.getElem_cons_succ, List.setIfInBounds_toArray, List.set_cons_zero, List.set_cons_succ]
          refine wpAnyH_take (i := 6) (v := .pointer (some ⟨k1, 10, none⟩)) rfl (by kernel_rfl) (by kernel_rfl) (by kernel_rfl) (fun _ _ _ h => (h : False).elim) (Or.inl ⟨by rfl, (by intro w' hS; go_simp)⟩) hHeld ?_
          simp only [Act.put, List.getElem_toArray, List.getElem_cons_zero, List.getElem_cons_succ, List.setIfInBounds_toArray, List.set_cons_zero, List.set_cons_succ]
          refine wpAnyH_ready (rs := [7]) (by kernel_rfl) (by simp) ?_
          refine AllReadyH.cons rfl (fun K hK => ?_) ?_
          · rw [if_pos (by rfl)]
            go_simp
            refine hK.out _ _ trivial (fun hHeld => ?_)
            clear hK K
            try simp only [Act.put, List.getElem_toArray, List.getElem_cons_zero, List.getElem_cons_succ, List.setIfInBounds_toArray, List.set_cons_zero, List.set_cons_succ]
            refine wpAnyH_done (by kernel_rfl) (NoPanic.normal ?_) _
            have V0 : Hid (Below w.heap.size w (X4.setCell ⟨k1, 10, none⟩ (.slice (some ⟨g2, 0, none⟩) 1 cap2))) := ((hB2.out.trans ((⟨hb3.out.os, hb3.out.tape, hb3.out.output, hb3.out.size, hb3.out.block⟩ : Below W2.heap.size W2 X3).mono hB2.out.size)).trans (hb4.out.mono (Nat.le_trans hB2.out.size hb3.out.size))).grown (grown_set X4 k1 10 _) (Nat.le_trans (Nat.le_trans hB2.out.size hb3.out.size) hb4.out.size) (fun j hj => by cases hj; have := hk1.out; omega)
            have V1 : (X4.setCell ⟨k1, 10, none⟩ (.slice (some ⟨g2, 0, none⟩) 1 cap2)).heap[k1]? = some (.cells #[.string nameC, .int .i64 2, .int .i64 2, .int .i64 0, .int .i64 0, .string ⟨#[]⟩, .slice none 0 0, .slice none 0 0, .int .i64 0, .int .i64 0, .slice (some ⟨g2, 0, none⟩) 1 cap2] 39 (0, 0)) := set_ten N4.out _
            have V2 : (X4.setCell ⟨k1, 10, none⟩ (.slice (some ⟨g2, 0, none⟩) 1 cap2)).heap[w.heap.size]? = some (.cells #[.string ⟨#[]⟩, .int .i64 0, .int .i64 0, .int .i64 0, .int .i64 0, .string ⟨#[]⟩, .slice none 0 0, .slice none 0 0, .int .i64 0, .int .i64 0, .slice none 0 0] 39 (0, 0)) := (Below.heap_setCell _ _ _ _ (show w.heap.size ≠ k1 by have := hk1.out; omega)).trans (block_keep (block_keep (w := W2.drew) n1.out hb3.out) hb4.out)
            clear m10 mf N4 hb4 hb3 hsp n1 n2 hB2 q10d qfd
            generalize X4.setCell ⟨k1, 10, none⟩ (.slice (some ⟨g2, 0, none⟩) 1 cap2) = X5 at V0 V1 V2 ⊢
            have r := fun j => (cells_at V1 j).1
            have r0 := r 0; have r1 := r 1; have r2 := r 2; have r3 := r 3; have r4 := r 4; have r5 := r 5; have r6 := r 6; have r7 := r 7; have r8 := r 8; have r9 := r 9; have r10 := r 10
            have t := fun j => (cells_at V2 j).1
            have t0 := t 0; have t1 := t 1; have t2 := t 2; have t3 := t 3; have t4 := t 4; have t5 := t 5; have t6 := t 6; have t7 := t 7; have t8 := t 8; have t9 := t 9; have t10 := t 10
            have f := fun j => (cells_at V2 j).2
            have f0 := f 0; have f1 := f 1; have f2 := f 2; have f3 := f 3; have f4 := f 4; have f5 := f 5; have f6 := f 6; have f7 := f 7; have f8 := f 8; have f9 := f 9; have f10 := f 10
            simp only [List.getElem?_toArray, List.getElem?_cons_zero, List.getElem?_cons_succ] at r0 r1 r2 r3 r4 r5 r6 r7 r8 r9 r10 t0 t1 t2 t3 t4 t5 t6 t7 t8 t9 t10
            clear r t f
            go_wp2_with fail
            rw [rounds_succ]
            go_wp2_with fail
            obtain ⟨P1, P2⟩ := put11 (v0 := .string nameC) (v1 := .int .i64 2) (v2 := .int .i64 2) (v3 := .int .i64 0) (v4 := .int .i64 0) (v5 := .string ⟨#[]⟩) (v6 := .slice none 0 0) (v7 := .slice none 0 0) (v8 := .int .i64 0) (v9 := .int .i64 0) (v10 := .slice (some ⟨g2, 0, none⟩) 1 cap2) V2 V0.out (Nat.le_refl _)
            clear f0 f1 f2 f3 f4 f5 f6 f7 f8 f9 f10 r0 r1 r2 r3 r4 r5 r6 r7 r8 r9 r10 t0 t1 t2 t3 t4 t5 t6 t7 t8 t9 t10
            generalize (((((((((((X5.setCell ⟨w.heap.size, 0, none⟩ (.string nameC)).setCell ⟨w.heap.size, 1, none⟩ (.int .i64 2)).setCell ⟨w.heap.size, 2, none⟩ (.int .i64 2)).setCell ⟨w.heap.size, 3, none⟩ (.int .i64 0)).setCell ⟨w.heap.size, 4, none⟩ (.int .i64 0)).setCell ⟨w.heap.size, 5, none⟩ (.string ⟨#[]⟩)).setCell ⟨w.heap.size, 6, none⟩ (.slice none 0 0)).setCell ⟨w.heap.size, 7, none⟩ (.slice none 0 0)).setCell ⟨w.heap.size, 8, none⟩ (.int .i64 0)).setCell ⟨w.heap.size, 9, none⟩ (.int .i64 0)).setCell ⟨w.heap.size, 10, none⟩ (.slice (some ⟨g2, 0, none⟩) 1 cap2)) = X6 at P1 P2 ⊢
            have r := fun j => (cells_at P1 j).1
            have r0 := r 0; have r1 := r 1; have r2 := r 2; have r3 := r 3; have r4 := r 4; have r5 := r 5; have r6 := r 6; have r7 := r 7; have r8 := r 8; have r9 := r 9; have r10 := r 10
            simp only [List.getElem?_toArray, List.getElem?_cons_zero, List.getElem?_cons_succ] at r0 r1 r2 r3 r4 r5 r6 r7 r8 r9 r10
            clear r
            refine bodyPost_ret (v := .agg #[.string nameC, .int .i64 2, .int .i64 2, .int .i64 0, .int .i64 0, .string ⟨#[]⟩, .slice none 0 0, .slice none 0 0, .int .i64 0, .int .i64 0, .slice (some ⟨g2, 0, none⟩) 1 cap2]) (by simp [results, Tryz.results19, go_sem, r0, r1, r2, r3, r4, r5, r6, r7, r8, r9, r10]) rfl ?_
            exact ⟨_, _, rfl, P2⟩
          exact AllReadyH.nil
        exact AllReadyH.nil
      exact AllReadyH.nil
    refine AllReadyH.cons rfl (fun K hK => ?_) ?_
    · rw [if_pos (by rfl)]
      go_simp
      refine hK.out _ _ trivial (fun hHeld => ?_)
      clear hK K
      try simp only [Act.put, List.getElem_toArray, List.getElem_cons_zero, List.getElem_cons_succ, List.setIfInBounds_toArray, List.set_cons_zero, List.set_cons_succ]
      refine wpAnyH_ready (rs := [1]) (by kernel_rfl) (by simp) ?_
      refine AllReadyH.cons rfl (fun K hK => ?_) ?_
      · rw [if_pos (by rfl)]
        go_simp
        refine hK.out _ _ trivial (fun hHeld => ?_)
        clear hK K
        try simp only [Act.put, List.getElem_toArray, List.getElem_cons_zero, List.getElem_cons_succ, List.setIfInBounds_toArray, List.set_cons_zero, List.set_cons_succ]
        refine wpAnyH_ready (rs := [5]) (by kernel_rfl) (by simp) ?_
        refine AllReadyH.cons rfl (fun K hK => ?_) ?_
        · refine step_append_lies _ (by rfl) _ _ 37 (by rfl) X3.heap.size 27 i5 _ 3 40 Tryz.underlying37 hi5 hz0 hz1 hz2 (by rfl) (by decide) _ 0 ([] : List Value) (by rfl) (World.ownsRow_nil _ _ _ _) _ 1 1 [.string ⟨#[110]⟩, .string ⟨#[116]⟩, .bool false] (by rfl) (by rfl) (World.news_of_block (heap_alloc_new X3 _)) (by simp [Value.oneCell']) (by decide) (by unfold maxLen; omega) (by omega) (by simp) _ rfl ?_
          intro g2 cap2 X4 hown2 hgrow2 hat2 hlt2
          have hb4 := ((Below.refl _ X3).alloc (Nat.le_refl _) _).trans (grown_below hgrow2 (by simp) (fun g hg => by cases hg))
          have m10 := stay hb4 p10
          have N4 := block_keep (block_keep (w := W2.drew) n2.out hb3.out) hb4
          have mf := (cells_at N4 10).2
          replace N4 := hid_of N4
          replace hb4 := hid_of hb4
          clear hgrow2 hat2 hlt2 hown2 p10 p10a
          refine hK.out _ _ trivial (fun hHeld => ?_)
          clear hK K
          try simp only [Act.put, List.getElem_toArray, List.getElem_cons_zero, List.getElem_cons_succ, List.setIfInBounds_toArray, List.set_cons_zero, List.set_cons_succ]
          refine wpAnyH_take (i := 6) (v := .pointer (some ⟨k1, 10, none⟩)) rfl (by kernel_rfl) (by kernel_rfl) (by kernel_rfl) (fun _ _ _ h => (h : False).elim) (Or.inl ⟨by rfl, (by intro w' hS; go_simp)⟩) hHeld ?_
          simp only [Act.put, List.getElem_toArray, List.getElem_cons_zero, List.getElem_cons_succ, List.setIfInBounds_toArray, List.set_cons_zero, List.set_cons_succ]
          refine wpAnyH_ready (rs := [7]) (by kernel_rfl) (by simp) ?_
          refine AllReadyH.cons rfl (fun K hK => ?_) ?_
          · rw [if_pos (by rfl)]
            go_simp
            refine hK.out _ _ trivial (fun hHeld => ?_)
            clear hK K
            try simp only [Act.put, List.getElem_toArray, List.getElem_cons_zero, List.getElem_cons_succ, List.setIfInBounds_toArray, List.set_cons_zero, List.set_cons_succ]
            refine wpAnyH_done (by kernel_rfl) (NoPanic.normal ?_) _
            have V0 : Hid (Below w.heap.size w (X4.setCell ⟨k1, 10, none⟩ (.slice (some ⟨g2, 0, none⟩) 1 cap2))) := ((hB2.out.trans ((⟨hb3.out.os, hb3.out.tape, hb3.out.output, hb3.out.size, hb3.out.block⟩ : Below W2.heap.size W2 X3).mono hB2.out.size)).trans (hb4.out.mono (Nat.le_trans hB2.out.size hb3.out.size))).grown (grown_set X4 k1 10 _) (Nat.le_trans (Nat.le_trans hB2.out.size hb3.out.size) hb4.out.size) (fun j hj => by cases hj; have := hk1.out; omega)
            have V1 : (X4.setCell ⟨k1, 10, none⟩ (.slice (some ⟨g2, 0, none⟩) 1 cap2)).heap[k1]? = some (.cells #[.string nameC, .int .i64 2, .int .i64 2, .int .i64 0, .int .i64 0, .string ⟨#[]⟩, .slice none 0 0, .slice none 0 0, .int .i64 0, .int .i64 0, .slice (some ⟨g2, 0, none⟩) 1 cap2] 39 (0, 0)) := set_ten N4.out _
            have V2 : (X4.setCell ⟨k1, 10, none⟩ (.slice (some ⟨g2, 0, none⟩) 1 cap2)).heap[w.heap.size]? = some (.cells #[.string ⟨#[]⟩, .int .i64 0, .int .i64 0, .int .i64 0, .int .i64 0, .string ⟨#[]⟩, .slice none 0 0, .slice none 0 0, .int .i64 0, .int .i64 0, .slice none 0 0] 39 (0, 0)) := (Below.heap_setCell _ _ _ _ (show w.heap.size ≠ k1 by have := hk1.out; omega)).trans (block_keep (block_keep (w := W2.drew) n1.out hb3.out) hb4.out)
            clear m10 mf N4 hb4 hb3 hsp n1 n2 hB2 q10d qfd
            generalize X4.setCell ⟨k1, 10, none⟩ (.slice (some ⟨g2, 0, none⟩) 1 cap2) = X5 at V0 V1 V2 ⊢
            have r := fun j => (cells_at V1 j).1
            have r0 := r 0; have r1 := r 1; have r2 := r 2; have r3 := r 3; have r4 := r 4; have r5 := r 5; have r6 := r 6; have r7 := r 7; have r8 := r 8; have r9 := r 9; have r10 := r 10
            have t := fun j => (cells_at V2 j).1
            have t0 := t 0; have t1 := t 1; have t2 := t 2; have t3 := t 3; have t4 := t 4; have t5 := t 5; have t6 := t 6; have t7 := t 7; have t8 := t 8; have t9 := t 9; have t10 := t 10
            have f := fun j => (cells_at V2 j).2
            have f0 := f 0; have f1 := f 1; have f2 := f 2; have f3 := f 3; have f4 := f 4; have f5 := f 5; have f6 := f 6; have f7 := f 7; have f8 := f 8; have f9 := f 9; have f10 := f 10
            simp only [List.getElem?_toArray, List.getElem?_cons_zero, List.getElem?_cons_succ] at r0 r1 r2 r3 r4 r5 r6 r7 r8 r9 r10 t0 t1 t2 t3 t4 t5 t6 t7 t8 t9 t10
            clear r t f
            go_wp2_with fail
            rw [rounds_succ]
            go_wp2_with fail
            obtain ⟨P1, P2⟩ := put11 (v0 := .string nameC) (v1 := .int .i64 2) (v2 := .int .i64 2) (v3 := .int .i64 0) (v4 := .int .i64 0) (v5 := .string ⟨#[]⟩) (v6 := .slice none 0 0) (v7 := .slice none 0 0) (v8 := .int .i64 0) (v9 := .int .i64 0) (v10 := .slice (some ⟨g2, 0, none⟩) 1 cap2) V2 V0.out (Nat.le_refl _)
            clear f0 f1 f2 f3 f4 f5 f6 f7 f8 f9 f10 r0 r1 r2 r3 r4 r5 r6 r7 r8 r9 r10 t0 t1 t2 t3 t4 t5 t6 t7 t8 t9 t10
            generalize (((((((((((X5.setCell ⟨w.heap.size, 0, none⟩ (.string nameC)).setCell ⟨w.heap.size, 1, none⟩ (.int .i64 2)).setCell ⟨w.heap.size, 2, none⟩ (.int .i64 2)).setCell ⟨w.heap.size, 3, none⟩ (.int .i64 0)).setCell ⟨w.heap.size, 4, none⟩ (.int .i64 0)).setCell ⟨w.heap.size, 5, none⟩ (.string ⟨#[]⟩)).setCell ⟨w.heap.size, 6, none⟩ (.slice none 0 0)).setCell ⟨w.heap.size, 7, none⟩ (.slice none 0 0)).setCell ⟨w.heap.size, 8, none⟩ (.int .i64 0)).setCell ⟨w.heap.size, 9, none⟩ (.int .i64 0)).setCell ⟨w.heap.size, 10, none⟩ (.slice (some ⟨g2, 0, none⟩) 1 cap2)) = X6 at P1 P2 ⊢
            have r := fun j => (cells_at P1 j).1
            have r0 := r 0; have r1 := r 1; have r2 := r 2; have r3 := r 3; have r4 := r 4; have r5 := r 5; have r6 := r 6; have r7 := r 7; have r8 := r 8; have r9 := r 9; have r10 := r 10
            simp only [List.getElem?_toArray, List.getElem?_cons_zero, List.getElem?_cons_succ] at r0 r1 r2 r3 r4 r5 r6 r7 r8 r9 r10
            clear r
            refine bodyPost_ret (v := .agg #[.string nameC, .int .i64 2, .int .i64 2, .int .i64 0, .int .i64 0, .string ⟨#[]⟩, .slice none 0 0, .slice none 0 0, .int .i64 0, .int .i64 0, .slice (some ⟨g2, 0, none⟩) 1 cap2]) (by simp [results, Tryz.results19, go_sem, r0, r1, r2, r3, r4, r5, r6, r7, r8, r9, r10]) rfl ?_
            exact ⟨_, _, rfl, P2⟩
          exact AllReadyH.nil
        exact AllReadyH.nil
      exact AllReadyH.nil
    exact AllReadyH.nil
  exact AllReadyH.nil
end Go.Proofs.YtdghkmgkmfnjjaaGreatDoor
