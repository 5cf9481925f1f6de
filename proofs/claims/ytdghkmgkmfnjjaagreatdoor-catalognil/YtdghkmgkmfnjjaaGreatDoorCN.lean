import Derived.Test.YtdghkmgkmfnjjaaGreatDoorCM
/-! Coll. -/
namespace Go.Proofs.YtdghkmgkmfnjjaaGreatDoor
open Go Go.RowKit Go.Maps

set_option maxHeartbeats 4000000 in
set_option maxRecDepth 100000 in
theorem coll_c (cb nk yb : Nat) (w : World) (h : Cat1 w cb nk) (hk : Coll1 w nk 2 yb) (hX : IxTwo w yb) :
    Calls Tryz.prog 6 #[.pointer (some ⟨cb, 0, none⟩), .string nameC] w fun e w' => ∃ sp c, e = .returned (.tuple #[.agg (collC 2 (.slice sp 1 c)), .bool true]) ∧ Below w.heap.size w w' := by
  have hB := (Below.refl _ w).alloc (Nat.le_refl _) (.cells #[.string ⟨#[]⟩, .int .i64 0, .int .i64 0, .int .i64 0, .int .i64 0, .string ⟨#[]⟩, .slice none 0 0, .slice none 0 0, .int .i64 0, .int .i64 0, .slice none 0 0] 39)
  have n1 := heap_alloc_new w (.cells #[.string ⟨#[]⟩, .int .i64 0, .int .i64 0, .int .i64 0, .int .i64 0, .string ⟨#[]⟩, .slice none 0 0, .slice none 0 0, .int .i64 0, .int .i64 0, .slice none 0 0] 39)
  have hf := hid_of (find_one cb nk _ (h.keep hB))
  have ht := hid_of (told_c nk yb _ (hk.keep hB) (hX.keep hB))
  unfold collC at *
  clear h hk hX
  go_enter Tryz.func6, Tryz.ntmps6
  go_wp2_with fail
  refine hf.out.mono ?_
  rintro e Z ⟨rfl, hZ⟩
  have hZ := hZ.symm
  subst hZ
  clear hf
  replace hB := hid_of hB
  replace n1 := hid_of n1
  go_wp2_with fail
  refine ht.out.mono ?_
  rintro e X1 ⟨sp, c, rfl, hX1⟩
  have V2 := block_keep n1.out hX1
  replace hB := hid_of (hB.out.trans (hX1.mono hB.out.size))
  clear ht n1 hX1
  have t := fun j => (cells_at V2 j).1
  have t0 := t 0; have t1 := t 1; have t2 := t 2; have t3 := t 3; have t4 := t 4; have t5 := t 5; have t6 := t 6; have t7 := t 7; have t8 := t 8; have t9 := t 9; have t10 := t 10
  have f := fun j => (cells_at V2 j).2
  have f0 := f 0; have f1 := f 1; have f2 := f 2; have f3 := f 3; have f4 := f 4; have f5 := f 5; have f6 := f 6; have f7 := f 7; have f8 := f 8; have f9 := f 9; have f10 := f 10
  simp only [List.getElem?_toArray, List.getElem?_cons_zero, List.getElem?_cons_succ] at t0 t1 t2 t3 t4 t5 t6 t7 t8 t9 t10
  clear t f
  go_wp2_with fail
  obtain ⟨P1, P2⟩ := put11 (v0 := .string nameC) (v1 := .int .i64 2) (v2 := .int .i64 2) (v3 := .int .i64 0) (v4 := .int .i64 0) (v5 := .string ⟨#[]⟩) (v6 := .slice none 0 0) (v7 := .slice none 0 0) (v8 := .int .i64 0) (v9 := .int .i64 0) (v10 := .slice sp 1 c) V2 hB.out (Nat.le_refl _)
  clear f0 f1 f2 f3 f4 f5 f6 f7 f8 f9 f10 t0 t1 t2 t3 t4 t5 t6 t7 t8 t9 t10
  generalize (((((((((((X1.setCell ⟨w.heap.size, 0, none⟩ (.string nameC)).setCell ⟨w.heap.size, 1, none⟩ (.int .i64 2)).setCell ⟨w.heap.size, 2, none⟩ (.int .i64 2)).setCell ⟨w.heap.size, 3, none⟩ (.int .i64 0)).setCell ⟨w.heap.size, 4, none⟩ (.int .i64 0)).setCell ⟨w.heap.size, 5, none⟩ (.string ⟨#[]⟩)).setCell ⟨w.heap.size, 6, none⟩ (.slice none 0 0)).setCell ⟨w.heap.size, 7, none⟩ (.slice none 0 0)).setCell ⟨w.heap.size, 8, none⟩ (.int .i64 0)).setCell ⟨w.heap.size, 9, none⟩ (.int .i64 0)).setCell ⟨w.heap.size, 10, none⟩ (.slice sp 1 c)) = X6 at P1 P2 ⊢
  have r := fun j => (cells_at P1 j).1
  have r0 := r 0; have r1 := r 1; have r2 := r 2; have r3 := r 3; have r4 := r 4; have r5 := r 5; have r6 := r 6; have r7 := r 7; have r8 := r 8; have r9 := r 9; have r10 := r 10
  simp only [List.getElem?_toArray, List.getElem?_cons_zero, List.getElem?_cons_succ] at r0 r1 r2 r3 r4 r5 r6 r7 r8 r9 r10
  clear r
  refine bodyPost_ret (v := .tuple #[.agg #[.string nameC, .int .i64 2, .int .i64 2, .int .i64 0, .int .i64 0, .string ⟨#[]⟩, .slice none 0 0, .slice none 0 0, .int .i64 0, .int .i64 0, .slice sp 1 c], .bool true]) (by simp [results, Tryz.results6, go_sem, r0, r1, r2, r3, r4, r5, r6, r7, r8, r9, r10]) rfl ?_
  exact ⟨_, _, rfl, P2⟩
end Go.Proofs.YtdghkmgkmfnjjaaGreatDoor
