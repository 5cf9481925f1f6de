import Derived.Test.YtloeongljbgmnaaES
/-! epoch: Split of one node; New. -/
namespace Go.Proofs.Ytloeongljbgmnaa
open Go Go.RowKit
set_option maxRecDepth 100000 in
set_option maxHeartbeats 4000000 in
theorem split_b (gd gn nc : Nat) (num gen : Int) (w : World) (hd : w.cell? ⟨gd, 0, none⟩ = some (.int .i64 0)) (h0 : w.cell? ⟨gn, 0, none⟩ = some (.int .i64 num)) (h1 : w.cell? ⟨gn, 1, none⟩ = some (.int .i64 gen)) : Calls Try.prog 53 #[.agg #[.int .i64 1, .slice (some ⟨gn, 0, none⟩) 1 nc, .int .i64 0], .agg (opB gd)] w fun e w' => Below w.heap.size w w' ∧ ∃ g cc, e = .returned (.tuple #[.slice none 0 0, .slice (some ⟨g, 0, none⟩) 1 cc]) ∧ w'.ownsRow w.heap.size 82 2 (.slice (some ⟨g, 0, none⟩) 1 cc) 1 [.int .i64 num, .int .i64 gen] := by
  obtain ⟨ri, hri, hri1, hri2, hri3⟩ := ref_info
  obtain ⟨W2, hW2⟩ : ∃ W2, Hid ((w.alloc (.cells #[.int .i64 1, .slice (some ⟨gn, 0, none⟩) 1 nc, .int .i64 0] 28)).alloc (.cells (opB gd) 78) = W2) := ⟨_, rfl⟩
  have z0 := heap_alloc2_old w (.cells #[.int .i64 1, .slice (some ⟨gn, 0, none⟩) 1 nc, .int .i64 0] 28) (.cells (opB gd) 78)
  have z1 := heap_alloc2_new w (.cells #[.int .i64 1, .slice (some ⟨gn, 0, none⟩) 1 nc, .int .i64 0] 28) (.cells (opB gd) 78)
  have hB : Below w.heap.size w W2 := by rw [← hW2.out]; exact ((Below.refl _ w).alloc (Nat.le_refl _) _).alloc (by simp) _
  rw [hW2.out] at z0 z1
  have hdr := hid_of (dropped_b gd W2 (stay hB hd))
  unfold opB at *
  obtain ⟨a0, a1, a2⟩ := cells3 z0
  have b0 : W2.cell? ⟨w.heap.size + 1, 0, none⟩ = some (.int .i64 1) := cell_of z1 rfl
  have b1 : W2.cell? ⟨w.heap.size + 1, 1, none⟩ = some (.int .i64 0) := cell_of z1 rfl
  have b2 : W2.cell? ⟨w.heap.size + 1, 2, none⟩ = some (.int .i64 0) := cell_of z1 rfl
  have b3 : W2.cell? ⟨w.heap.size + 1, 3, none⟩ = some (.slice (some ⟨gd, 0, none⟩) 1 1) := cell_of z1 rfl
  have b4 : W2.cell? ⟨w.heap.size + 1, 4, none⟩ = some (.int .i64 1) := cell_of z1 rfl
  have b5 : W2.cell? ⟨w.heap.size + 1, 5, none⟩ = some (.int .i64 0) := cell_of z1 rfl
  have b6 : W2.cell? ⟨w.heap.size + 1, 6, none⟩ = some (.int .i64 0) := cell_of z1 rfl
  have n0 := stay hB h0
  have n1 := stay hB h1
  replace hB := hid_of hB
  clear z0 z1 hd h0 h1
  go_enter Try.func53, Try.ntmps53
  go_wp2_with (rw [hW2.out])
  refine hdr.out.mono ?_
  rintro e W3 ⟨hB3, g, rfl, g0⟩
  have a1 := stay hB3 a1
  have n0 := stay hB3 n0
  have n1 := stay hB3 n1
  have hb3 : Hid (Below w.heap.size w W3) := hB.out.trans (hB3.mono hB.out.size)
  obtain ⟨W4, hW4⟩ : ∃ W4, Hid (W3.alloc (.cells #[.int .i64 num, .int .i64 gen] 82) = W4) := ⟨_, rfl⟩
  have hB4 : Below W3.heap.size W3 W4 := by rw [← hW4.out]; exact (Below.refl _ W3).alloc (Nat.le_refl _) _
  have z4 := heap_alloc_new W3 (.cells #[.int .i64 num, .int .i64 gen] 82)
  rw [hW4.out] at z4
  have hm1 : Hid (0 + 1 ≤ maxLen) := by unfold Hid maxLen; omega
  have hone : Hid (∀ u ∈ [Value.int .i64 num, .int .i64 gen], u.oneCell' = true) := by unfold Hid; simp [Value.oneCell']
  have hb4 : Hid (Below w.heap.size w W4) := hb3.out.trans (hB4.mono hb3.out.size)
  have hbs : Hid (w.heap.size ≤ W4.heap.size) := hb4.out.size
  replace z4 := hid_of z4
  clear hdr hB3 hB hB4 hb3 b0 b1 b2 b3 b4 b5 b6 hW2
  go_wp2_with fail
  refine wp_loop_rounds 2 ?_
  rw [rounds_succ]
  go_wp2_with (first | rw [hW4.out] | (at_builtin; refine wpList_append_lies _ rfl _ _ 26 rfl w.heap.size 82 ri _ 2 16 refs_u hri hri1 hri2 hri3 rfl (by decide) _ 0 [] rfl (World.ownsRow_nil _ _ _ _) _ 1 1 [.int .i64 num, .int .i64 gen] rfl rfl (World.news_of_block z4.out) hone.out (by decide) hm1.out (by decide) hbs.out _ rfl ?_; intro g1 cc W7 r1 r2 r3 r4; replace r1 := hid_of r1; replace r2 := hid_of r2; clear r3 r4))
  have r2' : W4.grownBy W7 none := r2.out
  have r1' : W7.ownsRow w.heap.size 82 2 (.slice (some ⟨g1, 0, none⟩) 1 cc) 1 [.int .i64 num, .int .i64 gen] := r1.out
  have hF7 : Fr (fun _ => False) w W7 := (Fr.of_below hb4.out).grown r2' (fun g e => by cases e)
  have hfin : Hid (Below w.heap.size w W7 ∧ W7.ownsRow w.heap.size 82 2 (.slice (some ⟨g1, 0, none⟩) 1 cc) 1 [.int .i64 num, .int .i64 gen]) := ⟨hF7.below (Nat.le_refl _) (fun _ h => h.elim), r1'⟩
  clear r1 r2 r2' r1' hF7 hb4 z4 hW4 a0 a1 a2 n0 n1
  rw [rounds_succ]
  go_wp2_with fail
  go_ret2
  exact ⟨hfin.out.1, _, _, rfl, hfin.out.2⟩
end Go.Proofs.Ytloeongljbgmnaa
