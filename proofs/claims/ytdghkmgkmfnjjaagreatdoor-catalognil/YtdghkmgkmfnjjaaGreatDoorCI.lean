import Derived.Test.YtdghkmgkmfnjjaaGreatDoorCH
/-! commit, of one too many. -/
namespace Go.Proofs.YtdghkmgkmfnjjaaGreatDoor
open Go Go.RowKit Go.Maps

set_option maxHeartbeats 4000000 in
set_option maxRecDepth 100000 in
theorem commit_one (kb gn bn bi : Nat) (ix : Value) (w : World) (hK : CollAt w kb 2 ix) (hR : w.heap[gn]? = some (oneC bn bi)) :
    Calls Tryz.prog 37 #[.pointer (some ⟨kb, 0, none⟩), .slice none 0 0, .slice (some ⟨gn, 0, none⟩) 1 1] w fun e w' => e = .returned (.int .i64 5) ∧ w.grownBy w' (some kb) := by
  unfold oneC at hR
  replace hK := hid_of hK
  replace hR := hid_of hR
  have HB0 := hid_of (Below.refl w.heap.size w)
  go_enter Tryz.func37, Tryz.ntmps37
  go_wp2_with fail
  refine wp_loop_rounds 2 ?_
  have hc := row14 (block_keep hR.out HB0.out)
  have z0 := hc 0; have z1 := hc 1; have z2 := hc 2; have z3 := hc 3; have z4 := hc 4; have z5 := hc 5; have z6 := hc 6
  simp only [List.getElem?_toArray, List.getElem?_cons_zero, List.getElem?_cons_succ] at z0 z1 z2 z3 z4 z5 z6
  clear hc
  have hA : Below w.heap.size w (w.alloc (.cells #[.string ⟨#[120]⟩, .int .i64 0, .int .i64 6, .int .i64 0, .string ⟨#[]⟩, .slice (some ⟨bn, 0, none⟩) 1 1, .slice (some ⟨bi, 0, none⟩) 1 1] 58)) := HB0.out.alloc HB0.out.size _
  have v0 := item_at (heap_alloc_new w (.cells #[.string ⟨#[120]⟩, .int .i64 0, .int .i64 6, .int .i64 0, .string ⟨#[]⟩, .slice (some ⟨bn, 0, none⟩) 1 1, .slice (some ⟨bi, 0, none⟩) 1 1] 58))
  have rl := (hK.out.keep hA).at 11
  replace hA := hid_of hA
  rw [rounds_succ]
  go_upto_region 4 with fail
  generalize w.alloc (.cells #[.string ⟨#[120]⟩, .int .i64 0, .int .i64 6, .int .i64 0, .string ⟨#[]⟩, .slice (some ⟨bn, 0, none⟩) 1 1, .slice (some ⟨bi, 0, none⟩) 1 1] 58) = A0 at hA v0 rl ⊢
  obtain ⟨v2, v3, v4, v5, v6⟩ := v0
  obtain ⟨s0, hs0⟩ : ∃ s, Hid (s = w.heap.size) := ⟨_, rfl⟩
  rw [← hs0.out] at v2 v3 v4 v5 v6 ⊢
  clear z0 z1 z2 z3 z4 z5 z6
  go_region_held3 (fun W => W.cell? ⟨kb, 11, none⟩ = some (.pointer none) ∧ W.cell? ⟨s0, 2, none⟩ = some (.int .i64 6) ∧ W.cell? ⟨s0, 3, none⟩ = some (.int .i64 0) ∧ W.cell? ⟨s0, 4, none⟩ = some (.string ⟨#[]⟩) ∧ W.cell? ⟨s0, 5, none⟩ = some (.slice (some ⟨bn, 0, none⟩) 1 1) ∧ W.cell? ⟨s0, 6, none⟩ = some (.slice (some ⟨bi, 0, none⟩) 1 1)) (go_keep) ((go_at_call 58; refine (check_nil _ _ _ _ _ _ _ _ _ _).mono ?_; rintro e X1 ⟨rfl, hb'⟩; have hbA : Below A0.heap.size A0 X1 := (below_drewN (Below.refl _ A0) 1).trans hb'; have HB1 := hid_of (hA.out.trans (hbA.mono hA.out.size)); have j0 := stay hbA rl; have j2 := stay hbA v2; have j3 := stay hbA v3; have j4 := stay hbA v4; have j5 := stay hbA v5; have j6 := stay hbA v6; clear hb' hbA))
  clear hA rl v2 v3 v4 v5 v6 j0 j2 j3 j4 j5 j6
  go_wp2_with fail
  rw [rounds_succ]
  have hK2 := hK.out.keep HB1.out
  have k1 := hK2.at 1
  have kf := hK2.fz 1
  have hc := coll_cnt hK2 3
  have m1 := hc.at 1
  have m2 := hc.at 2
  have hg := hid_of (fun m => set_belowD (kb := kb) (j := 1) (m := m) (v := .int .i64 3) HB1.out)
  clear hK2 hc hR hK
  go_wp2_with fail
  go_quiet (fail)
  go_wp2_with fail
  go_ret
  exact ⟨rfl, hg.out _⟩
end Go.Proofs.YtdghkmgkmfnjjaaGreatDoor
