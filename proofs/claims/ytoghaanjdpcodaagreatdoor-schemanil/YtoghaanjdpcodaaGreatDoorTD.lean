import Derived.Test.YtoghaanjdpcodaaGreatDoorTC
/-! schema: properties of one member: kept; sorted. -/
namespace Go.Proofs.YtoghaanjdpcodaaGreatDoor
open Go Go.RowKit

set_option maxHeartbeats 1000000 in
set_option maxRecDepth 100000 in
theorem ins_one (g c : Nat) (f : Value) (w : World) : Calls Tryz.prog 92 #[.slice (some ⟨g, 0, none⟩) 1 c, .int .i64 0, .int .i64 1, f] w fun e w' => e = .returned (.tuple #[]) ∧ Below w.heap.size w w' := by
  go_enter Tryz.func92, Tryz.ntmps92
  go_wp2_with fail
  refine wp_loop_rounds 1 ?_
  rw [rounds_succ]
  go_wp2_with fail
  go_end0
  exact ⟨rfl, Below.refl _ _⟩
set_option maxHeartbeats 1000000 in
set_option maxRecDepth 100000 in
theorem stable_one (g c : Nat) (f : Value) (w : World) : Calls Tryz.prog 90 #[.slice (some ⟨g, 0, none⟩) 1 c, .int .i64 1, f] w fun e w' => e = .returned (.tuple #[]) ∧ Below w.heap.size w w' := by
  have hi := fun W => hid_of (ins_one g c f W)
  go_enter Tryz.func90, Tryz.ntmps90
  go_wp2_with fail
  refine wp_loop_rounds 1 ?_
  rw [rounds_succ]
  go_wp2_with fail
  refine (hi _).out.mono ?_
  rintro e W ⟨rfl, hb⟩
  have hB := hid_of hb
  clear hb hi
  go_wp2_with fail
  refine wp_loop_rounds 1 ?_
  rw [rounds_succ]
  go_wp2_with fail
  go_end0
  exact ⟨rfl, hB.out⟩
set_option maxHeartbeats 1000000 in
set_option maxRecDepth 100000 in
theorem sort_one (g c : Nat) (f : Value) (w : World) : Calls Tryz.prog 87 #[.slice (some ⟨g, 0, none⟩) 1 c, f] w fun e w' => e = .returned (.tuple #[]) ∧ Below w.heap.size w w' := by
  have hi := fun W => hid_of (stable_one g c f W)
  go_enter Tryz.func87, Tryz.ntmps87
  go_wp2_with fail
  refine (hi _).out.mono ?_
  rintro e W ⟨rfl, hb⟩
  have hB := hid_of hb
  clear hb hi
  go_wp2_with fail
  go_end0
  exact ⟨rfl, hB.out⟩
/-- A schema's one rule, properties: "n": minimum 1, in memory. -/
structure PropsAt (w : World) (mb r1 p1 r2 p2 c2 : Nat) : Prop where
  nums : NumsAt w mb 1 (numsD [wN])
  sch : w.cell? ⟨r1, p1, none⟩ = some (.slice (some ⟨r2, p2, none⟩) 1 c2)
  min : MinAt w r2 p2
theorem PropsAt.keep {w w' : World} {mb r1 p1 r2 p2 c2 : Nat} (h : PropsAt w mb r1 p1 r2 p2 c2) (hb : Below w.heap.size w w') : PropsAt w' mb r1 p1 r2 p2 c2 := ⟨h.nums.keep (hb.block _ h.nums.lt), stay hb h.sch, h.min.keep hb⟩
set_option maxHeartbeats 4000000 in
set_option maxRecDepth 100000 in
theorem props_keeps (mb r1 p1 c1 r2 p2 c2 bn bi : Nat) (x : Int) (w : World) (h : PropsAt w mb r1 p1 r2 p2 c2) (hD : DocN w bn bi x) :
    Calls Tryz.prog 84 #[propsV mb r1 p1 c1, (objU bn bi).v] w fun e w' => e = .returned (.bool (decide (1 ≤ x))) ∧ Below w.heap.size w w' := by
  have hb0 := (Below.refl _ w).alloc (Nat.le_refl _) (.cells #[.map (some mb), .slice (some ⟨r1, p1, none⟩) 1 c1] 92)
  have hb1 := hid_of (hb0.alloc hb0.size ((objU bn bi).obj 28))
  have n1 := new1 w (.cells #[.map (some mb), .slice (some ⟨r1, p1, none⟩) 1 c1] 92) ((objU bn bi).obj 28)
  have n2 := new2 w (.cells #[.map (some mb), .slice (some ⟨r1, p1, none⟩) 1 c1] 92) ((objU bn bi).obj 28)
  have hnm := hid_of (named_n mb r1 p1 c1 bn bi _ (h.keep hb1.out).nums (hD.keep hb1.out).name)
  obtain ⟨z, hz⟩ : ∃ z, Hid (decide (1 ≤ x) = z) := ⟨_, rfl⟩
  rw [hz.out]
  unfold propsV at *
  unfold V5.obj V5.v objU at *
  simp only at *
  go_enter Tryz.func84, Tryz.ntmps84
  go_wp2_with fail
  refine hnm.out.mono ?_
  rintro e W ⟨hb, g, c, rfl, hc, hg, g0, g1⟩
  have hB := hid_of (hb1.out.trans (hb.mono hb1.out.size))
  have q1 := block_keep n1 hb
  have q2 := block_keep n2 hb
  have hg' := hid_of (lt_of_cell g0)
  clear hnm n1 n2 hb hb0 hb1
  go_wp2_with fail
  refine wp_loop_rounds 2 ?_
  rw [rounds_succ]
  have hB2 := hid_of (hB.out.alloc hB.out.size (.cells #[.int .i64 0, .int .i64 0] 147))
  have k3 := heap_alloc_new W (.cells #[.int .i64 0, .int .i64 0] 147)
  have k1 := (Below.heap_alloc W (.cells #[.int .i64 0, .int .i64 0] 147) _ (Array.getElem?_eq_some_iff.1 q1).1).trans q1
  have k2 := (Below.heap_alloc W (.cells #[.int .i64 0, .int .i64 0] 147) _ (Array.getElem?_eq_some_iff.1 q2).1).trans q2
  go_upto_region 4 with fail
  generalize W.alloc (.cells #[.int .i64 0, .int .i64 0] 147) = W2 at *
  have hP := h.keep hB2.out
  have hDD := hD.keep hB2.out
  have a1 : W2.drew.cell? ⟨w.heap.size, 1, none⟩ = some (.slice (some ⟨r1, p1, none⟩) 1 c1) := cell_of k1 1
  have a2 : W2.drew.cell? ⟨w.heap.size + 1, 4, none⟩ = some (.slice (some ⟨bi, 0, none⟩) 1 1) := cell_of k2 4
  have a3 : W2.drew.cell? ⟨W.heap.size, 0, none⟩ = some (.int .i64 0) := cell_of k3 0
  have a4 : W2.drew.cell? ⟨W.heap.size, 1, none⟩ = some (.int .i64 0) := cell_of k3 1
  have a5 : W2.drew.cell? ⟨r1, p1, none⟩ = some (.slice (some ⟨r2, p2, none⟩) 1 c2) := hP.sch
  have i0 : W2.drew.cell? ⟨bi, 0, none⟩ = some (.int .i64 3) := hDD.i0
  have i1 : W2.drew.cell? ⟨bi, 1, none⟩ = some (.int .i64 x) := hDD.i1
  have i2 : W2.drew.cell? ⟨bi, 2, none⟩ = some (.string ⟨#[]⟩) := hDD.i2
  have i3 : W2.drew.cell? ⟨bi, 3, none⟩ = some (.slice none 0 0) := hDD.i3
  have i4 : W2.drew.cell? ⟨bi, 4, none⟩ = some (.slice none 0 0) := hDD.i4
  have hk := hid_of (min_keeps r2 p2 c2 x W2.drew ⟨hP.min.word, hP.min.rule⟩)
  rw [hz.out] at hk
  unfold numU V5.v at hk
  simp only at hk
  have hB3 : Hid (Below w.heap.size w W2.drew) := below_drew hB2.out
  clear hP hDD k1 k2 k3 q1 q2 g0 g1 h hD hB hB2
  go_region_held3 (fun V => V.cell? ⟨w.heap.size, 1, none⟩ = some (.slice (some ⟨r1, p1, none⟩) 1 c1) ∧ V.cell? ⟨w.heap.size + 1, 4, none⟩ = some (.slice (some ⟨bi, 0, none⟩) 1 1) ∧ V.cell? ⟨W.heap.size, 0, none⟩ = some (.int .i64 0) ∧ V.cell? ⟨W.heap.size, 1, none⟩ = some (.int .i64 0) ∧ V.cell? ⟨r1, p1, none⟩ = some (.slice (some ⟨r2, p2, none⟩) 1 c2) ∧ V.cell? ⟨bi, 0, none⟩ = some (.int .i64 3) ∧ V.cell? ⟨bi, 1, none⟩ = some (.int .i64 x) ∧ V.cell? ⟨bi, 2, none⟩ = some (.string ⟨#[]⟩) ∧ V.cell? ⟨bi, 3, none⟩ = some (.slice none 0 0) ∧ V.cell? ⟨bi, 4, none⟩ = some (.slice none 0 0)) (go_keep) (first
    | (go_at_call 16; refine hk.out.mono ?_; rintro e W3 ⟨rfl, hb3⟩; have b1 := stay hb3 a1; have b2 := stay hb3 a2; have b3 := stay hb3 a3; have b4 := stay hb3 a4; have b5 := stay hb3 a5; have j0 := stay hb3 i0; have j1 := stay hb3 i1; have j2 := stay hb3 i2; have j3 := stay hb3 i3; have j4 := stay hb3 i4; have hB4 := hid_of (hB3.out.trans (hb3.mono hB3.out.size)); clear hb3 a1 a2 a3 a4 a5 i0 i1 i2 i3 i4))
  all_goals
    clear b1 b2 b3 b4 b5 j0 j1 j2 j3 j4 hk
    cases z with
    | true =>
      go_wp2_with fail
      rw [rounds_succ]
      go_wp2_with fail
      go_ret
      exact ⟨rfl, hB4.out⟩
    | false =>
      go_wp2_with fail
      go_ret
      exact ⟨rfl, hB4.out⟩
end Go.Proofs.YtoghaanjdpcodaaGreatDoor
