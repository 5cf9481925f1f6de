import Derived.Test.YtgjemghfejaifaaGreatDoorTD
/-! schema: Check of an object of one member, against properties: minimum 1. -/
namespace Go.Proofs.YtgjemghfejaifaaGreatDoor
open Go Go.RowKit

/-- The schema's rules. -/
structure TopAt (w : World) (r0 p0 mb r1 p1 c1 r2 p2 c2 : Nat) : Prop where
  word : w.cell? ⟨r0, p0, none⟩ = some (.string wProperties)
  rule : w.cell? ⟨r0, p0 + 1, none⟩ = some (.iface 105 (propsV mb r1 p1 c1))
  props : PropsAt w mb r1 p1 r2 p2 c2
theorem TopAt.keep {w w' : World} {r0 p0 mb r1 p1 c1 r2 p2 c2 : Nat} (h : TopAt w r0 p0 mb r1 p1 c1 r2 p2 c2) (hb : Below w.heap.size w w') : TopAt w' r0 p0 mb r1 p1 c1 r2 p2 c2 := ⟨stay hb h.word, stay hb h.rule, h.props.keep hb⟩
set_option maxHeartbeats 2000000 in
set_option maxRecDepth 100000 in
theorem top_keeps (r0 p0 c0 mb r1 p1 c1 r2 p2 c2 bn bi : Nat) (x : Int) (w : World) (h : TopAt w r0 p0 mb r1 p1 c1 r2 p2 c2) (hD : DocN w bn bi x) :
    Calls Tryz.prog 26 #[.slice (some ⟨r0, p0, none⟩) 1 c0, (objU bn bi).v] w fun e w' => e = .returned (.bool (decide (1 ≤ x))) ∧ Below w.heap.size w w' := by
  have hb0 := (Below.refl _ w).alloc (Nat.le_refl _) ((objU bn bi).obj 25)
  have hb1 := hid_of (hb0.alloc hb0.size (.cells #[.string wProperties, .iface 105 (propsV mb r1 p1 c1)] 84))
  have m0 := stay hb0 h.word
  have m1 := stay hb0 h.rule
  have hk := hid_of (props_keeps mb r1 p1 c1 r2 p2 c2 bn bi x _ (h.props.keep hb1.out) (hD.keep hb1.out))
  obtain ⟨z, hz⟩ : ∃ z, Hid (decide (1 ≤ x) = z) := ⟨_, rfl⟩
  rw [hz.out] at hk ⊢
  unfold V5.v V5.obj objU propsV wProperties at *
  simp only at *
  go_enter Tryz.func26, Tryz.ntmps26
  go_wp2_with fail
  refine wp_loop_rounds 2 ?_
  rw [rounds_succ]
  go_wp2_with fail
  refine hk.out.mono ?_
  rintro e W ⟨rfl, hb⟩
  have hB := hid_of (hb1.out.trans (hb.mono hb1.out.size))
  clear hk hb m0 m1 hb0 hb1
  cases z with
  | true =>
    go_wp2_with fail
    rw [rounds_succ]
    go_wp2_with fail
    go_ret
    exact ⟨rfl, hB.out⟩
  | false =>
    go_wp2_with fail
    go_ret
    exact ⟨rfl, hB.out⟩
/-- The schema. -/
structure LiveAt (w : World) (sb r0 p0 c0 mb r1 p1 c1 r2 p2 c2 : Nat) : Prop where
  whole : w.cell? ⟨sb, 0, none⟩ = some (.slice (some ⟨r0, p0, none⟩) 1 c0)
  top : TopAt w r0 p0 mb r1 p1 c1 r2 p2 c2
theorem LiveAt.keep {w w' : World} {sb r0 p0 c0 mb r1 p1 c1 r2 p2 c2 : Nat} (h : LiveAt w sb r0 p0 c0 mb r1 p1 c1 r2 p2 c2) (hb : Below w.heap.size w w') : LiveAt w' sb r0 p0 c0 mb r1 p1 c1 r2 p2 c2 := ⟨stay hb h.whole, h.top.keep hb⟩
set_option maxHeartbeats 4000000 in
set_option maxRecDepth 100000 in
theorem check_live (sb r0 p0 c0 mb r1 p1 c1 r2 p2 c2 bn bi : Nat) (x : Int) (w : World) (h : LiveAt w sb r0 p0 c0 mb r1 p1 c1 r2 p2 c2) (hD : DocN w bn bi x) :
    Calls Tryz.prog 16 #[.pointer (some ⟨sb, 0, none⟩), (objU bn bi).v] w fun e w' => e = .returned (.int .i64 (if 1 ≤ x then 0 else 212)) ∧ Below w.heap.size w w' := by
  have hb0 := (Below.refl _ w).alloc (Nat.le_refl _) ((objU bn bi).obj 25)
  have n0 := heap_alloc_new w ((objU bn bi).obj 25)
  have hL := h.keep hb0
  have hk := hid_of (top_keeps r0 p0 c0 mb r1 p1 c1 r2 p2 c2 bn bi x (w.alloc ((objU bn bi).obj 25)).drew ⟨hL.top.word, hL.top.rule, ⟨hL.top.props.nums, hL.top.props.sch, ⟨hL.top.props.min.word, hL.top.props.min.rule⟩⟩⟩ (by have := hD.keep hb0; exact ⟨this.name, this.i0, this.i1, this.i2, this.i3, this.i4⟩))
  have w0 : (w.alloc ((objU bn bi).obj 25)).drew.cell? ⟨sb, 0, none⟩ = some (.slice (some ⟨r0, p0, none⟩) 1 c0) := hL.whole
  have hB1 : Hid (Below w.heap.size w (w.alloc ((objU bn bi).obj 25)).drew) := below_drew hb0
  obtain ⟨z, hz⟩ : ∃ z, Hid ((if 1 ≤ x then 0 else 212 : Int) = z) := ⟨_, rfl⟩
  obtain ⟨y, hy⟩ : ∃ y, Hid (decide (1 ≤ x) = y) := ⟨_, rfl⟩
  have hzy : Hid (z = if y = true then 0 else 212) := by rw [Hid, ← hz.out, ← hy.out]; simp
  rw [hz.out]
  rw [hy.out] at hk
  unfold V5.v V5.obj objU at *
  simp only at *
  obtain ⟨y0, y1, y2, y3, y4, -⟩ := row_cells (w := (w.alloc (.cells #[.int .i64 6, .int .i64 0, .string ⟨#[]⟩, .slice (some ⟨bn, 0, none⟩) 1 1, .slice (some ⟨bi, 0, none⟩) 1 1] 25)).drew) n0
  clear n0 hL h hD hb0
  go_enter Tryz.func16, Tryz.ntmps16
  go_upto_region 1 with fail
  go_region_held3 (fun V => V.cell? ⟨sb, 0, none⟩ = some (.slice (some ⟨r0, p0, none⟩) 1 c0) ∧ V.cell? ⟨w.heap.size, 0, none⟩ = some (.int .i64 6) ∧ V.cell? ⟨w.heap.size, 1, none⟩ = some (.int .i64 0) ∧ V.cell? ⟨w.heap.size, 2, none⟩ = some (.string ⟨#[]⟩) ∧ V.cell? ⟨w.heap.size, 3, none⟩ = some (.slice (some ⟨bn, 0, none⟩) 1 1) ∧ V.cell? ⟨w.heap.size, 4, none⟩ = some (.slice (some ⟨bi, 0, none⟩) 1 1)) (go_keep) (first
    | (go_at_call 26; refine hk.out.mono ?_; rintro e W3 ⟨rfl, hb3⟩; have b1 := stay hb3 w0; have j0 := stay hb3 y0; have j1 := stay hb3 y1; have j2 := stay hb3 y2; have j3 := stay hb3 y3; have j4 := stay hb3 y4; have hB4 := hid_of (hB1.out.trans (hb3.mono hB1.out.size)); clear hb3 w0 y0 y1 y2 y3 y4))
  all_goals
    clear b1 j0 j1 j2 j3 j4 hk
    cases y with
    | true =>
      have hz0 : z = 0 := hzy.out
      subst hz0
      go_wp2_with fail
      go_ret
      exact ⟨rfl, hB4.out⟩
    | false =>
      have hz0 : z = 212 := hzy.out
      subst hz0
      go_wp2_with fail
      go_ret
      exact ⟨rfl, hB4.out⟩
end Go.Proofs.YtgjemghfejaifaaGreatDoor
