import Derived.Test.YtgigikcopedoeaaGreatW4
import Derived.Test.YtgigikcopedoeaaGreatW3
/-! ParseFields of one name. -/
namespace Go.Proofs.YtgigikcopedoeaaGreat
open Go Go.RowKit

def FieldsAt (w : World) (fb : Nat) : Prop := ∃ tb, w.heap[fb]? = some (.cells #[.bool false, .pointer (some ⟨tb, 0, none⟩)] 62 (0, 0)) ∧ TreeA w tb
theorem FieldsAt.keep {w w' : World} {fb : Nat} (h : FieldsAt w fb) (hb : Below w.heap.size w w') : FieldsAt w' fb := by
  obtain ⟨tb, h1, h2⟩ := h
  exact ⟨tb, block_keep h1 hb, h2.keep hb⟩
def GPost (w : World) (e : Ending) (w' : World) : Prop := Below w.heap.size w w' ∧ ∃ fb, e = .returned (.tuple #[.pointer (some ⟨fb, 0, none⟩), .int .i64 0]) ∧ FieldsAt w' fb
theorem paths_info : (Tryz.prog.info? 22).map (fun i => (i.zero, i.size, i.bytes)) = some (some (.slice none 0 0), 1, 24) := by kernel_rfl
set_option maxHeartbeats 2000000 in
set_option maxRecDepth 100000 in
theorem fields_a (bn cn bi ci : Nat) (w : World) (hn : w.cell? ⟨bn, 0, none⟩ = some (.string nameA)) (hI : NumAt w bi 0 0) :
    Calls Tryz.prog 29 #[objV bn cn bi ci] w (GPost w) := by
  have n0 := heap_alloc_new w (objC bn cn bi ci)
  have HB : Below w.heap.size w (w.alloc (objC bn cn bi ci)) := (Below.refl _ w).alloc (Nat.le_refl _) _
  have hm := fun W => members_a bn cn bi ci W
  have hn0 := stay HB hn
  have hI0 := hI.keep HB
  clear hn hI
  obtain ⟨i30, hi30, hz0, hz1, hz2⟩ := info_parts paths_info
  unfold objC at n0 HB hn0 hI0
  unfold objV at *
  go_enter Tryz.func29, Tryz.ntmps29
  go_wp2_with fail
  generalize w.alloc (.cells #[.int .i64 6, .int .i64 0, .string ⟨#[]⟩, .slice (some ⟨bn, 0, none⟩) 1 cn, .slice (some ⟨bi, 0, none⟩) 1 ci] 25) = X0 at HB n0 hn0 hI0
  refine (hm X0).mono ?_
  rintro e X1 ⟨rfl, hb1⟩
  have n1 := block_keep n0 hb1
  have hn1 := stay hb1 hn0
  have hI1 := hI0.keep hb1
  replace HB := HB.trans (hb1.mono HB.size)
  clear hb1 n0 hn0 hI0
  obtain ⟨y0, y1, y2, y3, y4, -⟩ := row_cells n1
  go_wp2_with fail
  refine (hm X1).mono ?_
  rintro e X2 ⟨rfl, hb2⟩
  have n2 := block_keep n1 hb2
  have hn2 := stay hb2 hn1
  have hI2 := hI1.keep hb2
  replace HB := HB.trans (hb2.mono HB.size)
  clear hb2 n1 hn1 hI1 y0 y1 y2 y3 y4
  obtain ⟨y0, y1, y2, y3, y4, -⟩ := row_cells n2
  obtain ⟨z0, z1, z2, z3, z4⟩ := id hI2
  simp only [Nat.zero_add] at z1 z2 z3 z4
  replace hI2 := hid_of hI2
  go_wp2_with fail
  refine (isnum 0 1 false rfl X2).mono ?_
  rintro e X3 ⟨rfl, hb3⟩
  have n3 := block_keep n2 hb3
  have hn3 := stay hb3 hn2
  have hI3 := hI2.out.keep hb3
  replace HB := HB.trans (hb3.mono HB.size)
  clear hb3 n2 hn2 hI2 y0 y1 y2 y3 y4 z0 z1 z2 z3 z4
  obtain ⟨y0, y1, y2, y3, y4, -⟩ := row_cells n3
  go_wp2_with fail
  refine (hm X3).mono ?_
  rintro e X4 ⟨rfl, hb4⟩
  have n4 := block_keep n3 hb4
  have hn4 := stay hb4 hn3
  have hI4 := hI3.keep hb4
  replace HB := HB.trans (hb4.mono HB.size)
  clear hb4 n3 hn3 hI3 y0 y1 y2 y3 y4
  obtain ⟨y0, y1, y2, y3, y4, -⟩ := row_cells n4
  obtain ⟨z0, z1, z2, z3, z4⟩ := hI4
  simp only [Nat.zero_add] at z1 z2 z3 z4
  have hf := hid_of (field_a X4.drew)
  unfold numV at hf
  go_wp2_with fail
  refine wp_loop_rounds 2 ?_
  rw [rounds_succ]
  go_wp2_with fail
  replace n4 := hid_of n4
  go_region_with (go_at_call 52; go_fit hf.out; clear hf; rintro e X5 ⟨hb5', gp, cp, rfl, hcp5⟩; have hb5 : Below X4.heap.size X4 X5 := (below_drew (Below.refl _ _)).trans hb5'; clear hb5')
  all_goals
    replace HB := HB.trans (hb5.mono HB.size)
    clear y0 y1 y2 y3 y4 z0 z1 z2 z3 z4 hn4
    go_wp2_with (at_builtin; refine wpList_append_lies _ rfl _ _ 89 rfl w.heap.size 22 i30 _ 1 24 Tryz.underlying89 hi30 hz0 hz1 hz2 rfl (by decide) _ 0 ([] : List Value) rfl (World.ownsRow_nil _ _ _ _) _ 1 1 [.slice (some ⟨gp, 0, none⟩) 1 cp] rfl rfl (World.news_of_block (heap_new' (by simp))) (by simp [Value.oneCell']) (by decide) (by unfold maxLen; omega) (by omega) (by have := HB.size; simp; omega) _ rfl ?_; intro g cg X6 hown6 hgrow6 hat6 hlt6)
    rw [rounds_succ]
    go_wp2_with fail
    have hcell : X6.cell? ⟨g, 0, none⟩ = some (.slice (some ⟨gp, 0, none⟩) 1 cp) := hown6.cellAt 0 (by decide)
    have hp6 : X6.cell? ⟨gp, 0, none⟩ = some (.string nameA) := grown_cell hgrow6 (cell_alloc' hcp5 _)
    have HB6 : Below w.heap.size w X6 := (HB.alloc HB.size _).trans (grown_below hgrow6 (by have := HB.size; simp; omega) (fun g hg => by cases hg))
    clear hown6 hgrow6 hat6 hlt6
    refine (tree_a g cg gp cp X6 hcell hp6).mono ?_
    rintro e X7 ⟨hb7, tb, rfl, hT7⟩
    replace hT7 := hid_of hT7
    clear hcell hp6 hcp5
    go_wp2_with fail
    go_ret2
    exact ⟨(HB6.trans (hb7.mono HB6.size)).alloc (by have h1 := HB6.size; have h2 := hb7.size; omega) _, _, rfl, tb, heap_alloc_new X7 _, hT7.out.keep ((Below.refl _ X7).alloc (Nat.le_refl _) _)⟩
end Go.Proofs.YtgigikcopedoeaaGreat
