import Derived.Test.YtgigikcopedoeaaGreatW2
/-! ParseSort of one name. -/
namespace Go.Proofs.YtgigikcopedoeaaGreat
open Go Go.RowKit

def SortAt (w : World) (sb : Nat) (v : Value) : Prop := w.heap[sb]? = some (.cells #[v] 69 (0, 0))
/-- A Sort of the one name a, falling. -/
def TurnsAt (w : World) (sb : Nat) : Prop := ∃ g cg bp cp, SortAt w sb (.slice (some ⟨g, 0, none⟩) 1 cg) ∧ w.cell? ⟨g, 0, none⟩ = some (.slice (some ⟨bp, 0, none⟩) 1 cp) ∧ w.cell? ⟨g, 1, none⟩ = some (.bool true) ∧ w.cell? ⟨bp, 0, none⟩ = some (.string nameA)
theorem TurnsAt.keep {w w' : World} {sb : Nat} (h : TurnsAt w sb) (hb : Below w.heap.size w w') : TurnsAt w' sb := by
  obtain ⟨g, cg, bp, cp, h1, h2, h3, h4⟩ := h
  exact ⟨g, cg, bp, cp, block_keep h1 hb, stay hb h2, stay hb h3, stay hb h4⟩
theorem turn_info : (Tryz.prog.info? 66).map (fun i => (i.zero, i.size, i.bytes)) = some (some (.agg #[.slice none 0 0, .bool false]), 2, 32) := by kernel_rfl
theorem grown_cell {W w4 : World} (h : W.grownBy w4 none) {p : Addr} {v : Value} (hc : W.cell? p = some v) : w4.cell? p = some v := (World.cell?_of_block (h.block _ (lt_of_cell hc) (by simp))).trans hc
theorem grown_fz {W w4 : World} (h : W.grownBy w4 none) {b : Nat} {o : Obj} (hc : W.heap[b]? = some o) : w4.heap[b]? = some o := (h.block _ (Array.getElem?_eq_some_iff.1 hc).1 (by simp)).trans hc
theorem add_fin {w X4 W w4 : World} {sb g cg gp cp : Nat} (HB : Below w.heap.size w X4) (hW : Below X4.heap.size X4 W) (hg : W.grownBy w4 none) (hown : w4.ownsRow w.heap.size 66 2 (.slice (some ⟨g, 0, none⟩) 1 cg) 1 [.slice (some ⟨gp, 0, none⟩) 1 cp, .bool true]) (hcp : X4.cell? ⟨gp, 0, none⟩ = some (.string nameA)) (u4 : w4.heap[sb]? = some (.cells #[.slice none 0 0] 69 (0, 0))) :
    w.grownBy (w4.setCell ⟨sb, 0, none⟩ (.slice (some ⟨g, 0, none⟩) 1 cg)) (some sb) ∧ TurnsAt (w4.setCell ⟨sb, 0, none⟩ (.slice (some ⟨g, 0, none⟩) 1 cg)) sb := by
  have hgne : g ≠ sb := fun e => by
    subst e
    obtain ⟨_, h2⟩ := hown
    rcases h2 with ⟨hv, _⟩ | ⟨g', cap', cur, hv, _, hh, _⟩
    · cases hv
    · cases hv; rw [u4] at hh; simp at hh
  have hp4 := grown_cell hg (stay hW hcp)
  have hpne : gp ≠ sb := fun e => by
    subst e
    simp [World.cell?, u4] at hp4
  have hfar : ∀ j, j ≠ sb → (w4.setCell ⟨sb, 0, none⟩ (.slice (some ⟨g, 0, none⟩) 1 cg)).heap[j]? = w4.heap[j]? := fun j hj => Below.heap_setCell _ _ _ _ hj
  have hB4 : Below w.heap.size w w4 := (HB.trans (hW.mono HB.size)).trans (grown_below hg (by have := HB.size; have := hW.size; omega) (fun g hg => by cases hg))
  refine ⟨⟨hB4.os, hB4.tape, hB4.output, by have := hB4.size; simpa [World.setCell] using this, fun j hj hne => (hfar j (fun e => hne (by rw [e]))).trans (hB4.block j hj)⟩, g, cg, gp, cp, ?_, ?_, ?_, ?_⟩
  · simp [SortAt, World.setCell, Array.getElem?_modify, u4]
  · exact (World.cell?_of_block (hfar g hgne)).trans (hown.cellAt 0 (by decide))
  · exact (World.cell?_of_block (hfar g hgne)).trans (hown.cellAt 1 (by decide))
  · exact (World.cell?_of_block (hfar gp hpne)).trans hp4
set_option maxHeartbeats 2000000 in
set_option maxRecDepth 100000 in
theorem add_a (sb : Nat) (w : World) (hS : SortAt w sb (.slice none 0 0)) :
    Calls Tryz.prog 40 #[.pointer (some ⟨sb, 0, none⟩), .string nameA, numV (-1)] w fun e w' => e = .returned (.int .i64 0) ∧ w.grownBy w' (some sb) ∧ TurnsAt w' sb := by
  have n0 := heap_alloc_new w (numC (-1))
  have HB : Below w.heap.size w (w.alloc (numC (-1))) := (Below.refl _ w).alloc (Nat.le_refl _) _
  have s0 := block_keep hS HB
  have hpar := hid_of (parse_any nameA (by decide) (w.alloc (numC (-1))))
  rw [parsed_a] at hpar
  have hsl := (Array.getElem?_eq_some_iff.1 hS).1
  obtain ⟨i69, hi69, hz0, hz1, hz2⟩ := info_parts turn_info
  clear hS
  unfold numC at n0 HB s0 hpar
  unfold numV
  go_enter Tryz.func40, Tryz.ntmps40
  go_wp2_with fail
  generalize w.alloc (.cells #[.int .i64 3, .int .i64 (-1), .string ⟨#[]⟩, .slice none 0 0, .slice none 0 0] 25) = X0 at HB n0 s0 hpar
  refine hpar.out.mono ?_
  rintro e X1 ⟨sl, rfl, hown, hb1⟩
  obtain ⟨gp, cp, rfl, hgg, hgl⟩ := hown.form (by decide)
  have hcp : X1.cell? ⟨gp, 0, none⟩ = some (.string nameA) := hown.cellAt 0 (by decide)
  replace HB := HB.trans (hb1.mono HB.size)
  have n1 := block_keep n0 hb1
  have s1 := block_keep s0 hb1
  clear hb1 n0 hpar hown s0
  obtain ⟨y0, y1, y2, y3, y4, -⟩ := row_cells n1
  replace y0 := fun o => cell_alloc' y0 o
  replace y1 := fun o => cell_alloc' y1 o
  replace y2 := fun o => cell_alloc' y2 o
  replace y3 := fun o => cell_alloc' y3 o
  replace y4 := fun o => cell_alloc' y4 o
  go_wp2_with fail
  have h2 := heap_alloc_new X1 (.cells #[.slice (some ⟨gp, 0, none⟩) 1 cp] 22)
  have B2 : Below X1.heap.size X1 (X1.alloc (.cells #[.slice (some ⟨gp, 0, none⟩) 1 cp] 22)) := (Below.refl _ X1).alloc (Nat.le_refl _) _
  generalize X1.alloc (.cells #[.slice (some ⟨gp, 0, none⟩) 1 cp] 22) = X2 at h2 B2
  clear y0 y1 y2 y3 y4 n1
  refine (isnum (-1) (-1) true rfl X2).mono ?_
  rintro e X3 ⟨rfl, hb3⟩
  have B3 : Below X1.heap.size X1 X3 := B2.trans (hb3.mono B2.size)
  have h3 := block_keep h2 hb3
  have s3 := block_keep s1 B3
  have hcp3 := stay B3 hcp
  have q3 : X3.cell? ⟨X1.heap.size, 0, none⟩ = some (.slice (some ⟨gp, 0, none⟩) 1 cp) := by simp [World.cell?, h3]
  have t3 : X3.cell? ⟨sb, 0, none⟩ = some (.slice none 0 0) := by simp [World.cell?, s3]
  have f3 : X3.frozen? ⟨sb, 0, none⟩ = false := by simp [World.frozen?, s3]
  replace HB := HB.trans (B3.mono HB.size)
  have hX1 : Hid (X1.heap.size < X3.heap.size) := hid_of (Array.getElem?_eq_some_iff.1 h3).1
  have hsb : Hid (sb < X3.heap.size) := hid_of (Array.getElem?_eq_some_iff.1 s3).1
  clear h2 B2 hb3 B3 h3 s1 hcp hgg hgl
  go_wp2_with (go_at_call 63; refine (contains_turns0 _ 0 _).mono ?_; rintro e X4 ⟨rfl, rfl⟩)
  replace s3 := hid_of s3
  have s3' := fun o => hid_of ((Below.heap_alloc X4 o sb hsb.out).trans s3.out)
  have t3' := fun o => cell_alloc' (W := X4) t3 o
  have q3' := fun o => cell_alloc' (W := X4) q3 o
  go_region_law (refine step_append_lies _ rfl _ _ 67 rfl w.heap.size 66 i69 _ 2 32 Tryz.underlying67 hi69 hz0 hz1 hz2 rfl (by decide) _ 0 ([] : List Value) rfl (World.ownsRow_nil _ _ _ _) _ 1 1 [.slice (some ⟨gp, 0, none⟩) 1 cp, .bool true] rfl rfl (World.news_of_block (heap_new' (by simp))) (by simp [Value.oneCell']) (by decide) (by unfold maxLen; omega) (by omega) (by have := HB.size; simp; omega) _ rfl ?_; intro g cg w4 hown4 hgrow4 hat4 hlt4; have u4 := grown_fz hgrow4 (s3' _).out; have u5 : w4.cell? ⟨sb, 0, none⟩ = some (.slice none 0 0) := (by simp [World.cell?, u4]); have u6 : w4.frozen? ⟨sb, 0, none⟩ = false := (by simp [World.frozen?, u4]))
  all_goals
    go_wp2_with fail
    go_ret
    exact ⟨rfl, add_fin HB (by first | exact below_drew ((Below.refl _ _).alloc (Nat.le_refl _) _) | exact (below_drew (Below.refl _ _)).alloc (Nat.le_refl _) _) hgrow4 hown4 hcp3 u4⟩
/-- What ParseSort answers. -/
def SPost (w : World) (e : Ending) (w' : World) : Prop := Below w.heap.size w w' ∧ ∃ sb, e = .returned (.tuple #[.pointer (some ⟨sb, 0, none⟩), .int .i64 0]) ∧ TurnsAt w' sb
set_option maxHeartbeats 2000000 in
set_option maxRecDepth 100000 in
theorem sort_a (bn cn bi ci : Nat) (w : World) (hn : w.cell? ⟨bn, 0, none⟩ = some (.string nameA)) (hI : NumAt w bi 0 (-1)) :
    Calls Tryz.prog 17 #[objV bn cn bi ci] w (SPost w) := by
  have n0 := heap_alloc_new w (objC bn cn bi ci)
  have HB : Below w.heap.size w (w.alloc (objC bn cn bi ci)) := (Below.refl _ w).alloc (Nat.le_refl _) _
  have hm := fun W => members_a bn cn bi ci W
  have hn0 := stay HB hn
  have hI0 := hI.keep HB
  clear hn hI
  unfold objC at n0 HB hn0 hI0
  unfold objV at *
  go_enter Tryz.func17, Tryz.ntmps17
  go_wp2_with fail
  generalize w.alloc (.cells #[.int .i64 6, .int .i64 0, .string ⟨#[]⟩, .slice (some ⟨bn, 0, none⟩) 1 cn, .slice (some ⟨bi, 0, none⟩) 1 ci] 25) = X0 at HB n0 hn0 hI0
  refine (hm X0).mono ?_
  rintro e X1 ⟨rfl, hb1⟩
  have n1 := block_keep n0 hb1
  have hn1 := stay hb1 hn0
  have hI1 := hI0.keep hb1
  replace HB := HB.trans (hb1.mono HB.size)
  clear hb1 n0 hn0 hI0
  obtain ⟨y0, y1, y2, y3, y4, -⟩ := row_cells n1
  replace y0 := fun o => cell_alloc' y0 o
  replace y1 := fun o => cell_alloc' y1 o
  replace y2 := fun o => cell_alloc' y2 o
  replace y3 := fun o => cell_alloc' y3 o
  replace y4 := fun o => cell_alloc' y4 o
  go_wp2_with fail
  have h2 := heap_alloc_new X1 (.cells #[.slice none 0 0] 69)
  have B2 : Below X1.heap.size X1 (X1.alloc (.cells #[.slice none 0 0] 69)) := (Below.refl _ X1).alloc (Nat.le_refl _) _
  generalize X1.alloc (.cells #[.slice none 0 0] 69) = X2 at h2 B2
  clear y0 y1 y2 y3 y4
  refine (hm X2).mono ?_
  rintro e X3 ⟨rfl, hb3⟩
  have B3 : Below X1.heap.size X1 X3 := B2.trans (hb3.mono B2.size)
  have h3 := block_keep h2 hb3
  have n3 := block_keep n1 B3
  have hn3 := stay B3 hn1
  have hI3 := hI1.keep B3
  replace HB := HB.trans (B3.mono HB.size)
  have hlo : Hid (w.heap.size ≤ X1.heap.size) := hid_of (by have := HB.size; have h1 := (Array.getElem?_eq_some_iff.1 n1).1; omega)
  clear hb3 h2 B2 B3 n1 hn1 hI1
  obtain ⟨y0, y1, y2, y3, y4, -⟩ := row_cells n3
  obtain ⟨z0, z1, z2, z3, z4⟩ := hI3
  simp only [Nat.zero_add] at z1 z2 z3 z4
  have hadd := hid_of (add_a X1.heap.size X3.drew h3)
  unfold numV at hadd
  replace h3 := hid_of h3; replace n3 := hid_of n3
  go_wp2_with fail
  refine wp_loop_rounds 2 ?_
  rw [rounds_succ]
  go_wp2_with fail
  go_region_with (go_at_call 40; go_fit hadd.out; clear hadd; rintro e X5 ⟨rfl, hg5, hT5⟩; replace hg5 := hid_of hg5; replace hT5 := hid_of hT5)
  all_goals
    go_wp2_with fail
    rw [rounds_succ]
    go_wp2_with fail
    go_ret2
    exact ⟨HB.trans ((below_drew (Below.refl _ _)).trans (grown_below hg5.out (by have := HB.size; simpa using this) (fun g hg => by cases hg; exact hlo.out))), _, rfl, hT5.out⟩
end Go.Proofs.YtgigikcopedoeaaGreat
