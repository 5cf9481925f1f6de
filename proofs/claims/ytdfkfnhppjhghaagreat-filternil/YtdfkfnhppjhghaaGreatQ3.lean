import Derived.Test.YtdfkfnhppjhghaaGreatQ2
/-! order.Compare of two numbers, and the closures of $gt. -/
namespace Go.Proofs.YtdfkfnhppjhghaaGreat
open Go Go.RowKit

theorem hid_of {p : Prop} (h : p) : Hid p := h
theorem below_drew {B : Nat} {x w : World} (h : Below B x w) : Below B x w.drew := ⟨h.os, h.tape, h.output, h.size, h.block⟩
theorem new1 (w : World) (o o' : Obj) : ((w.alloc o).alloc o').heap[w.heap.size]? = some o := by
  rw [Below.heap_alloc _ _ _ (by simp)]
  exact heap_alloc_new w o
theorem new2 (w : World) (o o' : Obj) : ((w.alloc o).alloc o').heap[w.heap.size + 1]? = some o' := by
  have := heap_alloc_new (w.alloc o) o'
  rw [World.size_alloc] at this
  exact this
theorem row_cells {w : World} {B : Nat} {c0 c1 c2 c3 c4 : Value} {t : TypeId} (h : w.heap[B]? = some (.cells #[c0, c1, c2, c3, c4] t (0, 0))) : w.cell? ⟨B, 0, none⟩ = some c0 ∧ w.cell? ⟨B, 1, none⟩ = some c1 ∧ w.cell? ⟨B, 2, none⟩ = some c2 ∧ w.cell? ⟨B, 3, none⟩ = some c3 ∧ w.cell? ⟨B, 4, none⟩ = some c4 ∧ ∀ j, w.frozen? ⟨B, j, none⟩ = false := by
  refine ⟨?_, ?_, ?_, ?_, ?_, fun j => ?_⟩
  all_goals simp [World.cell?, World.frozen?, h]

theorem add_off (b o j : Nat) : (⟨b, o, none⟩ : Addr).add j = ⟨b, o + j, none⟩ := by unfold Addr.add; split <;> simp_all
theorem lt_of_cell {W : World} {p : Addr} {v : Value} (h : W.cell? p = some v) : p.block < W.heap.size := by
  rcases Nat.lt_or_ge p.block W.heap.size with h' | h'
  · exact h'
  · simp [World.cell?, Array.getElem?_eq_none h'] at h

theorem cell_alloc' {W : World} {p : Addr} {v : Value} (h : W.cell? p = some v) (o : Obj) : (W.alloc o).cell? p = some v := (World.cell?_of_block (w := W) (a := p) (Below.heap_alloc _ _ _ (lt_of_cell h))).trans h
theorem stay {w w' : World} (h : Below w.heap.size w w') {p : Addr} {v : Value} (hc : w.cell? p = some v) : w'.cell? p = some v := (h.cell (lt_of_cell hc)).trans hc


theorem block_keep {w wx : World} {g : Nat} {o : Obj} (h : w.heap[g]? = some o) (hb : Below w.heap.size w wx) : wx.heap[g]? = some o := (hb.block _ (Array.getElem?_eq_some_iff.1 h).1).trans h
set_option maxHeartbeats 1000000 in
set_option maxRecDepth 100000 in
theorem compare_num (x : Int) (hx : x = 4 ∨ x = 5) (w : World) : Calls Tryz.prog 85 #[numV x, numV 4] w fun e w' => e = .returned (.int .i64 (cmpZ x)) ∧ Below w.heap.size w w' := by
  have h0 := new1 w (numC x) (numC 4)
  have h1 := new2 w (numC x) (numC 4)
  have HB : Below w.heap.size w ((w.alloc (numC x)).alloc (numC 4)) := ((Below.refl _ w).alloc (Nat.le_refl _) _).alloc (by simp) _
  have hr := fun y W => hid_of (rank_num y W)
  have hc := fun W => hid_of (cmp_four x hx W)
  unfold numC at h0 h1 HB
  unfold numV at *
  go_enter Tryz.func85, Tryz.ntmps85
  go_wp2_with fail
  generalize (w.alloc (.cells #[.int .i64 3, .int .i64 x, .string ⟨#[]⟩, .slice none 0 0, .slice none 0 0] 28)).alloc (.cells #[.int .i64 3, .int .i64 4, .string ⟨#[]⟩, .slice none 0 0, .slice none 0 0] 28) = X at h0 h1 HB
  obtain ⟨y0, y1, y2, y3, y4, -⟩ := row_cells h0
  obtain ⟨z0, z1, z2, z3, z4, -⟩ := row_cells h1
  refine wp_region_quiet (C := fun w' => Below X.heap.size X w') (by kernel_rfl) (by kernel_rfl) (below_drewN (Below.refl _ _) 1) ?_
  refine wpQuiet_step (fun K hK => ?_)
  refine ⟨.agg #[.int .i64 3, .int .i64 x, .string ⟨#[]⟩, .slice none 0 0, .slice none 0 0], fun w' hw' => ?_, hK _ ?_⟩
  · have t0 := stay hw' y0
    have t1 := stay hw' y1
    have t2 := stay hw' y2
    have t3 := stay hw' y3
    have t4 := stay hw' y4
    go_simp
  clear hK K
  refine wpQuiet_step (fun K hK => ?_)
  refine ⟨.int .i64 1, fun w' hw' => ?_, hK _ ?_⟩
  · go_simp
    refine ((hr _ w').out).mono ?_
    rintro e w'' ⟨rfl, hb⟩
    exact ⟨rfl, hw'.trans (hb.mono hw'.size)⟩
  clear hK K
  refine wpQuiet_step (fun K hK => ?_)
  refine ⟨.agg #[.int .i64 3, .int .i64 4, .string ⟨#[]⟩, .slice none 0 0, .slice none 0 0], fun w' hw' => ?_, hK _ ?_⟩
  · have t0 := stay hw' z0
    have t1 := stay hw' z1
    have t2 := stay hw' z2
    have t3 := stay hw' z3
    have t4 := stay hw' z4
    go_simp
  clear hK K
  refine wpQuiet_step (fun K hK => ?_)
  refine ⟨.int .i64 1, fun w' hw' => ?_, hK _ ?_⟩
  · go_simp
    refine ((hr _ w').out).mono ?_
    rintro e w'' ⟨rfl, hb⟩
    exact ⟨rfl, hw'.trans (hb.mono hw'.size)⟩
  clear hK K
  refine wpQuiet_step (fun K hK => ?_)
  refine ⟨.int .i64 0, fun w' hw' => ?_, hK _ ?_⟩
  · go_simp
    refine (cmp_one w').mono ?_
    rintro e w'' ⟨rfl, rfl⟩
    exact ⟨rfl, hw'⟩
  clear hK K
  refine wpQuiet_step (fun K hK => ?_)
  go_simp
  refine ⟨_, fun _ _ => rfl, hK _ ?_⟩
  clear hK K
  refine wpQuiet_nil ?_
  intro Y hY
  have k0 := stay hY y0; have k1 := stay hY y1; have k2 := stay hY z1
  go_wp2_with (go_at_call 116; refine (hc _).out.mono ?_; rintro e w' ⟨rfl, rfl⟩)
  go_ret
  exact ⟨rfl, HB.trans (hY.mono HB.size)⟩
theorem gtr_any (c : Int) (w : World) : Calls Tryz.prog 56 #[.int .i64 c] w fun e w' => e = .returned (.bool (decide (0 < c))) ∧ w' = w := by
  go_enter Tryz.func56, Tryz.ntmps56
  go_wp2
  go_ret
  exact ⟨rfl, rfl⟩
/-- Five cells of a number. -/
def NumAt (w : World) (b o : Nat) (x : Int) : Prop := w.cell? ⟨b, o, none⟩ = some (.int .i64 3) ∧ w.cell? ⟨b, o + 1, none⟩ = some (.int .i64 x) ∧ w.cell? ⟨b, o + 2, none⟩ = some (.string ⟨#[]⟩) ∧ w.cell? ⟨b, o + 3, none⟩ = some (.slice none 0 0) ∧ w.cell? ⟨b, o + 4, none⟩ = some (.slice none 0 0)
theorem NumAt.keep {w w' : World} {b o : Nat} {x : Int} (h : NumAt w b o x) (hb : Below w.heap.size w w') : NumAt w' b o x := ⟨stay hb h.1, stay hb h.2.1, stay hb h.2.2.1, stay hb h.2.2.2.1, stay hb h.2.2.2.2⟩
set_option maxHeartbeats 1000000 in
set_option maxRecDepth 100000 in
theorem like_num (x : Int) (hx : x = 4 ∨ x = 5) (b3 b2 : Nat) (w : World) (h3 : NumAt w b3 0 4) (h2 : w.cell? ⟨b2, 0, none⟩ = some (.func (.func 56) #[] #[])) :
    Calls Tryz.prog 83 #[numV x, .pointer (some ⟨b3, 0, none⟩), .pointer (some ⟨b2, 0, none⟩)] w fun e w' => e = .returned (.bool (decide (0 < cmpZ x))) ∧ Below w.heap.size w w' := by
  have h0 := heap_alloc_new w (numC x)
  have HB : Below w.heap.size w (w.alloc (numC x)) := (Below.refl _ w).alloc (Nat.le_refl _) _
  have hcl := fun y W => hid_of (class_num y W)
  have hcm := fun W => hid_of (compare_num x hx W)
  obtain ⟨z0, z1, z2, z3, z4⟩ := h3.keep HB
  have g2 := stay HB h2
  clear h3 h2
  unfold numC at h0 HB z0 z1 z2 z3 z4 g2
  unfold numV at *
  go_enter Tryz.func83, Tryz.ntmps83
  go_wp2_with fail
  generalize w.alloc (.cells #[.int .i64 3, .int .i64 x, .string ⟨#[]⟩, .slice none 0 0, .slice none 0 0] 28) = X at h0 HB z0 z1 z2 z3 z4 g2
  obtain ⟨y0, y1, y2, y3, y4, -⟩ := row_cells h0
  refine wp_region_quiet (C := fun w' => Below X.heap.size X w') (by kernel_rfl) (by kernel_rfl) (below_drewN (Below.refl _ _) 1) ?_
  refine wpQuiet_step (fun K hK => ?_)
  refine ⟨.agg #[.int .i64 3, .int .i64 x, .string ⟨#[]⟩, .slice none 0 0, .slice none 0 0], fun w' hw' => ?_, hK _ ?_⟩
  · have t0 := stay hw' y0
    have t1 := stay hw' y1
    have t2 := stay hw' y2
    have t3 := stay hw' y3
    have t4 := stay hw' y4
    go_simp
  clear hK K
  refine wpQuiet_step (fun K hK => ?_)
  refine ⟨.int .i64 3, fun w' hw' => ?_, hK _ ?_⟩
  · go_simp
    refine ((hcl _ w').out).mono ?_
    rintro e w'' ⟨rfl, hb⟩
    exact ⟨rfl, hw'.trans (hb.mono hw'.size)⟩
  clear hK K
  refine wpQuiet_step (fun K hK => ?_)
  refine ⟨.agg #[.int .i64 3, .int .i64 4, .string ⟨#[]⟩, .slice none 0 0, .slice none 0 0], fun w' hw' => ?_, hK _ ?_⟩
  · have t0 := stay hw' z0
    have t1 := stay hw' z1
    have t2 := stay hw' z2
    have t3 := stay hw' z3
    have t4 := stay hw' z4
    go_simp
  clear hK K
  refine wpQuiet_step (fun K hK => ?_)
  refine ⟨.int .i64 3, fun w' hw' => ?_, hK _ ?_⟩
  · go_simp
    refine ((hcl _ w').out).mono ?_
    rintro e w'' ⟨rfl, hb⟩
    exact ⟨rfl, hw'.trans (hb.mono hw'.size)⟩
  clear hK K
  refine wpQuiet_step (fun K hK => ?_)
  go_simp
  refine ⟨_, fun _ _ => rfl, hK _ ?_⟩
  clear hK K
  refine wpQuiet_step (fun K hK => ?_)
  go_simp
  refine ⟨_, fun _ _ => rfl, hK _ ?_⟩
  clear hK K
  refine wpQuiet_step (fun K hK => ?_)
  refine ⟨.func (.func 56) #[] #[], fun w' hw' => ?_, hK _ ?_⟩
  · have t0 := stay hw' g2
    go_simp
  clear hK K
  refine wpQuiet_step (fun K hK => ?_)
  refine ⟨.agg #[.int .i64 3, .int .i64 x, .string ⟨#[]⟩, .slice none 0 0, .slice none 0 0], fun w' hw' => ?_, hK _ ?_⟩
  · have t0 := stay hw' y0
    have t1 := stay hw' y1
    have t2 := stay hw' y2
    have t3 := stay hw' y3
    have t4 := stay hw' y4
    go_simp
  clear hK K
  refine wpQuiet_step (fun K hK => ?_)
  refine ⟨.agg #[.int .i64 3, .int .i64 4, .string ⟨#[]⟩, .slice none 0 0, .slice none 0 0], fun w' hw' => ?_, hK _ ?_⟩
  · have t0 := stay hw' z0
    have t1 := stay hw' z1
    have t2 := stay hw' z2
    have t3 := stay hw' z3
    have t4 := stay hw' z4
    go_simp
  clear hK K
  refine wpQuiet_step (fun K hK => ?_)
  refine ⟨.int .i64 (cmpZ x), fun w' hw' => ?_, hK _ ?_⟩
  · go_simp
    refine ((hcm w').out).mono ?_
    rintro e w'' ⟨rfl, hb⟩
    exact ⟨rfl, hw'.trans (hb.mono hw'.size)⟩
  clear hK K
  refine wpQuiet_step (fun K hK => ?_)
  refine ⟨.bool (decide (0 < cmpZ x)), fun w' hw' => ?_, hK _ ?_⟩
  · go_simp
    refine (gtr_any _ w').mono ?_
    rintro e w'' ⟨rfl, rfl⟩
    exact ⟨rfl, hw'⟩
  clear hK K
  refine wpQuiet_step (fun K hK => ?_)
  go_simp
  refine ⟨_, fun _ _ => rfl, hK _ ?_⟩
  clear hK K
  refine wpQuiet_step (fun K hK => ?_)
  go_simp
  refine ⟨_, fun _ _ => rfl, hK _ ?_⟩
  clear hK K
  refine wpQuiet_nil ?_
  intro Y hY
  go_wp2_with fail
  go_ret
  exact ⟨rfl, HB.trans (hY.mono HB.size)⟩
end Go.Proofs.YtdfkfnhppjhghaaGreat
