import Derived.Test.YtdghkmgkmfnjjaaGreatDoorJO
/-! Where a range of entries begins and ends. -/
namespace Go.Proofs.YtdghkmgkmfnjjaaGreatDoor
open Go Go.RowKit

set_option maxHeartbeats 1000000 in
theorem class_num (x : Int) (w : World) : Calls Tryz.prog 67 #[.agg #[.int .i64 3, .int .i64 x, .string ⟨#[]⟩, .slice none 0 0, .slice none 0 0]] w fun e w' => e = .returned (.int .i64 1) ∧ Below w.heap.size w w' := by
  have HB : Below w.heap.size w (w.alloc (.cells #[.int .i64 3, .int .i64 x, .string ⟨#[]⟩, .slice none 0 0, .slice none 0 0] 25)) := (Below.refl _ w).alloc (Nat.le_refl _) _
  have hr := hid_of (rank_num x (w.alloc (.cells #[.int .i64 3, .int .i64 x, .string ⟨#[]⟩, .slice none 0 0, .slice none 0 0] 25)))
  unfold numV at hr
  go_enter Tryz.func67, Tryz.ntmps67
  go_wp2_with fail
  refine hr.out.mono ?_
  rintro e X1 ⟨rfl, hb⟩
  replace HB := hid_of (HB.trans (hb.mono HB.size))
  clear hr hb
  go_wp2_with fail
  go_ret
  exact ⟨rfl, HB.out⟩
set_option maxHeartbeats 1000000 in
set_option maxRecDepth 100000 in
theorem reach1 (x v : Int) (vb : Nat) (w : World) (hv : NumAt w vb 0 v) : Calls Tryz.prog 63 #[.agg #[.int .i64 3, .int .i64 x, .string ⟨#[]⟩, .slice none 0 0, .slice none 0 0], .pointer (some ⟨vb, 0, none⟩)] w fun e w' => e = .returned (.bool (decide (0 ≤ cmpI x v))) ∧ Below w.heap.size w w' := by
  have HB : Below w.heap.size w (w.alloc (.cells #[.int .i64 3, .int .i64 x, .string ⟨#[]⟩, .slice none 0 0, .slice none 0 0] 25)) := (Below.refl _ w).alloc (Nat.le_refl _) _
  obtain ⟨v0, v1, v2, v3, v4⟩ := hv.keep HB
  simp only [Nat.zero_add] at v1 v2 v3 v4
  have hc := hid_of (compare_num x v (w.alloc (.cells #[.int .i64 3, .int .i64 x, .string ⟨#[]⟩, .slice none 0 0, .slice none 0 0] 25)))
  unfold numV at hc
  clear hv
  go_enter Tryz.func63, Tryz.ntmps63
  go_wp2_with fail
  refine hc.out.mono ?_
  rintro e X1 ⟨rfl, hb⟩
  replace HB := hid_of (HB.trans (hb.mono HB.size))
  clear hc hb v0 v1 v2 v3 v4
  go_wp2_with fail
  go_ret
  exact ⟨rfl, HB.out⟩
set_option maxHeartbeats 1000000 in
set_option maxRecDepth 100000 in
theorem reach2 (x v : Int) (vb : Nat) (w : World) (hv : NumAt w vb 0 v) : Calls Tryz.prog 65 #[.agg #[.int .i64 3, .int .i64 x, .string ⟨#[]⟩, .slice none 0 0, .slice none 0 0], .pointer (some ⟨vb, 0, none⟩)] w fun e w' => e = .returned (.bool (decide (0 < cmpI x v))) ∧ Below w.heap.size w w' := by
  have HB : Below w.heap.size w (w.alloc (.cells #[.int .i64 3, .int .i64 x, .string ⟨#[]⟩, .slice none 0 0, .slice none 0 0] 25)) := (Below.refl _ w).alloc (Nat.le_refl _) _
  obtain ⟨v0, v1, v2, v3, v4⟩ := hv.keep HB
  simp only [Nat.zero_add] at v1 v2 v3 v4
  have hc := hid_of (compare_num x v (w.alloc (.cells #[.int .i64 3, .int .i64 x, .string ⟨#[]⟩, .slice none 0 0, .slice none 0 0] 25)))
  unfold numV at hc
  clear hv
  go_enter Tryz.func65, Tryz.ntmps65
  go_wp2_with fail
  refine hc.out.mono ?_
  rintro e X1 ⟨rfl, hb⟩
  replace HB := hid_of (HB.trans (hb.mono HB.size))
  clear hc hb v0 v1 v2 v3 v4
  go_wp2_with fail
  go_ret
  exact ⟨rfl, HB.out⟩
set_option maxHeartbeats 1000000 in
set_option maxRecDepth 100000 in
theorem reach4 (x v : Int) (vb : Nat) (w : World) (hv : NumAt w vb 0 v) : Calls Tryz.prog 68 #[.agg #[.int .i64 3, .int .i64 x, .string ⟨#[]⟩, .slice none 0 0, .slice none 0 0], .pointer (some ⟨vb, 0, none⟩)] w fun e w' => e = .returned (.bool false) ∧ Below w.heap.size w w' := by
  have HB : Below w.heap.size w (w.alloc (.cells #[.int .i64 3, .int .i64 x, .string ⟨#[]⟩, .slice none 0 0, .slice none 0 0] 25)) := (Below.refl _ w).alloc (Nat.le_refl _) _
  obtain ⟨v0, v1, v2, v3, v4⟩ := hv.keep HB
  obtain ⟨u0, u1, u2, u3, u4⟩ := box0 x w
  simp only [Nat.zero_add] at v1 v2 v3 v4
  have hc := fun y W => hid_of (class_num y W)
  clear hv
  go_enter Tryz.func68, Tryz.ntmps68
  go_upto_region 1 with fail
  generalize w.alloc (.cells #[.int .i64 3, .int .i64 x, .string ⟨#[]⟩, .slice none 0 0, .slice none 0 0] 25) = X0 at HB u0 u1 u2 u3 u4 v0 v1 v2 v3 v4 ⊢
  refine wp_region_quiet (C := fun w' => Below X0.heap.size X0 w') (by kernel_rfl) (by kernel_rfl) (below_drewN (Below.refl _ _) 1) ?_
  with_reducible refine wpQuiet_step (fun K hK => ?_)
  refine ⟨.agg #[.int .i64 3, .int .i64 x, .string ⟨#[]⟩, .slice none 0 0, .slice none 0 0], fun w' hw' => ?_, ?_⟩
  · have t0 := stay hw' u0; have t1 := stay hw' u1; have t2 := stay hw' u2; have t3 := stay hw' u3; have t4 := stay hw' u4; go_simp
  with_reducible refine hK _ ?_
  clear hK K
  simp only [Act.put, List.setIfInBounds_toArray, List.set_cons_zero, List.set_cons_succ]
  with_reducible refine wpQuiet_step (fun K hK => ?_)
  refine ⟨.int .i64 1, fun w' hw' => ?_, ?_⟩
  · go_simp
    refine ((hc x w').out).mono ?_
    rintro e w'' ⟨rfl, hb'⟩
    exact ⟨rfl, hw'.trans (hb'.mono hw'.size)⟩
  with_reducible refine hK _ ?_
  clear hK K
  simp only [Act.put, List.setIfInBounds_toArray, List.set_cons_zero, List.set_cons_succ]
  with_reducible refine wpQuiet_step (fun K hK => ?_)
  refine ⟨.agg #[.int .i64 3, .int .i64 v, .string ⟨#[]⟩, .slice none 0 0, .slice none 0 0], fun w' hw' => ?_, ?_⟩
  · have t0 := stay hw' v0; have t1 := stay hw' v1; have t2 := stay hw' v2; have t3 := stay hw' v3; have t4 := stay hw' v4; go_simp
  with_reducible refine hK _ ?_
  clear hK K
  simp only [Act.put, List.setIfInBounds_toArray, List.set_cons_zero, List.set_cons_succ]
  with_reducible refine wpQuiet_step (fun K hK => ?_)
  refine ⟨.int .i64 1, fun w' hw' => ?_, ?_⟩
  · go_simp
    refine ((hc v w').out).mono ?_
    rintro e w'' ⟨rfl, hb'⟩
    exact ⟨rfl, hw'.trans (hb'.mono hw'.size)⟩
  with_reducible refine hK _ ?_
  clear hK K
  simp only [Act.put, List.setIfInBounds_toArray, List.set_cons_zero, List.set_cons_succ]
  with_reducible refine wpQuiet_step (fun K hK => ?_)
  refine ⟨.bool false, fun w' hw' => ?_, ?_⟩
  · first | (go_simp; done) | (go_simp; decide) | (go_simp; omega)
  with_reducible refine hK _ ?_
  clear hK K
  simp only [Act.put, List.setIfInBounds_toArray, List.set_cons_zero, List.set_cons_succ]
  with_reducible refine wpQuiet_step (fun K hK => ?_)
  refine ⟨.bool false, fun w' hw' => ?_, ?_⟩
  · first | (go_simp; done) | (go_simp; decide) | (go_simp; omega)
  with_reducible refine hK _ ?_
  clear hK K
  simp only [Act.put, List.setIfInBounds_toArray, List.set_cons_zero, List.set_cons_succ]
  refine wpQuiet_nil ?_
  intro X1 hX1
  go_wp2_with fail
  go_ret
  exact ⟨rfl, HB.trans (hX1.mono HB.size)⟩
set_option maxHeartbeats 2000000 in
set_option maxRecDepth 100000 in
theorem place1_1 (i g c : Nat) (hi : i < 2) (eb : Nat) (x v : Int) (key : ByteArray) (vb fb yp yb : Nat) (nm pt : ByteArray) (pv kv : Value) (w : World) (hf : w.cell? ⟨fb, 0, none⟩ = some (.func (.func 63) #[] #[.pointer (some ⟨vb, 0, none⟩)])) (hy : w.cell? ⟨yp, 0, none⟩ = some (.pointer (some ⟨yb, 0, none⟩))) (hX : IxAt w yb nm pt false pv (.slice (some ⟨g, 0, none⟩) 2 c) kv) (hg : w.cell? ⟨g, i, none⟩ = some (.pointer (some ⟨eb, 0, none⟩))) (hE : EntAt w eb x key) (hv : NumAt w vb 0 v) :
    Calls Tryz.prog 144 #[.int .i64 i, .pointer (some ⟨fb, 0, none⟩), .pointer (some ⟨yp, 0, none⟩)] w fun e w' => e = .returned (.bool (decide (0 ≤ cmpI x v))) ∧ Below w.heap.size w w' := by
  obtain ⟨-, -, -, -, c4, -⟩ := hX.cells
  obtain ⟨a0, a1, a2, a3, a4, -⟩ := hE.cells
  have hr := fun W (hW : Below w.heap.size w W) => hid_of (reach1 x v vb W (hv.keep hW))
  have hi1 : (i : Int) < 2 := by omega
  have hi2 : (0 : Int) ≤ (i : Int) := by omega
  clear hX hE hv
  go_enter Tryz.func144, Tryz.ntmps144
  go_wp2_with fail
  go_region_held3 (fun W => W.cell? ⟨fb, 0, none⟩ = some (.func (.func 63) #[] #[.pointer (some ⟨vb, 0, none⟩)]) ∧ W.cell? ⟨yp, 0, none⟩ = some (.pointer (some ⟨yb, 0, none⟩)) ∧ W.cell? ⟨yb, 4, none⟩ = some (.slice (some ⟨g, 0, none⟩) 2 c) ∧ W.cell? ⟨g, i, none⟩ = some (.pointer (some ⟨eb, 0, none⟩)) ∧ W.cell? ⟨eb, 0, none⟩ = some (.int .i64 3) ∧ W.cell? ⟨eb, 1, none⟩ = some (.int .i64 x) ∧ W.cell? ⟨eb, 2, none⟩ = some (.string ⟨#[]⟩) ∧ W.cell? ⟨eb, 3, none⟩ = some (.slice none 0 0) ∧ W.cell? ⟨eb, 4, none⟩ = some (.slice none 0 0)) (go_keep) ((go_at_call 63; refine (hr _ (below_drew (Below.refl _ w))).out.mono ?_; rintro e X1 ⟨rfl, hq⟩; have HB : Below w.heap.size w X1 := (below_drew (Below.refl _ w)).trans hq; clear hq; have j0 := stay HB hf; have j1 := stay HB hy; have j2 := stay HB c4; have j3 := stay HB hg; have j4 := stay HB a0; have j5 := stay HB a1; have j6 := stay HB a2; have j7 := stay HB a3; have j8 := stay HB a4))
  go_wp2_with fail
  go_ret
  exact ⟨rfl, HB⟩
set_option maxHeartbeats 2000000 in
set_option maxRecDepth 100000 in
theorem place1_2 (i g c : Nat) (hi : i < 2) (eb : Nat) (x v : Int) (key : ByteArray) (vb fb yp yb : Nat) (nm pt : ByteArray) (pv kv : Value) (w : World) (hf : w.cell? ⟨fb, 0, none⟩ = some (.func (.func 65) #[] #[.pointer (some ⟨vb, 0, none⟩)])) (hy : w.cell? ⟨yp, 0, none⟩ = some (.pointer (some ⟨yb, 0, none⟩))) (hX : IxAt w yb nm pt false pv (.slice (some ⟨g, 0, none⟩) 2 c) kv) (hg : w.cell? ⟨g, i, none⟩ = some (.pointer (some ⟨eb, 0, none⟩))) (hE : EntAt w eb x key) (hv : NumAt w vb 0 v) :
    Calls Tryz.prog 144 #[.int .i64 i, .pointer (some ⟨fb, 0, none⟩), .pointer (some ⟨yp, 0, none⟩)] w fun e w' => e = .returned (.bool (decide (0 < cmpI x v))) ∧ Below w.heap.size w w' := by
  obtain ⟨-, -, -, -, c4, -⟩ := hX.cells
  obtain ⟨a0, a1, a2, a3, a4, -⟩ := hE.cells
  have hr := fun W (hW : Below w.heap.size w W) => hid_of (reach2 x v vb W (hv.keep hW))
  have hi1 : (i : Int) < 2 := by omega
  have hi2 : (0 : Int) ≤ (i : Int) := by omega
  clear hX hE hv
  go_enter Tryz.func144, Tryz.ntmps144
  go_wp2_with fail
  go_region_held3 (fun W => W.cell? ⟨fb, 0, none⟩ = some (.func (.func 65) #[] #[.pointer (some ⟨vb, 0, none⟩)]) ∧ W.cell? ⟨yp, 0, none⟩ = some (.pointer (some ⟨yb, 0, none⟩)) ∧ W.cell? ⟨yb, 4, none⟩ = some (.slice (some ⟨g, 0, none⟩) 2 c) ∧ W.cell? ⟨g, i, none⟩ = some (.pointer (some ⟨eb, 0, none⟩)) ∧ W.cell? ⟨eb, 0, none⟩ = some (.int .i64 3) ∧ W.cell? ⟨eb, 1, none⟩ = some (.int .i64 x) ∧ W.cell? ⟨eb, 2, none⟩ = some (.string ⟨#[]⟩) ∧ W.cell? ⟨eb, 3, none⟩ = some (.slice none 0 0) ∧ W.cell? ⟨eb, 4, none⟩ = some (.slice none 0 0)) (go_keep) ((go_at_call 65; refine (hr _ (below_drew (Below.refl _ w))).out.mono ?_; rintro e X1 ⟨rfl, hq⟩; have HB : Below w.heap.size w X1 := (below_drew (Below.refl _ w)).trans hq; clear hq; have j0 := stay HB hf; have j1 := stay HB hy; have j2 := stay HB c4; have j3 := stay HB hg; have j4 := stay HB a0; have j5 := stay HB a1; have j6 := stay HB a2; have j7 := stay HB a3; have j8 := stay HB a4))
  go_wp2_with fail
  go_ret
  exact ⟨rfl, HB⟩
set_option maxHeartbeats 2000000 in
set_option maxRecDepth 100000 in
theorem place1_4 (i g c : Nat) (hi : i < 2) (eb : Nat) (x v : Int) (key : ByteArray) (vb fb yp yb : Nat) (nm pt : ByteArray) (pv kv : Value) (w : World) (hf : w.cell? ⟨fb, 0, none⟩ = some (.func (.func 68) #[] #[.pointer (some ⟨vb, 0, none⟩)])) (hy : w.cell? ⟨yp, 0, none⟩ = some (.pointer (some ⟨yb, 0, none⟩))) (hX : IxAt w yb nm pt false pv (.slice (some ⟨g, 0, none⟩) 2 c) kv) (hg : w.cell? ⟨g, i, none⟩ = some (.pointer (some ⟨eb, 0, none⟩))) (hE : EntAt w eb x key) (hv : NumAt w vb 0 v) :
    Calls Tryz.prog 144 #[.int .i64 i, .pointer (some ⟨fb, 0, none⟩), .pointer (some ⟨yp, 0, none⟩)] w fun e w' => e = .returned (.bool (false)) ∧ Below w.heap.size w w' := by
  obtain ⟨-, -, -, -, c4, -⟩ := hX.cells
  obtain ⟨a0, a1, a2, a3, a4, -⟩ := hE.cells
  have hr := fun W (hW : Below w.heap.size w W) => hid_of (reach4 x v vb W (hv.keep hW))
  have hi1 : (i : Int) < 2 := by omega
  have hi2 : (0 : Int) ≤ (i : Int) := by omega
  clear hX hE hv
  go_enter Tryz.func144, Tryz.ntmps144
  go_wp2_with fail
  go_region_held3 (fun W => W.cell? ⟨fb, 0, none⟩ = some (.func (.func 68) #[] #[.pointer (some ⟨vb, 0, none⟩)]) ∧ W.cell? ⟨yp, 0, none⟩ = some (.pointer (some ⟨yb, 0, none⟩)) ∧ W.cell? ⟨yb, 4, none⟩ = some (.slice (some ⟨g, 0, none⟩) 2 c) ∧ W.cell? ⟨g, i, none⟩ = some (.pointer (some ⟨eb, 0, none⟩)) ∧ W.cell? ⟨eb, 0, none⟩ = some (.int .i64 3) ∧ W.cell? ⟨eb, 1, none⟩ = some (.int .i64 x) ∧ W.cell? ⟨eb, 2, none⟩ = some (.string ⟨#[]⟩) ∧ W.cell? ⟨eb, 3, none⟩ = some (.slice none 0 0) ∧ W.cell? ⟨eb, 4, none⟩ = some (.slice none 0 0)) (go_keep) ((go_at_call 68; refine (hr _ (below_drew (Below.refl _ w))).out.mono ?_; rintro e X1 ⟨rfl, hq⟩; have HB : Below w.heap.size w X1 := (below_drew (Below.refl _ w)).trans hq; clear hq; have j0 := stay HB hf; have j1 := stay HB hy; have j2 := stay HB c4; have j3 := stay HB hg; have j4 := stay HB a0; have j5 := stay HB a1; have j6 := stay HB a2; have j7 := stay HB a3; have j8 := stay HB a4))
  go_wp2_with fail
  go_ret
  exact ⟨rfl, HB⟩
/-- Where the search ends. -/
def placeN (b0 b1 : Bool) : Int := if b1 then (if b0 then 0 else 1) else 2
set_option maxHeartbeats 2000000 in
set_option maxRecDepth 100000 in
theorem search2 (b0 b1 : Bool) (fb yp : Nat) (w : World) (h0 : ∀ W, Below w.heap.size w W → Calls Tryz.prog 144 #[.int .i64 ((0 : Nat) : Int), .pointer (some ⟨fb, 0, none⟩), .pointer (some ⟨yp, 0, none⟩)] W fun e w' => e = .returned (.bool b0) ∧ Below W.heap.size W w') (h1 : ∀ W, Below w.heap.size w W → Calls Tryz.prog 144 #[.int .i64 ((1 : Nat) : Int), .pointer (some ⟨fb, 0, none⟩), .pointer (some ⟨yp, 0, none⟩)] W fun e w' => e = .returned (.bool b1) ∧ Below W.heap.size W w') :
    Calls Tryz.prog 143 #[.int .i64 2, .func (.func 144) #[] #[.pointer (some ⟨fb, 0, none⟩), .pointer (some ⟨yp, 0, none⟩)]] w fun e w' => e = .returned (.int .i64 (placeN b0 b1)) ∧ Below w.heap.size w w' := by
  replace h0 := hid_of h0
  have h1' := hid_of (h1 w (Below.refl _ w))
  clear h1
  go_enter Tryz.func143, Tryz.ntmps143
  go_wp2_with fail
  refine wp_loop_rounds 3 ?_
  rw [rounds_succ]
  go_wp2_with fail
  refine h1'.out.mono ?_
  rintro e X1 ⟨rfl, hb1⟩
  clear h1'
  have h0' := hid_of (h0.out X1 hb1)
  clear h0
  replace hb1 := hid_of hb1
  cases b1
  · go_wp2_with fail
    rw [rounds_succ]
    go_wp2_with fail
    go_ret
    exact ⟨rfl, hb1.out⟩
  · go_wp2_with fail
    rw [rounds_succ]
    go_wp2_with fail
    refine h0'.out.mono ?_
    rintro e X2 ⟨rfl, hb2⟩
    replace hb2 := hid_of (hb1.out.trans (hb2.mono hb1.out.size))
    clear hb1 h0'
    cases b0
    all_goals
      go_wp2_with fail
      rw [rounds_succ]
      go_wp2_with fail
      go_ret
      exact ⟨rfl, hb2.out⟩
set_option maxHeartbeats 2000000 in
set_option maxRecDepth 100000 in
theorem place_1 (lo yb vb e1 e2 : Nat) (x1 x2 v : Int) (k1 k2 nm pt : ByteArray) (pv : Value) (w : World) (hX : Ix2 w lo yb nm pt pv e1 e2 x1 x2 k1 k2) (hv : NumAt w vb 0 v) :
    Calls Tryz.prog 101 #[.pointer (some ⟨yb, 0, none⟩), .func (.func 63) #[] #[.pointer (some ⟨vb, 0, none⟩)]] w fun e w' => e = .returned (.int .i64 (placeN (decide (0 ≤ cmpI x1 v)) (decide (0 ≤ cmpI x2 v)))) ∧ Below w.heap.size w w' := by
  have HB : Below w.heap.size w ((w.alloc (.cells #[.pointer (some ⟨yb, 0, none⟩)] 68)).alloc (.cells #[.func (.func 63) #[] #[.pointer (some ⟨vb, 0, none⟩)]] 120)) := ((Below.refl _ w).alloc (Nat.le_refl _) _).alloc (by simp) _
  have p0 := cell_of_one (new1 w (.cells #[.pointer (some ⟨yb, 0, none⟩)] 68) (.cells #[.func (.func 63) #[] #[.pointer (some ⟨vb, 0, none⟩)]] 120))
  have p1 := cell_of_one (new2 w (.cells #[.pointer (some ⟨yb, 0, none⟩)] 68) (.cells #[.func (.func 63) #[] #[.pointer (some ⟨vb, 0, none⟩)]] 120))
  obtain ⟨g, c, kv, i1, i2, i3, i4⟩ := hX.keep HB
  have hv' := hv.keep HB
  obtain ⟨-, -, -, -, c4, -⟩ := i1.cells
  have r0 := i2.cellAt 0 (by simp)
  have r1 := i2.cellAt 1 (by simp)
  have hs := hid_of (search2 _ _ (w.heap.size + 1) w.heap.size _ (fun W hW => place1_1 0 g c (by omega) e1 x1 v k1 vb (w.heap.size + 1) w.heap.size yb nm pt pv kv W (stay hW p1) (stay hW p0) (i1.keep hW) (stay hW r0) (i3.keep hW) (hv'.keep hW)) (fun W hW => place1_1 1 g c (by omega) e2 x2 v k2 vb (w.heap.size + 1) w.heap.size yb nm pt pv kv W (stay hW p1) (stay hW p0) (i1.keep hW) (stay hW r1) (i4.keep hW) (hv'.keep hW)))
  clear hX hv i1 i2 i3 i4 hv' r0 r1
  go_enter Tryz.func101, Tryz.ntmps101
  go_wp2_with fail
  refine hs.out.mono ?_
  rintro e X1 ⟨rfl, hb⟩
  replace HB := hid_of (HB.trans (hb.mono HB.size))
  clear hs hb p0 p1 c4
  go_wp2_with fail
  go_ret
  exact ⟨rfl, HB.out⟩
set_option maxHeartbeats 2000000 in
set_option maxRecDepth 100000 in
theorem place_2 (lo yb vb e1 e2 : Nat) (x1 x2 v : Int) (k1 k2 nm pt : ByteArray) (pv : Value) (w : World) (hX : Ix2 w lo yb nm pt pv e1 e2 x1 x2 k1 k2) (hv : NumAt w vb 0 v) :
    Calls Tryz.prog 101 #[.pointer (some ⟨yb, 0, none⟩), .func (.func 65) #[] #[.pointer (some ⟨vb, 0, none⟩)]] w fun e w' => e = .returned (.int .i64 (placeN (decide (0 < cmpI x1 v)) (decide (0 < cmpI x2 v)))) ∧ Below w.heap.size w w' := by
  have HB : Below w.heap.size w ((w.alloc (.cells #[.pointer (some ⟨yb, 0, none⟩)] 68)).alloc (.cells #[.func (.func 65) #[] #[.pointer (some ⟨vb, 0, none⟩)]] 120)) := ((Below.refl _ w).alloc (Nat.le_refl _) _).alloc (by simp) _
  have p0 := cell_of_one (new1 w (.cells #[.pointer (some ⟨yb, 0, none⟩)] 68) (.cells #[.func (.func 65) #[] #[.pointer (some ⟨vb, 0, none⟩)]] 120))
  have p1 := cell_of_one (new2 w (.cells #[.pointer (some ⟨yb, 0, none⟩)] 68) (.cells #[.func (.func 65) #[] #[.pointer (some ⟨vb, 0, none⟩)]] 120))
  obtain ⟨g, c, kv, i1, i2, i3, i4⟩ := hX.keep HB
  have hv' := hv.keep HB
  obtain ⟨-, -, -, -, c4, -⟩ := i1.cells
  have r0 := i2.cellAt 0 (by simp)
  have r1 := i2.cellAt 1 (by simp)
  have hs := hid_of (search2 _ _ (w.heap.size + 1) w.heap.size _ (fun W hW => place1_2 0 g c (by omega) e1 x1 v k1 vb (w.heap.size + 1) w.heap.size yb nm pt pv kv W (stay hW p1) (stay hW p0) (i1.keep hW) (stay hW r0) (i3.keep hW) (hv'.keep hW)) (fun W hW => place1_2 1 g c (by omega) e2 x2 v k2 vb (w.heap.size + 1) w.heap.size yb nm pt pv kv W (stay hW p1) (stay hW p0) (i1.keep hW) (stay hW r1) (i4.keep hW) (hv'.keep hW)))
  clear hX hv i1 i2 i3 i4 hv' r0 r1
  go_enter Tryz.func101, Tryz.ntmps101
  go_wp2_with fail
  refine hs.out.mono ?_
  rintro e X1 ⟨rfl, hb⟩
  replace HB := hid_of (HB.trans (hb.mono HB.size))
  clear hs hb p0 p1 c4
  go_wp2_with fail
  go_ret
  exact ⟨rfl, HB.out⟩
set_option maxHeartbeats 2000000 in
set_option maxRecDepth 100000 in
theorem place_4 (lo yb vb e1 e2 : Nat) (x1 x2 v : Int) (k1 k2 nm pt : ByteArray) (pv : Value) (w : World) (hX : Ix2 w lo yb nm pt pv e1 e2 x1 x2 k1 k2) (hv : NumAt w vb 0 v) :
    Calls Tryz.prog 101 #[.pointer (some ⟨yb, 0, none⟩), .func (.func 68) #[] #[.pointer (some ⟨vb, 0, none⟩)]] w fun e w' => e = .returned (.int .i64 (2)) ∧ Below w.heap.size w w' := by
  have HB : Below w.heap.size w ((w.alloc (.cells #[.pointer (some ⟨yb, 0, none⟩)] 68)).alloc (.cells #[.func (.func 68) #[] #[.pointer (some ⟨vb, 0, none⟩)]] 120)) := ((Below.refl _ w).alloc (Nat.le_refl _) _).alloc (by simp) _
  have p0 := cell_of_one (new1 w (.cells #[.pointer (some ⟨yb, 0, none⟩)] 68) (.cells #[.func (.func 68) #[] #[.pointer (some ⟨vb, 0, none⟩)]] 120))
  have p1 := cell_of_one (new2 w (.cells #[.pointer (some ⟨yb, 0, none⟩)] 68) (.cells #[.func (.func 68) #[] #[.pointer (some ⟨vb, 0, none⟩)]] 120))
  obtain ⟨g, c, kv, i1, i2, i3, i4⟩ := hX.keep HB
  have hv' := hv.keep HB
  obtain ⟨-, -, -, -, c4, -⟩ := i1.cells
  have r0 := i2.cellAt 0 (by simp)
  have r1 := i2.cellAt 1 (by simp)
  have hs := hid_of (search2 _ _ (w.heap.size + 1) w.heap.size _ (fun W hW => place1_4 0 g c (by omega) e1 x1 v k1 vb (w.heap.size + 1) w.heap.size yb nm pt pv kv W (stay hW p1) (stay hW p0) (i1.keep hW) (stay hW r0) (i3.keep hW) (hv'.keep hW)) (fun W hW => place1_4 1 g c (by omega) e2 x2 v k2 vb (w.heap.size + 1) w.heap.size yb nm pt pv kv W (stay hW p1) (stay hW p0) (i1.keep hW) (stay hW r1) (i4.keep hW) (hv'.keep hW)))
  clear hX hv i1 i2 i3 i4 hv' r0 r1
  go_enter Tryz.func101, Tryz.ntmps101
  go_wp2_with fail
  refine hs.out.mono ?_
  rintro e X1 ⟨rfl, hb⟩
  replace HB := hid_of (HB.trans (hb.mono HB.size))
  clear hs hb p0 p1 c4
  go_wp2_with fail
  go_ret
  exact ⟨rfl, HB.out⟩
end Go.Proofs.YtdghkmgkmfnjjaaGreatDoor
