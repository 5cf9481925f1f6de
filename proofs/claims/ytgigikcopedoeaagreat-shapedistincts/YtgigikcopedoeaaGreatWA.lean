import Derived.Test.YtgigikcopedoeaaGreatW9
/-! Key. -/
namespace Go.Proofs.YtgigikcopedoeaaGreat
open Go Go.RowKit

set_option maxHeartbeats 4000000 in
set_option maxRecDepth 100000 in
theorem tkey_a (bp cp bn cn bi ci : Nat) (x : Int) (w : World) (hp : w.cell? ⟨bp, 0, none⟩ = some (.string nameA)) (hn : w.cell? ⟨bn, 0, none⟩ = some (.string nameA)) (hI : NumAt w bi 0 x) :
    Calls Tryz.prog 34 #[.agg #[.slice (some ⟨bp, 0, none⟩) 1 cp, .bool true], objV bn cn bi ci] w fun e w' => e = .returned (numV x) ∧ Below w.heap.size w w' := by
  obtain ⟨O1, hO1⟩ : ∃ o : Obj, o = .cells #[.slice (some ⟨bp, 0, none⟩) 1 cp, .bool true] 66 := ⟨_, rfl⟩
  have HB : Below w.heap.size w (((w.alloc O1).alloc (objC bn cn bi ci)).alloc zeroO) := (((Below.refl _ w).alloc (Nat.le_refl _) _).alloc (by simp) _).alloc (by rw [World.size_alloc, World.size_alloc]; omega) _
  have m0 : (((w.alloc O1).alloc (objC bn cn bi ci)).alloc zeroO).heap[w.heap.size]? = some O1 := (Below.heap_alloc _ _ _ (by rw [World.size_alloc, World.size_alloc]; omega)).trans (new1 w _ _)
  have m1 : (((w.alloc O1).alloc (objC bn cn bi ci)).alloc zeroO).heap[w.heap.size + 1]? = some (objC bn cn bi ci) := (Below.heap_alloc _ _ _ (by rw [World.size_alloc, World.size_alloc]; omega)).trans (new2 w _ _)
  have m2 : (((w.alloc O1).alloc (objC bn cn bi ci)).alloc zeroO).heap[w.heap.size + 1 + 1]? = some zeroO := heap_new' (by simp)
  have hp0 := stay HB hp
  have hn0 := stay HB hn
  have hI0 := hI.keep HB
  clear hp hn hI
  subst hO1
  unfold objC zeroO at HB m0 m1 m2 hp0 hn0 hI0
  unfold objV at *
  go_enter Tryz.func34, Tryz.ntmps34
  go_upto_region 1 with fail
  generalize ((w.alloc (.cells #[.slice (some ⟨bp, 0, none⟩) 1 cp, .bool true] 66)).alloc (.cells #[.int .i64 6, .int .i64 0, .string ⟨#[]⟩, .slice (some ⟨bn, 0, none⟩) 1 cn, .slice (some ⟨bi, 0, none⟩) 1 ci] 25)).alloc (.cells #[.int .i64 0, .int .i64 0, .string ⟨#[]⟩, .slice none 0 0, .slice none 0 0] 25) = X0 at HB m0 m1 m2 hp0 hn0 hI0
  obtain ⟨y0, y1, y2, y3, y4, -⟩ := row_cells m1
  have t0 : X0.cell? ⟨w.heap.size, 0, none⟩ = some (.slice (some ⟨bp, 0, none⟩) 1 cp) := by simp [World.cell?, m0]
  have hall := hid_of (all_a x bn cn bi ci bp cp X0 hn0 hI0 hp0)
  unfold objV at hall
  go_wp2_with fail
  refine hall.out.mono ?_
  rintro e X1 ⟨hb1, g1, c1, rfl, hN1⟩
  have n0 := block_keep m0 hb1
  have n2 := block_keep m2 hb1
  replace HB := HB.trans (hb1.mono HB.size)
  clear hall hb1 m0 m1 m2 y0 y1 y2 y3 y4 t0 hp0 hn0 hI0
  go_wp2_with fail
  refine (laid_one g1 c1 x X1 hN1).mono ?_
  rintro e X2 ⟨hb2, g2, c2, rfl, hN2⟩
  replace n0 := block_keep n0 hb2
  replace n2 := block_keep n2 hb2
  replace HB := HB.trans (hb2.mono HB.size)
  clear hb2 hN1
  go_wp2_with fail
  refine (least_one g2 c2 x X2 hN2).mono ?_
  rintro e X3 ⟨rfl, hb3⟩
  replace n0 := block_keep n0 hb3
  replace n2 := block_keep n2 hb3
  replace HB := HB.trans (hb3.mono HB.size)
  have hN3 := hN2.keep hb3
  clear hb3 hN2
  have t1 : X3.cell? ⟨w.heap.size, 1, none⟩ = some (.bool true) := by simp [World.cell?, n0]
  go_wp2_with fail
  refine (greatest_one g2 c2 x X3 hN3).mono ?_
  rintro e X4 ⟨rfl, hb4⟩
  replace n2 := block_keep n2 hb4
  replace HB := HB.trans (hb4.mono HB.size)
  obtain ⟨z0, z1, z2, z3, z4⟩ := hN3.keep hb4
  simp only [Nat.zero_add] at z1 z2 z3 z4
  clear hb4 hN3 t1 n0
  obtain ⟨r0, r1, r2, r3, r4, rf⟩ := row_cells n2
  have rf0 := rf 0; have rf1 := rf 1; have rf2 := rf 2; have rf3 := rf 3; have rf4 := rf 4
  clear rf
  go_wp2_with fail
  have hr := put5_cells n2 (.int .i64 3) (.int .i64 x) (.string ⟨#[]⟩) (.slice none 0 0) (.slice none 0 0)
  have q0 := hr 0; have q1 := hr 1; have q2 := hr 2; have q3 := hr 3; have q4 := hr 4
  clear hr
  refine bodyPost_ret (v := .agg #[.int .i64 3, .int .i64 x, .string ⟨#[]⟩, .slice none 0 0, .slice none 0 0]) (by simp [results, Tryz.results34, go_sem, q0, q1, q2, q3, q4]) rfl ?_
  exact ⟨rfl, HB.trans (put5_below (by omega) _ _ _ _ _)⟩
set_option maxHeartbeats 4000000 in
set_option maxRecDepth 100000 in
theorem skey_a (sb bn cn bi ci : Nat) (x : Int) (w : World) (hT : TurnsAt w sb) (hn : w.cell? ⟨bn, 0, none⟩ = some (.string nameA)) (hI : NumAt w bi 0 x) :
    Calls Tryz.prog 12 #[.pointer (some ⟨sb, 0, none⟩), objV bn cn bi ci, .int .i64 0] w fun e w' => e = .returned (numV x) ∧ Below w.heap.size w w' := by
  have HB : Below w.heap.size w ((w.alloc (objC bn cn bi ci)).alloc zeroO) := ((Below.refl _ w).alloc (Nat.le_refl _) _).alloc (by simp) _
  have m1 := new1 w (objC bn cn bi ci) zeroO
  have m2 := new2 w (objC bn cn bi ci) zeroO
  have hT0 := hT.keep HB
  have hn0 := stay HB hn
  have hI0 := hI.keep HB
  clear hT hn hI
  unfold objC zeroO at HB m1 m2 hT0 hn0 hI0
  unfold objV at *
  go_enter Tryz.func12, Tryz.ntmps12
  go_upto_region 1 with fail
  generalize (w.alloc (.cells #[.int .i64 6, .int .i64 0, .string ⟨#[]⟩, .slice (some ⟨bn, 0, none⟩) 1 cn, .slice (some ⟨bi, 0, none⟩) 1 ci] 25)).alloc (.cells #[.int .i64 0, .int .i64 0, .string ⟨#[]⟩, .slice none 0 0, .slice none 0 0] 25) = X0 at HB m1 m2 hT0 hn0 hI0
  have hcount := hid_of (count_a sb X0 hT0)
  obtain ⟨g, cg, bp, cp, h1, h2, h3, h4⟩ := hT0
  have c1 : X0.cell? ⟨sb, 0, none⟩ = some (.slice (some ⟨g, 0, none⟩) 1 cg) := by unfold SortAt at h1; simp [World.cell?, h1]
  have hk := hid_of (tkey_a bp cp bn cn bi ci x X0.drew h4 hn0 (hI0.keep (below_drew (Below.refl _ _))))
  unfold objV numV at hk
  obtain ⟨y0, y1, y2, y3, y4, -⟩ := row_cells m1
  replace m2 := hid_of m2
  clear h1 h4 hn0 hI0 m1
  go_wp2_with (go_at_call 33; refine hcount.out.mono ?_; rintro e X1 ⟨rfl, rfl⟩)
  go_region_with (go_at_call 34; go_fit hk.out; clear hk; rintro e Z2 ⟨rfl, hb'⟩; have hb : Below X1.heap.size X1 Z2 := (below_drew (Below.refl _ _)).trans hb'; clear hb'; have nZ2 := block_keep m2.out hb; obtain ⟨r0, r1, r2, r3, r4, rf⟩ := row_cells nZ2; have rf0 := rf 0; have rf1 := rf 1; have rf2 := rf 2; have rf3 := rf 3; have rf4 := rf 4; clear rf)
  all_goals
    go_wp2_with fail
    have hr := put5_cells nZ2 (.int .i64 3) (.int .i64 x) (.string ⟨#[]⟩) (.slice none 0 0) (.slice none 0 0)
    have q0 := hr 0; have q1 := hr 1; have q2 := hr 2; have q3 := hr 3; have q4 := hr 4
    clear hr
    refine bodyPost_ret (v := .agg #[.int .i64 3, .int .i64 x, .string ⟨#[]⟩, .slice none 0 0, .slice none 0 0]) (by simp [results, Tryz.results12, go_sem, q0, q1, q2, q3, q4]) rfl ?_
    exact ⟨rfl, (HB.trans (hb.mono HB.size)).trans (put5_below (by omega) _ _ _ _ _)⟩
end Go.Proofs.YtgigikcopedoeaaGreat
