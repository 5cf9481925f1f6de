import Derived.Test.YtgigikcopedoeaaGreatWB
/-! compare. -/
namespace Go.Proofs.YtgigikcopedoeaaGreat
open Go Go.RowKit

def keyedC (id : ByteArray) (bn cn bi ci kb : Nat) : Obj := .cells #[.string id, .int .i64 0, .int .i64 6, .int .i64 0, .string ⟨#[]⟩, .slice (some ⟨bn, 0, none⟩) 1 cn, .slice (some ⟨bi, 0, none⟩) 1 ci, .slice (some ⟨kb, 0, none⟩) 1 1] 73
set_option maxHeartbeats 4000000 in
set_option maxRecDepth 100000 in
theorem compare_k (sb : Nat) (i2 : ByteArray) (bn2 cn2 bi2 ci2 k2 : Nat) (i1 : ByteArray) (bn1 cn1 bi1 ci1 k1 : Nat) (w : World) (hT : TurnsAt w sb) (h2 : NumAt w k2 0 2) (h1 : NumAt w k1 0 1) :
    Calls Tryz.prog 38 #[.pointer (some ⟨sb, 0, none⟩), keyedV i2 bn2 cn2 bi2 ci2 k2, keyedV i1 bn1 cn1 bi1 ci1 k1] w fun e w' => e = .returned (.int .i64 (-1)) ∧ Below w.heap.size w w' := by
  have HB : Below w.heap.size w ((w.alloc (keyedC i2 bn2 cn2 bi2 ci2 k2)).alloc (keyedC i1 bn1 cn1 bi1 ci1 k1)) := ((Below.refl _ w).alloc (Nat.le_refl _) _).alloc (by simp) _
  have m1 := new1 w (keyedC i2 bn2 cn2 bi2 ci2 k2) (keyedC i1 bn1 cn1 bi1 ci1 k1)
  have m2 := new2 w (keyedC i2 bn2 cn2 bi2 ci2 k2) (keyedC i1 bn1 cn1 bi1 ci1 k1)
  have hT0 := hT.keep HB
  have h20 := h2.keep HB
  have h10 := h1.keep HB
  clear hT h2 h1
  unfold keyedC at HB m1 m2 hT0 h20 h10
  unfold keyedV
  go_enter Tryz.func38, Tryz.ntmps38
  go_upto_region 1 with fail
  generalize (w.alloc (.cells #[.string i2, .int .i64 0, .int .i64 6, .int .i64 0, .string ⟨#[]⟩, .slice (some ⟨bn2, 0, none⟩) 1 cn2, .slice (some ⟨bi2, 0, none⟩) 1 ci2, .slice (some ⟨k2, 0, none⟩) 1 1] 73)).alloc (.cells #[.string i1, .int .i64 0, .int .i64 6, .int .i64 0, .string ⟨#[]⟩, .slice (some ⟨bn1, 0, none⟩) 1 cn1, .slice (some ⟨bi1, 0, none⟩) 1 ci1, .slice (some ⟨k1, 0, none⟩) 1 1] 73) = X0 at HB m1 m2 hT0 h20 h10
  have hcount := hid_of (count_a sb X0 hT0)
  have a7 : X0.cell? ⟨w.heap.size, 7, none⟩ = some (.slice (some ⟨k2, 0, none⟩) 1 1) := by simp [World.cell?, m1]
  have b7 : X0.cell? ⟨w.heap.size + 1, 7, none⟩ = some (.slice (some ⟨k1, 0, none⟩) 1 1) := by simp [World.cell?, m2]
  obtain ⟨y0, y1, y2, y3, y4⟩ := h20
  obtain ⟨z0, z1, z2, z3, z4⟩ := h10
  simp only [Nat.zero_add] at y1 y2 y3 y4 z1 z2 z3 z4
  have hcmp := hid_of (compare_21 X0.drew)
  unfold numV at hcmp
  replace hT0 := hid_of hT0
  clear m1 m2
  go_wp2_with (go_at_call 33; refine hcount.out.mono ?_; rintro e X1 ⟨rfl, rfl⟩)
  refine wp_loop_rounds 2 ?_
  rw [rounds_succ]
  go_wp2_with fail
  go_region_with (go_at_call 59; go_fit hcmp.out; clear hcmp; rintro e X2 ⟨rfl, hb'⟩; have hb : Below X1.heap.size X1 X2 := (below_drew (Below.refl _ _)).trans hb'; clear hb'; have hT2 := hT0.out.keep hb; obtain ⟨g, cg, bp, cp, t1, t2, t3, t4⟩ := hT2; have u1 : X2.cell? ⟨sb, 0, none⟩ = some (.slice (some ⟨g, 0, none⟩) 1 cg) := (by unfold SortAt at t1; simp [World.cell?, t1]); clear t1 t4)
  all_goals
    go_wp2_with (go_at_call 60; refine (turned_a _ _ _ _).mono ?_; rintro e X3 ⟨rfl, hb3⟩)
    go_ret
    exact ⟨rfl, (HB.trans (hb.mono HB.size)).trans (hb3.mono (Nat.le_trans HB.size hb.size))⟩
end Go.Proofs.YtgigikcopedoeaaGreat
