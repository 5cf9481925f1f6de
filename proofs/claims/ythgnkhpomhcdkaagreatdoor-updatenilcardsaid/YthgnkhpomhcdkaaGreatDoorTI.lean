import Derived.Test.YthgnkhpomhcdkaaGreatDoorTG
import Derived.Test.YthgnkhpomhcdkaaGreatDoorOU
import Derived.Test.YthgnkhpomhcdkaaGreatDoorPE
/-! update: what the nil Update answers. -/
namespace Go.Proofs.YthgnkhpomhcdkaaGreatDoor
open Go Go.RowKit Dp

theorem copy_v5 (t : Tr) (u : V5) (w : World) (hV : VRep w t u.cs) (hS : SmallT t) : Calls Tryz.prog 9 #[u.v] w fun e w' => ∃ v : V5, e = .returned v.v ∧ VRep w' t v.cs ∧ Below w.heap.size w w' :=
  (copy_any t u.cs w hV hS).mono fun _ _ ⟨k, x, s, an, ln, cn, ai, li, ci, he, hs, hb⟩ => ⟨⟨k, x, s, an, ln, cn, ai, li, ci⟩, he, hs.rep, hb⟩
theorem same_v5 (t : Tr) (u v : V5) (w : World) (hV : VRep w t u.cs) (hV' : VRep w t v.cs) : Calls Tryz.prog 10 #[u.v, v.v] w fun e w' => e = .returned (.bool true) ∧ Below w.heap.size w w' := equal_same t u.cs v.cs w hV hV'
theorem jcopy_v5 (t : Tr) (u : V5) (w : World) (hV : VRep w t u.cs) (hS : SmallT t) : Calls Tryz.prog 18 #[u.v] w fun e w' => ∃ v : V5, e = .returned v.v ∧ VRep w' t v.cs ∧ Below w.heap.size w w' :=
  (Own.jcopy_own t u.cs w hV hS).mono fun _ _ ⟨k, x, s, an, ln, cn, ai, li, ci, he, ⟨h, h1, h2, h3, _⟩, hb⟩ => ⟨⟨k, x, s, an, ln, cn, ai, li, ci⟩, he, by
    have := Own.own_rep h h3
    rw [h1, h2] at this
    exact this, hb⟩
theorem large_any (t : Tr) (u : V5) (w : World) (hV : VRep w t u.cs) : Calls Tryz.prog 7 #[u.v] w fun e w' => (∃ b, e = .returned (.bool b)) ∧ Below w.heap.size w w' := by
  have hB1 : Below w.heap.size w (w.alloc (u.obj 28)) := (Below.refl _ w).alloc (Nat.le_refl _) _
  have hp := hid_of (parts_any t u.cs 10000 _ (VRep.keep hB1 _ _ hV))
  obtain ⟨z0, z1, z2, z3, z4⟩ := box_five (heap_alloc_new w (u.obj 28)) (Below.refl _ _)
  replace hB1 := hid_of hB1
  clear hV
  unfold V5.v V5.cs V5.obj five at *
  go_enter Tryz.func7, Tryz.ntmps7
  go_wp2_with fail
  refine hp.out.mono ?_
  rintro e W1 ⟨⟨n, rfl⟩, hb1⟩
  go_wp2_with fail
  go_ret
  exact ⟨⟨_, rfl⟩, hB1.out.trans (hb1.mono hB1.out.size)⟩
theorem terms_nil (w : World) : Calls Tryz.prog 11 #[.pointer none] w fun e w' => e = .returned (.int .i64 0) ∧ w' = w := by
  go_enter Tryz.func11, Tryz.ntmps11
  go_wp2_with fail
  go_ret
  exact ⟨rfl, rfl⟩
theorem touches_nil (w : World) : Calls Tryz.prog 12 #[.pointer none] w fun e w' => e = .returned (.slice none 0 0) ∧ w' = w := by
  go_enter Tryz.func12, Tryz.ntmps12
  go_wp2_with fail
  go_ret
  exact ⟨rfl, rfl⟩
set_option maxHeartbeats 4000000 in
set_option maxRecDepth 100000 in
theorem apply_nil (t : Tr) (fr : Bool) (u : V5) (w : World) (hV : VRep w t u.cs) (hS : SmallT t) :
    Calls Tryz.prog 8 #[.pointer none, u.v, .bool fr] w fun e w' => Below w.heap.size w w' ∧ ∃ y : V5, e = .returned (.tuple #[y.v, .bool false, .int .i64 0, .int .i64 0]) ∧ VRep w' t y.cs := by
  have hB2 : Below w.heap.size w ((w.alloc (u.obj 28)).alloc (.cells #[.int .i64 0, .int .i64 0, .string ⟨#[]⟩, .slice none 0 0, .slice none 0 0] 28)) := ((Below.refl _ w).alloc (Nat.le_refl _) _).alloc (by simp) _
  have X0 : ((w.alloc (u.obj 28)).alloc (.cells #[.int .i64 0, .int .i64 0, .string ⟨#[]⟩, .slice none 0 0, .slice none 0 0] 28)).heap[w.heap.size]? = some (u.obj 28) := al_lt (by simp) (al_eq rfl)
  have X1 : ((w.alloc (u.obj 28)).alloc (.cells #[.int .i64 0, .int .i64 0, .string ⟨#[]⟩, .slice none 0 0, .slice none 0 0] 28)).heap[w.heap.size + 1]? = some (.cells #[.int .i64 0, .int .i64 0, .string ⟨#[]⟩, .slice none 0 0, .slice none 0 0] 28) := al_eq (by simp)
  obtain ⟨z0, z1, z2, z3, z4⟩ := box_five X0 (Below.refl _ _)
  have hc := hid_of (Own.jcopy_own t u.cs _ (VRep.keep hB2 _ _ hV) hS)
  replace hB2 := hid_of hB2; replace X0 := hid_of X0; replace X1 := hid_of X1
  clear hV
  unfold V5.v V5.obj V5.cs five at *
  go_enter Tryz.func8, Tryz.ntmps8
  go_wp2_with fail
  generalize hwq : (w.alloc (.cells #[.int .i64 u.k, .int .i64 u.x, .string u.s, .slice u.an u.ln u.cn, .slice u.ai u.li u.ci] 28)).alloc (.cells #[.int .i64 0, .int .i64 0, .string ⟨#[]⟩, .slice none 0 0, .slice none 0 0] 28) = wq at *
  refine hc.out.mono ?_
  rintro e W1 ⟨ka, xa, sa, ana, lna, cna, aia, lia, cia, rfl, ⟨h, e1, e2, hO, hlo⟩, hb1⟩
  have hsz : wq.heap.size = w.heap.size + 2 := by rw [← hwq]; simp
  have HB1 := hid_of (hB2.out.trans (hb1.mono hB2.out.size))
  have C1 := hid_of (block_keep X1.out hb1)
  have hfin : VRep (put5 W1 (w.heap.size + 1) (.int .i64 ka) (.int .i64 xa) (.string sa) (.slice ana lna cna) (.slice aia lia cia)) t (V5.cs ⟨ka, xa, sa, ana, lna, cna, aia, lia, cia⟩) := by
    have := Own.own_rep h (hO.keep (w' := put5 W1 (w.heap.size + 1) (.int .i64 ka) (.int .i64 xa) (.string sa) (.slice ana lna cna) (.slice aia lia cia)) fun g hg => put5_far _ _ _ _ _ (by have := hlo g hg; omega))
    rw [e1, e2] at this
    exact this
  replace hfin := hid_of hfin
  clear X0 X1 hc z0 z1 z2 z3 z4 hwq hb1 hO hlo e1 e2 hB2 hsz
  obtain ⟨t0, t1, t2, t3, t4, tf⟩ := row_cells C1.out
  have tf0 := tf 0; have tf1 := tf 1; have tf2 := tf 2; have tf3 := tf 3; have tf4 := tf 4
  clear tf
  go_wp2_with fail
  rw [← put5_def]
  have hr5 := put5_at C1.out (.int .i64 ka) (.int .i64 xa) (.string sa) (.slice ana lna cna) (.slice aia lia cia)
  have hB5 := hid_of (HB1.out.trans (put5_below (w := W1) (g := w.heap.size + 1) (by omega) (.int .i64 ka) (.int .i64 xa) (.string sa) (.slice ana lna cna) (.slice aia lia cia)))
  clear t0 t1 t2 t3 t4 tf0 tf1 tf2 tf3 tf4 C1 HB1
  generalize put5 W1 (w.heap.size + 1) (.int .i64 ka) (.int .i64 xa) (.string sa) (.slice ana lna cna) (.slice aia lia cia) = w9 at hr5 hB5 hfin ⊢
  have q0 : w9.cell? ⟨w.heap.size + 1, 0, none⟩ = some (.int .i64 ka) := cell_of hr5 0
  have q1 : w9.cell? ⟨w.heap.size + 1, 1, none⟩ = some (.int .i64 xa) := cell_of hr5 1
  have q2 : w9.cell? ⟨w.heap.size + 1, 2, none⟩ = some (.string sa) := cell_of hr5 2
  have q3 : w9.cell? ⟨w.heap.size + 1, 3, none⟩ = some (.slice ana lna cna) := cell_of hr5 3
  have q4 : w9.cell? ⟨w.heap.size + 1, 4, none⟩ = some (.slice aia lia cia) := cell_of hr5 4
  refine bodyPost_ret (v := .tuple #[.agg #[.int .i64 ka, .int .i64 xa, .string sa, .slice ana lna cna, .slice aia lia cia], .bool false, .int .i64 0, .int .i64 0]) (by simp [results, Tryz.results8, go_sem, q0, q1, q2, q3, q4]) rfl ?_
  exact ⟨hB5.out, ⟨ka, xa, sa, ana, lna, cna, aia, lia, cia⟩, rfl, hfin.out⟩
end Go.Proofs.YthgnkhpomhcdkaaGreatDoor
/-! update: UpdateNil. -/
namespace Go.Proofs.YthgnkhpomhcdkaaGreatDoor
open Go Go.RowKit Dp

set_option maxHeartbeats 4000000 in
set_option maxRecDepth 100000 in
theorem nil_true (t : Tr) (u : V5) (w : World) (hV : Hid (VRep w t u.cs)) (hS : Hid (SmallT t)) (hE : Hid (EnvU w)) :
    Calls Tryz.prog 4 #[u.v] w fun e w' => e = .returned (.bool true) ∧ Below w.heap.size w w' := by
  have hB0 := (Below.refl w.heap.size w).alloc (Nat.le_refl _) (u.obj 28)
  have X0 := heap_alloc_new w (u.obj 28)
  have HV0 := VRep.keep hB0 _ _ hV.out
  have hE0 := hE.out.keep hB0
  generalize hW0 : w.alloc (u.obj 28) = W0 at *
  have hlg := hid_of (large_any t u W0 HV0)
  obtain ⟨z0, z1, z2, z3, z4⟩ := box_five X0 (Below.refl _ W0)
  replace hB0 := hid_of hB0; replace X0 := hid_of X0; replace HV0 := hid_of HV0; replace hE0 := hid_of hE0
  clear hV hE
  unfold V5.v V5.obj at *
  go_enter Tryz.func4, Tryz.ntmps4
  go_wp2_with (rw [hW0])
  refine hlg.out.mono ?_
  rintro e W1 ⟨⟨b, rfl⟩, hb1⟩
  have X1 := hid_of (block_keep X0.out hb1)
  have HV1 := hid_of (VRep.keep hb1 _ _ HV0.out)
  have HE1 := hid_of (hE0.out.keep hb1)
  have HB1 := hid_of (hB0.out.trans (hb1.mono hB0.out.size))
  clear hb1 hlg X0 HV0 hE0 hB0 z0 z1 z2 z3 z4 hW0
  obtain ⟨z0, z1, z2, z3, z4⟩ := box_five (u := u) X1.out (Below.refl _ W1)
  cases b with
  | true =>
    go_wp2_with fail
    go_ret
    exact ⟨rfl, HB1.out⟩
  | false =>
    have hcp := hid_of (copy_v5 t u W1 HV1.out hS.out)
    unfold V5.v at hcp
    go_wp2_with fail
    refine hcp.out.mono ?_
    rintro e W2 ⟨⟨ka, xa, sa, ana, lna, cna, aia, lia, cia⟩, rfl, hy, hb2⟩
    have X2 := hid_of (block_keep X1.out hb2)
    have HV2 := hid_of (VRep.keep hb2 _ _ HV1.out)
    have HE2 := hid_of (HE1.out.keep hb2)
    have HB2 := hid_of (HB1.out.trans (hb2.mono HB1.out.size))
    have hap := hid_of (apply_nil t true ⟨ka, xa, sa, ana, lna, cna, aia, lia, cia⟩ W2 hy hS.out)
    clear hb2 hcp hy X1 HV1 HE1 HB1 z0 z1 z2 z3 z4
    unfold V5.v at *
    dsimp only at *
    go_wp2_with fail
    refine hap.out.mono ?_
    rintro e W3 ⟨hb3, ⟨kb, xb, sb, anb, lnb, cnb, aib, lib, cib⟩, rfl, hy⟩
    dsimp only
    have hbA : Below W3.heap.size W3 (W3.alloc (.cells #[.int .i64 kb, .int .i64 xb, .string sb, .slice anb lnb cnb, .slice aib lib cib] 28)) := (Below.refl _ W3).alloc (Nat.le_refl _) _
    have Y3 := heap_alloc_new W3 (V5.obj ⟨kb, xb, sb, anb, lnb, cnb, aib, lib, cib⟩ 28)
    have hb4 := hb3.trans (hbA.mono hb3.size)
    have X3 := block_keep X2.out hb4
    have HV3 := VRep.keep hb4 _ _ HV2.out
    have HE3 := hid_of (HE2.out.keep hb4)
    have HB3 := hid_of (HB2.out.trans (hb4.mono HB2.out.size))
    have hy3 := VRep.keep hbA _ _ hy
    have heq := hid_of (same_v5 t ⟨kb, xb, sb, anb, lnb, cnb, aib, lib, cib⟩ u _ hy3 HV3)
    unfold V5.obj V5.v at *
    dsimp only at *
    clear hap hb3 hb4 hbA HV2 HE2 HB2 X2 hy
    obtain ⟨z0, z1, z2, z3, z4⟩ := box_five (u := u) X3 (Below.refl _ _)
    obtain ⟨y0, y1, y2, y3, y4⟩ := box_five (u := ⟨kb, xb, sb, anb, lnb, cnb, aib, lib, cib⟩) Y3 (Below.refl _ _)
    dsimp only at y0 y1 y2 y3 y4
    clear HV3 X3 Y3 hy3
    go_wp2_with fail
    refine heq.out.mono ?_
    rintro e W5 ⟨rfl, hb5⟩
    have HE5 := HE3.out.keep hb5
    have HB5 := hid_of (HB3.out.trans (hb5.mono HB3.out.size))
    have hlv := hid_of (live_true W5 HE5)
    clear hb5 heq HE3 HB3 z0 z1 z2 z3 z4 y0 y1 y2 y3 y4 HE5
    go_wp2_with fail
    refine (num_any 0 _).mono ?_
    rintro e Z ⟨rfl, hZ⟩
    obtain rfl : W5 = Z := hZ.symm
    clear hZ
    go_wp2_with fail
    refine (terms_nil _).mono ?_
    rintro e Z ⟨rfl, hZ⟩
    obtain rfl : W5 = Z := hZ.symm
    clear hZ
    go_wp2_with fail
    refine (touches_nil _).mono ?_
    rintro e Z ⟨rfl, hZ⟩
    obtain rfl : W5 = Z := hZ.symm
    clear hZ
    go_wp2_with fail
    refine hlv.out.mono ?_
    rintro e W6 ⟨rfl, hb6⟩
    go_wp2_with fail
    go_ret
    exact ⟨rfl, HB5.out.trans (hb6.mono HB5.out.size)⟩
end Go.Proofs.YthgnkhpomhcdkaaGreatDoor
