import Derived.Test.YtjhefkojfojjdaaGreatDoorR8
import Derived.Test.YtjhefkojfojjdaaGreatDoorR9
import Derived.Test.YtjhefkojfojjdaaGreatDoorW26
/-! Check, Print, Size, Depth of every value: the walk. -/
namespace Go.Proofs.YtjhefkojfojjdaaGreatDoor.Tree
open Go Go.RowKit

/-- What was handed in. -/
structure OneP (w : World) (b : Array Value) (wx : World) : Prop where
  below : Below w.heap.size w wx
  box : wx.heap[w.heap.size]? = some (.cells b 25 (0, 0))
theorem OneP.keep {w wx wy : World} {b : Array Value} (h : OneP w b wx) (hb : Below wx.heap.size wx wy) : OneP w b wy :=
  ⟨h.below.trans (hb.mono h.below.size), (hb.block _ (Array.getElem?_eq_some_iff.1 h.box).1).trans h.box⟩
set_option maxHeartbeats 8000000 in
set_option maxRecDepth 100000 in
theorem prints_true (k1 x1 : Int) (s1 : ByteArray) (an1 : Option Addr) (ln1 cn1 : Nat) (ai1 : Option Addr) (li1 ci1 : Nat) (V : Tr) (w : World) (hV : Hid (VRep w V (five k1 x1 s1 (.slice an1 ln1 cn1) (.slice ai1 li1 ci1)))) (hS : Hid (SmallT V)) (hR : Hid (RangeT V)) (hT : lenT V ≤ 1000000000) (hE : Hid (Env w)) (hP : Hid (EnvP w)) :
    Calls Tryz.prog 3 #[.agg #[.int .i64 k1, .int .i64 x1, .string s1, .slice an1 ln1 cn1, .slice ai1 li1 ci1]] w fun e w' => e = .returned (.bool true) ∧ Below w.heap.size w w' := by
  have hlg := fun o => hid_e (large_parts k1 x1 s1 an1 ln1 cn1 ai1 li1 ci1 V (w.alloc o) (hid_e (VRep.keep ((Below.refl _ w).alloc (Nat.le_refl _) o) _ _ hV.out)) hS)
  have h8 := hP.out.big
  obtain ⟨pe, hpe⟩ : ∃ c, Hid (printE V = c) := ⟨_, hid_e rfl⟩
  obtain ⟨ps, hps⟩ : ∃ c, Hid (printS V = c) := ⟨_, hid_e rfl⟩
  obtain ⟨cc, hcc⟩ : ∃ c, Hid (checkT 0 V = c) := ⟨_, hid_e rfl⟩
  obtain ⟨sz, hsz⟩ : ∃ c, Hid (sizeT V = c) := ⟨_, hid_e rfl⟩
  obtain ⟨dp, hdp⟩ : ∃ c : Int, Hid ((depthT V : Int) = c) := ⟨_, hid_e rfl⟩
  go_enter Tryz.func3, Tryz.ntmps3
  go_wp2_with fail
  go_fit (hlg _).out
  rintro e X0 ⟨⟨z, rfl, hz⟩, hb⟩
  have hT0 : OneP w #[.int .i64 k1, .int .i64 x1, .string s1, .slice an1 ln1 cn1, .slice ai1 li1 ci1] X0 := ⟨below_box hb, (hb.block _ (by simp)).trans (heap_alloc_new w _)⟩
  clear hb hlg
  cases z
  rotate_left
  · go_wp2_with fail
    go_ret
    exact ⟨rfl, hT0.below⟩
  have hdt : Hid (depthT V ≤ 1000000) := by have h1 := hz rfl; have h2 := depthT_parts V; rw [Hid]; omega
  clear hz
  obtain ⟨c0, c1, c2, c3, c4, -⟩ := row_cells hT0.box
  go_wp2_with fail
  clear c0 c1 c2 c3 c4
  go_fit (copy_any V _ X0 (VRep.keep hT0.below _ _ hV.out) hS.out)
  rintro e Yg ⟨kg, xg, sg, ang, lng, cng, aig, lig, cig, rfl, hsn, hbw⟩
  have hvg := hsn.rep
  clear hsn
  have hT1 := hT0.keep (hbw.alloc hbw.size (.cells #[.int .i64 kg, .int .i64 xg, .string sg, .slice ang lng cng, .slice aig lig cig] 25))
  have hg := heap_alloc_new Yg (.cells #[.int .i64 kg, .int .i64 xg, .string sg, .slice ang lng cng, .slice aig lig cig] 25)
  replace hvg := hid_e (VRep.keep ((Below.refl _ Yg).alloc (Nat.le_refl _) (.cells #[.int .i64 kg, .int .i64 xg, .string sg, .slice ang lng cng, .slice aig lig cig] 25)) _ _ hvg)
  clear hbw hT0
  go_upto_region 4 with fail
  generalize Yg.alloc (.cells #[.int .i64 kg, .int .i64 xg, .string sg, .slice ang lng cng, .slice aig lig cig] 25) = Wg at hT1 hg hvg ⊢
  obtain ⟨gg, hgg⟩ : ∃ g, Yg.heap.size = g := ⟨_, rfl⟩
  rw [hgg] at hg
  rw [hgg]
  clear hgg
  have hpr := hid_e (print_code V kg xg sg ang lng cng aig lig cig Wg hvg hS hR (by omega) (hid_e (hP.out.below hT1.below h8)))
  rw [hps.out, hpe.out] at hpr
  obtain ⟨e0, e1, e2, e3, e4, -⟩ := row_cells hg
  go_wp2_with fail
  clear e0 e1 e2 e3 e4
  go_fit hpr.out
  rintro e X1 ⟨rfl, hb1⟩
  have hT2 := hT1.keep hb1
  replace hg := (hb1.block _ (Array.getElem?_eq_some_iff.1 hg).1).trans hg
  replace hvg := hid_e (VRep.keep hb1 _ _ hvg.out)
  clear hb1 hpr hT1
  have hpr := hid_e (ref_print V k1 x1 s1 an1 ln1 cn1 ai1 li1 ci1 X1 (hid_e (VRep.keep hT2.below _ _ hV.out)) hS hR hT)
  rw [hps.out, hpe.out] at hpr
  obtain ⟨e0, e1, e2, e3, e4, -⟩ := row_cells hT2.box
  go_upto_region 5 with fail
  go_wp2_with fail
  clear e0 e1 e2 e3 e4
  go_fit hpr.out
  rintro e X ⟨rfl, hb1⟩
  have hT3 := hT2.keep hb1
  replace hg := (hb1.block _ (Array.getElem?_eq_some_iff.1 hg).1).trans hg
  replace hvg := hid_e (VRep.keep hb1 _ _ hvg.out)
  clear hb1 hpr hT2
  have HW := fun W (hW : Below X.heap.size X W) => hid_e (hT3.below.trans (hW.mono hT3.below.size))
  have q1 := fun W (hW : Below X.heap.size X W) => hid_e (check_code V kg xg sg ang lng cng aig lig cig W (VRep.keep hW _ _ hvg.out) hS.out (utf_below hP.out.utf (HW W hW).out h8) (Nat.le_trans h8 (HW W hW).out.size))
  have q2 := fun W (hW : Below X.heap.size X W) => hid_e (ref_check V k1 x1 s1 an1 ln1 cn1 ai1 li1 ci1 W (VRep.keep (HW W hW).out _ _ hV.out) hS.out)
  have q3 := fun W (hW : Below X.heap.size X W) => hid_e (size_code V kg xg sg ang lng cng aig lig cig W (hid_e (VRep.keep hW _ _ hvg.out)) hS hR (by omega) (hid_e (hP.out.below (HW W hW).out h8)))
  have q4 := fun W (hW : Below X.heap.size X W) => hid_e (ref_size V k1 x1 s1 an1 ln1 cn1 ai1 li1 ci1 W (hid_e (VRep.keep (HW W hW).out _ _ hV.out)) hS hR hT)
  have q5 := fun W (hW : Below X.heap.size X W) => hid_e (depth_any V _ W (VRep.keep hW _ _ hvg.out) hS.out hdt.out)
  have q6 := fun W (hW : Below X.heap.size X W) => hid_e (rdepth_any V _ W (VRep.keep (HW W hW).out _ _ hV.out) hS.out hdt.out)
  have q7 := fun W (hW : Below X.heap.size X W) => hid_e (equal_same V _ _ W (VRep.keep hW _ _ hvg.out) (VRep.keep (HW W hW).out _ _ hV.out))
  have q8 := fun W (hW : Below X.heap.size X W) => hid_e (live_true W (hE.out.below (HW W hW).out h8) (hP.out.below (HW W hW).out h8))
  rw [hcc.out] at q1 q2
  rw [hsz.out] at q3 q4
  rw [hdp.out] at q5 q6
  obtain ⟨e0, e1, e2, e3, e4, -⟩ := row_cells hg
  obtain ⟨f0, f1, f2, f3, f4, -⟩ := row_cells hT3.box
  clear hdt hT hpe hps hcc hsz hdp
  go_upto_region 6 with fail
  refine wp_region_quiet (C := fun w' => Below X.heap.size X w') (by kernel_rfl) (by kernel_rfl) (below_drewN (Below.refl _ _) 1) ?_
  refine wpQuiet_step (fun K hK => ?_)
  go_simp
  refine ⟨_, fun _ _ => rfl, hK _ ?_⟩
  clear hK K
  refine wpQuiet_step (fun K hK => ?_)
  refine ⟨.int .i64 pe, fun w' hw' => ?_, hK _ ?_⟩
  · go_simp
    refine (num_int pe w').mono ?_
    rintro e w'' ⟨rfl, rfl⟩
    exact ⟨rfl, hw'⟩
  clear hK K
  refine wpQuiet_step (fun K hK => ?_)
  go_simp
  refine ⟨_, fun _ _ => rfl, hK _ ?_⟩
  clear hK K
  refine wpQuiet_step (fun K hK => ?_)
  first | refine k_quiet_if (by kernel_rfl) ?_ | skip
  refine ⟨.bool true, fun w' _ => ?_, hK _ ?_⟩
  · go_simp
  clear hK K
  refine wpQuiet_step (fun K hK => ?_)
  go_simp
  refine ⟨_, fun _ _ => rfl, hK _ ?_⟩
  clear hK K
  refine wpQuiet_step (fun K hK => ?_)
  go_simp
  refine ⟨_, fun _ _ => rfl, hK _ ?_⟩
  clear hK K
  refine wpQuiet_step (fun K hK => ?_)
  go_simp
  refine ⟨_, fun _ _ => rfl, hK _ ?_⟩
  clear hK K
  refine wpQuiet_step (fun K hK => ?_)
  first | refine k_quiet_if (by kernel_rfl) ?_ | skip
  refine ⟨.bool true, fun w' _ => ?_, hK _ ?_⟩
  · go_simp
  clear hK K
  refine wpQuiet_step (fun K hK => ?_)
  first | refine k_quiet_if (by kernel_rfl) ?_ | skip
  refine ⟨.bool true, fun w' _ => ?_, hK _ ?_⟩
  · go_simp
  clear hK K
  refine wpQuiet_step (fun K hK => ?_)
  go_simp
  refine ⟨_, fun _ _ => rfl, hK _ ?_⟩
  clear hK K
  refine wpQuiet_step (fun K hK => ?_)
  refine k_quiet_if (by kernel_rfl) ?_
  refine ⟨.agg #[.int .i64 kg, .int .i64 xg, .string sg, .slice ang lng cng, .slice aig lig cig], fun w' hw' => ?_, hK _ ?_⟩
  · have t0 := stay hw' e0
    have t1 := stay hw' e1
    have t2 := stay hw' e2
    have t3 := stay hw' e3
    have t4 := stay hw' e4
    go_simp
  clear hK K
  refine wpQuiet_step (fun K hK => ?_)
  refine k_quiet_if (by kernel_rfl) ?_
  refine ⟨.int .i64 cc, fun w' hw' => ?_, hK _ ?_⟩
  · go_simp
    refine ((q1 w' hw').out).mono ?_
    rintro e w'' ⟨rfl, hb⟩
    exact ⟨rfl, hw'.trans (hb.mono hw'.size)⟩
  clear hK K
  refine wpQuiet_step (fun K hK => ?_)
  refine k_quiet_if (by kernel_rfl) ?_
  refine ⟨.int .i64 cc, fun w' hw' => ?_, hK _ ?_⟩
  · go_simp
    refine (num_int cc w').mono ?_
    rintro e w'' ⟨rfl, rfl⟩
    exact ⟨rfl, hw'⟩
  clear hK K
  refine wpQuiet_step (fun K hK => ?_)
  refine k_quiet_if (by kernel_rfl) ?_
  refine ⟨.agg #[.int .i64 k1, .int .i64 x1, .string s1, .slice an1 ln1 cn1, .slice ai1 li1 ci1], fun w' hw' => ?_, hK _ ?_⟩
  · have t0 := stay hw' f0
    have t1 := stay hw' f1
    have t2 := stay hw' f2
    have t3 := stay hw' f3
    have t4 := stay hw' f4
    go_simp
  clear hK K
  refine wpQuiet_step (fun K hK => ?_)
  refine k_quiet_if (by kernel_rfl) ?_
  refine ⟨.int .i64 cc, fun w' hw' => ?_, hK _ ?_⟩
  · go_simp
    refine ((q2 w' hw').out).mono ?_
    rintro e w'' ⟨rfl, hb⟩
    exact ⟨rfl, hw'.trans (hb.mono hw'.size)⟩
  clear hK K
  refine wpQuiet_step (fun K hK => ?_)
  first | refine k_quiet_if (by kernel_rfl) ?_ | skip
  refine ⟨.bool true, fun w' _ => ?_, hK _ ?_⟩
  · go_simp
  clear hK K
  refine wpQuiet_step (fun K hK => ?_)
  first | refine k_quiet_if (by kernel_rfl) ?_ | skip
  refine ⟨.bool true, fun w' _ => ?_, hK _ ?_⟩
  · go_simp
  clear hK K
  refine wpQuiet_step (fun K hK => ?_)
  go_simp
  refine ⟨_, fun _ _ => rfl, hK _ ?_⟩
  clear hK K
  refine wpQuiet_step (fun K hK => ?_)
  refine k_quiet_if (by kernel_rfl) ?_
  refine ⟨.agg #[.int .i64 kg, .int .i64 xg, .string sg, .slice ang lng cng, .slice aig lig cig], fun w' hw' => ?_, hK _ ?_⟩
  · have t0 := stay hw' e0
    have t1 := stay hw' e1
    have t2 := stay hw' e2
    have t3 := stay hw' e3
    have t4 := stay hw' e4
    go_simp
  clear hK K
  refine wpQuiet_step (fun K hK => ?_)
  refine k_quiet_if (by kernel_rfl) ?_
  refine ⟨.int .i64 sz, fun w' hw' => ?_, hK _ ?_⟩
  · go_simp
    refine ((q3 w' hw').out).mono ?_
    rintro e w'' ⟨rfl, hb⟩
    exact ⟨rfl, hw'.trans (hb.mono hw'.size)⟩
  clear hK K
  refine wpQuiet_step (fun K hK => ?_)
  refine k_quiet_if (by kernel_rfl) ?_
  refine ⟨.agg #[.int .i64 k1, .int .i64 x1, .string s1, .slice an1 ln1 cn1, .slice ai1 li1 ci1], fun w' hw' => ?_, hK _ ?_⟩
  · have t0 := stay hw' f0
    have t1 := stay hw' f1
    have t2 := stay hw' f2
    have t3 := stay hw' f3
    have t4 := stay hw' f4
    go_simp
  clear hK K
  refine wpQuiet_step (fun K hK => ?_)
  refine k_quiet_if (by kernel_rfl) ?_
  refine ⟨.int .i64 sz, fun w' hw' => ?_, hK _ ?_⟩
  · go_simp
    refine ((q4 w' hw').out).mono ?_
    rintro e w'' ⟨rfl, hb⟩
    exact ⟨rfl, hw'.trans (hb.mono hw'.size)⟩
  clear hK K
  refine wpQuiet_step (fun K hK => ?_)
  first | refine k_quiet_if (by kernel_rfl) ?_ | skip
  refine ⟨.bool true, fun w' _ => ?_, hK _ ?_⟩
  · go_simp
  clear hK K
  refine wpQuiet_step (fun K hK => ?_)
  first | refine k_quiet_if (by kernel_rfl) ?_ | skip
  refine ⟨.bool true, fun w' _ => ?_, hK _ ?_⟩
  · go_simp
  clear hK K
  refine wpQuiet_step (fun K hK => ?_)
  go_simp
  refine ⟨_, fun _ _ => rfl, hK _ ?_⟩
  clear hK K
  refine wpQuiet_step (fun K hK => ?_)
  refine k_quiet_if (by kernel_rfl) ?_
  refine ⟨.agg #[.int .i64 kg, .int .i64 xg, .string sg, .slice ang lng cng, .slice aig lig cig], fun w' hw' => ?_, hK _ ?_⟩
  · have t0 := stay hw' e0
    have t1 := stay hw' e1
    have t2 := stay hw' e2
    have t3 := stay hw' e3
    have t4 := stay hw' e4
    go_simp
  clear hK K
  refine wpQuiet_step (fun K hK => ?_)
  refine k_quiet_if (by kernel_rfl) ?_
  refine ⟨.int .i64 dp, fun w' hw' => ?_, hK _ ?_⟩
  · go_simp
    refine ((q5 w' hw').out).mono ?_
    rintro e w'' ⟨rfl, hb⟩
    exact ⟨rfl, hw'.trans (hb.mono hw'.size)⟩
  clear hK K
  refine wpQuiet_step (fun K hK => ?_)
  refine k_quiet_if (by kernel_rfl) ?_
  refine ⟨.agg #[.int .i64 k1, .int .i64 x1, .string s1, .slice an1 ln1 cn1, .slice ai1 li1 ci1], fun w' hw' => ?_, hK _ ?_⟩
  · have t0 := stay hw' f0
    have t1 := stay hw' f1
    have t2 := stay hw' f2
    have t3 := stay hw' f3
    have t4 := stay hw' f4
    go_simp
  clear hK K
  refine wpQuiet_step (fun K hK => ?_)
  refine k_quiet_if (by kernel_rfl) ?_
  refine ⟨.int .i64 dp, fun w' hw' => ?_, hK _ ?_⟩
  · go_simp
    refine ((q6 w' hw').out).mono ?_
    rintro e w'' ⟨rfl, hb⟩
    exact ⟨rfl, hw'.trans (hb.mono hw'.size)⟩
  clear hK K
  refine wpQuiet_step (fun K hK => ?_)
  first | refine k_quiet_if (by kernel_rfl) ?_ | skip
  refine ⟨.bool true, fun w' _ => ?_, hK _ ?_⟩
  · go_simp
  clear hK K
  refine wpQuiet_step (fun K hK => ?_)
  first | refine k_quiet_if (by kernel_rfl) ?_ | skip
  refine ⟨.bool true, fun w' _ => ?_, hK _ ?_⟩
  · go_simp
  clear hK K
  refine wpQuiet_step (fun K hK => ?_)
  go_simp
  refine ⟨_, fun _ _ => rfl, hK _ ?_⟩
  clear hK K
  refine wpQuiet_step (fun K hK => ?_)
  refine k_quiet_if (by kernel_rfl) ?_
  refine ⟨.agg #[.int .i64 kg, .int .i64 xg, .string sg, .slice ang lng cng, .slice aig lig cig], fun w' hw' => ?_, hK _ ?_⟩
  · have t0 := stay hw' e0
    have t1 := stay hw' e1
    have t2 := stay hw' e2
    have t3 := stay hw' e3
    have t4 := stay hw' e4
    go_simp
  clear hK K
  refine wpQuiet_step (fun K hK => ?_)
  refine k_quiet_if (by kernel_rfl) ?_
  refine ⟨.agg #[.int .i64 k1, .int .i64 x1, .string s1, .slice an1 ln1 cn1, .slice ai1 li1 ci1], fun w' hw' => ?_, hK _ ?_⟩
  · have t0 := stay hw' f0
    have t1 := stay hw' f1
    have t2 := stay hw' f2
    have t3 := stay hw' f3
    have t4 := stay hw' f4
    go_simp
  clear hK K
  refine wpQuiet_step (fun K hK => ?_)
  refine k_quiet_if (by kernel_rfl) ?_
  refine ⟨.bool true, fun w' hw' => ?_, hK _ ?_⟩
  · go_simp
    refine ((q7 w' hw').out).mono ?_
    rintro e w'' ⟨rfl, hb⟩
    exact ⟨rfl, hw'.trans (hb.mono hw'.size)⟩
  clear hK K
  refine wpQuiet_step (fun K hK => ?_)
  first | refine k_quiet_if (by kernel_rfl) ?_ | skip
  refine ⟨.bool true, fun w' _ => ?_, hK _ ?_⟩
  · go_simp
  clear hK K
  refine wpQuiet_step (fun K hK => ?_)
  go_simp
  refine ⟨_, fun _ _ => rfl, hK _ ?_⟩
  clear hK K
  refine wpQuiet_step (fun K hK => ?_)
  refine k_quiet_if (by kernel_rfl) ?_
  refine ⟨.bool true, fun w' hw' => ?_, hK _ ?_⟩
  · go_simp
    refine ((q8 w' hw').out).mono ?_
    rintro e w'' ⟨rfl, hb⟩
    exact ⟨rfl, hw'.trans (hb.mono hw'.size)⟩
  clear hK K
  refine wpQuiet_step (fun K hK => ?_)
  first | refine k_quiet_if (by kernel_rfl) ?_ | skip
  refine ⟨.bool true, fun w' _ => ?_, hK _ ?_⟩
  · go_simp
  clear hK K
  refine wpQuiet_step (fun K hK => ?_)
  go_simp
  refine ⟨_, fun _ _ => rfl, hK _ ?_⟩
  clear hK K
  refine wpQuiet_nil ?_
  intro w' hw'
  go_wp2_with fail
  go_ret
  exact ⟨rfl, (HW w' hw').out⟩
end Go.Proofs.YtjhefkojfojjdaaGreatDoor.Tree
