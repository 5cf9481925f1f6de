import Derived.Test.YtldieaoaigadlaaDoorM3
/-! Every Rank and Compare: the walk. -/
namespace Go.Proofs.YtldieaoaigadlaaDoor
open Go Go.RowKit

/-- Two values that were handed in. -/
structure Two (w : World) (b1 b2 : Array Value) (wx : World) : Prop where
  below : Below w.heap.size w wx
  one : wx.heap[w.heap.size]? = some (.cells b1 28 (0, 0))
  two : wx.heap[w.heap.size + 1]? = some (.cells b2 28 (0, 0))
theorem Two.keep {w wx wy : World} {b1 b2 : Array Value} (h : Two w b1 b2 wx) (hb : Below wx.heap.size wx wy) : Two w b1 b2 wy :=
  ⟨h.below.trans (hb.mono h.below.size), (hb.block _ (Array.getElem?_eq_some_iff.1 h.one).1).trans h.one, (hb.block _ (Array.getElem?_eq_some_iff.1 h.two).1).trans h.two⟩
theorem two_new (w : World) (b1 b2 : Array Value) : Two w b1 b2 ((w.alloc (.cells b1 28)).alloc (.cells b2 28)) :=
  ⟨((Below.refl _ w).alloc (Nat.le_refl _) _).alloc (by simp) _, new1 w _ _, new2 w _ _⟩
theorem block_keep {w wx : World} {g : Nat} {o : Obj} (h : w.heap[g]? = some o) (hb : Below w.heap.size w wx) : wx.heap[g]? = some o := (hb.block _ (Array.getElem?_eq_some_iff.1 h).1).trans h

theorem vrep_kind {W : World} {t : Tr} {k x : Int} {s : ByteArray} {nm it : Value} {k' x' : Int} {s' : ByteArray} {nm' it' : Value} (h : VRep W t (five k x s nm it)) (h' : VRep W t (five k' x' s' nm' it')) : k = k' := by
  cases t with
  | node k0 x0 s0 ns its =>
    unfold VRep at h h'
    obtain ⟨_, _, _, e, _⟩ := h
    obtain ⟨_, _, _, e', _⟩ := h'
    unfold five at e e'
    simp at e e'
    rw [e.1, e'.1]
set_option maxHeartbeats 4000000 in
set_option maxRecDepth 100000 in
theorem compares_true (k1 x1 : Int) (s1 : ByteArray) (an1 : Option Addr) (ln1 cn1 : Nat) (ai1 : Option Addr) (li1 ci1 : Nat) (k2 x2 : Int) (s2 : ByteArray) (an2 : Option Addr) (ln2 cn2 : Nat) (ai2 : Option Addr) (li2 ci2 : Nat) (t1 t2 : Tr) (w : World) (hV1 : Hid (VRep w t1 (five k1 x1 s1 (.slice an1 ln1 cn1) (.slice ai1 li1 ci1)))) (hV2 : Hid (VRep w t2 (five k2 x2 s2 (.slice an2 ln2 cn2) (.slice ai2 li2 ci2)))) (hS1 : Hid (SmallT t1)) (hS2 : Hid (SmallT t2)) :
    Calls Tryd.prog 7 #[.agg #[.int .i64 k1, .int .i64 x1, .string s1, .slice an1 ln1 cn1, .slice ai1 li1 ci1], .agg #[.int .i64 k2, .int .i64 x2, .string s2, .slice an2 ln2 cn2, .slice ai2 li2 ci2]] w fun e w' => e = .returned (.bool true) ∧ Below w.heap.size w w' := by
  have hlg1 := fun W (hW : Below w.heap.size w W) => hid_e (large_one k1 x1 s1 an1 ln1 cn1 ai1 li1 ci1 t1 W (hid_e (VRep.keep hW _ _ hV1.out)))
  have hlg2 := fun W (hW : Below w.heap.size w W) => hid_e (large_one k2 x2 s2 an2 ln2 cn2 ai2 li2 ci2 t2 W (hid_e (VRep.keep hW _ _ hV2.out)))
  have hcp1 := fun W (hW : Below w.heap.size w W) => hid_e (copy_any t1 _ W (VRep.keep hW _ _ hV1.out) hS1.out)
  have hcp2 := fun W (hW : Below w.heap.size w W) => hid_e (copy_any t2 _ W (VRep.keep hW _ _ hV2.out) hS2.out)
  go_enter Tryd.func7, Tryd.ntmps7
  go_upto_region 1 with fail
  have hT0 : Two w #[.int .i64 k1, .int .i64 x1, .string s1, .slice an1 ln1 cn1, .slice ai1 li1 ci1] #[.int .i64 k2, .int .i64 x2, .string s2, .slice an2 ln2 cn2, .slice ai2 li2 ci2] ((w.alloc (.cells #[.int .i64 k1, .int .i64 x1, .string s1, .slice an1 ln1 cn1, .slice ai1 li1 ci1] 28)).alloc (.cells #[.int .i64 k2, .int .i64 x2, .string s2, .slice an2 ln2 cn2, .slice ai2 li2 ci2] 28)) := two_new w _ _
  generalize (w.alloc (.cells #[.int .i64 k1, .int .i64 x1, .string s1, .slice an1 ln1 cn1, .slice ai1 li1 ci1] 28)).alloc (.cells #[.int .i64 k2, .int .i64 x2, .string s2, .slice an2 ln2 cn2, .slice ai2 li2 ci2] 28) = X0 at hT0
  go_cut [12] (fun v wx => (∃ z : Bool, v = .bool z) ∧ Two w #[.int .i64 k1, .int .i64 x1, .string s1, .slice an1 ln1 cn1, .slice ai1 li1 ci1] #[.int .i64 k2, .int .i64 x2, .string s2, .slice an2 ln2 cn2, .slice ai2 li2 ci2] wx)
  case first =>
    obtain ⟨y0, y1, y2, y3, y4, -⟩ := row_cells hT0.one
    go_wp2_with fail
    clear y0 y1 y2 y3 y4
    refine (hlg1 X0 hT0.below).out.mono ?_
    rintro e X1 ⟨⟨z1, rfl⟩, hb⟩
    have hT1 := hT0.keep hb
    clear hb
    obtain ⟨y0, y1, y2, y3, y4, -⟩ := row_cells hT1.two
    cases z1
    · go_wp2_with fail
      clear y0 y1 y2 y3 y4
      refine (hlg2 X1 hT1.below).out.mono ?_
      rintro e X2 ⟨⟨z2, rfl⟩, hb⟩
      have hT2 := hT1.keep hb
      clear hb
      go_wp2_with fail
      go_meet
      exact ⟨⟨_, rfl⟩, hT2⟩
    · go_wp2_with fail
      go_meet
      exact ⟨⟨_, rfl⟩, hT1⟩
  case rest =>
    clear hT0 hlg1 hlg2
    obtain ⟨⟨z, rfl⟩, hT0⟩ := hcut
    cases z
    · obtain ⟨y0, y1, y2, y3, y4, -⟩ := row_cells hT0.one
      go_wp2_with fail
      clear y0 y1 y2 y3 y4
      refine (hcp1 _ hT0.below).out.mono ?_
      rintro e Y ⟨ka, xa, sa, ana, lna, cna, aia, lia, cia, rfl, hsa, hb⟩
      have hT1 := hT0.keep (hb.alloc hb.size (.cells #[.int .i64 ka, .int .i64 xa, .string sa, .slice ana lna cna, .slice aia lia cia] 28))
      have hA := heap_alloc_new Y (.cells #[.int .i64 ka, .int .i64 xa, .string sa, .slice ana lna cna, .slice aia lia cia] 28)
      have hva := hid_e (VRep.keep ((Below.refl _ Y).alloc (Nat.le_refl _) (.cells #[.int .i64 ka, .int .i64 xa, .string sa, .slice ana lna cna, .slice aia lia cia] 28)) _ _ hsa.rep)
      clear hsa hb hT0
      obtain ⟨y0, y1, y2, y3, y4, -⟩ := row_cells hT1.two
      go_upto_region 4 with fail
      generalize Y.alloc (.cells #[.int .i64 ka, .int .i64 xa, .string sa, .slice ana lna cna, .slice aia lia cia] 28) = Y1 at hT1 hA hva y0 y1 y2 y3 y4 ⊢
      obtain ⟨ga, hga⟩ : ∃ g, Y.heap.size = g := ⟨_, rfl⟩
      rw [hga] at hA
      rw [hga]
      clear hga
      go_wp2_with fail
      clear y0 y1 y2 y3 y4
      refine (hcp2 _ hT1.below).out.mono ?_
      rintro e Z ⟨kb, xb, sb, anb, lnb, cnb, aib, lib, cib, rfl, hsb, hb⟩
      have hT2 := hT1.keep (hb.alloc hb.size (.cells #[.int .i64 kb, .int .i64 xb, .string sb, .slice anb lnb cnb, .slice aib lib cib] 28))
      replace hA := block_keep hA (hb.alloc hb.size (.cells #[.int .i64 kb, .int .i64 xb, .string sb, .slice anb lnb cnb, .slice aib lib cib] 28))
      replace hva := hid_e (VRep.keep (hb.alloc hb.size (.cells #[.int .i64 kb, .int .i64 xb, .string sb, .slice anb lnb cnb, .slice aib lib cib] 28)) _ _ hva.out)
      have hBk := heap_alloc_new Z (.cells #[.int .i64 kb, .int .i64 xb, .string sb, .slice anb lnb cnb, .slice aib lib cib] 28)
      have hvb := hid_e (VRep.keep ((Below.refl _ Z).alloc (Nat.le_refl _) (.cells #[.int .i64 kb, .int .i64 xb, .string sb, .slice anb lnb cnb, .slice aib lib cib] 28)) _ _ hsb.rep)
      clear hsb hb hT1
      go_upto_region 5 with fail
      generalize Z.alloc (.cells #[.int .i64 kb, .int .i64 xb, .string sb, .slice anb lnb cnb, .slice aib lib cib] 28) = X at hT2 hA hva hBk hvb ⊢
      obtain ⟨gb, hgb⟩ : ∃ g, Z.heap.size = g := ⟨_, rfl⟩
      rw [hgb] at hBk
      rw [hgb]
      clear hgb
      obtain ⟨p0, p1, p2, p3, p4, -⟩ := row_cells hT2.one
      obtain ⟨q0, q1, q2, q3, q4, -⟩ := row_cells hT2.two
      obtain ⟨a0, a1, a2, a3, a4, -⟩ := row_cells hA
      obtain ⟨b0, b1, b2, b3, b4, -⟩ := row_cells hBk
      have hv1 := hid_e (VRep.keep hT2.below _ _ hV1.out)
      have hv2 := hid_e (VRep.keep hT2.below _ _ hV2.out)
      have hka : ka = k1 := vrep_kind hva.out hv1.out
      subst hka
      obtain ⟨z, hz⟩ : ∃ z, Hid (cmpT t1 t2 = z) := ⟨_, rfl⟩
      obtain ⟨r, hr⟩ : ∃ r, Hid (rankZ ka = r) := ⟨_, rfl⟩
      refine wp_region_quiet (C := fun w' => Below X.heap.size X w') (by kernel_rfl) (by kernel_rfl) (below_drewN (Below.refl _ _) 1) ?_
      refine wpQuiet_step (fun K hK => ?_)
      refine ⟨.agg #[.int .i64 ka, .int .i64 xa, .string sa, .slice ana lna cna, .slice aia lia cia], fun w' hw' => ?_, hK _ ?_⟩
      · have t0 := stay hw' a0
        have t1 := stay hw' a1
        have t2 := stay hw' a2
        have t3 := stay hw' a3
        have t4 := stay hw' a4
        go_simp
      clear hK K
      refine wpQuiet_step (fun K hK => ?_)
      refine ⟨.agg #[.int .i64 kb, .int .i64 xb, .string sb, .slice anb lnb cnb, .slice aib lib cib], fun w' hw' => ?_, hK _ ?_⟩
      · have t0 := stay hw' b0
        have t1 := stay hw' b1
        have t2 := stay hw' b2
        have t3 := stay hw' b3
        have t4 := stay hw' b4
        go_simp
      clear hK K
      refine wpQuiet_step (fun K hK => ?_)
      refine ⟨.int .i64 z, fun w' hw' => ?_, hK _ ?_⟩
      · go_simp
        refine (compare_copies (VRep.keep hw' _ _ hva.out) (VRep.keep hw' _ _ hvb.out) hS1.out hS2.out).mono ?_
        rintro e w'' ⟨rfl, hb⟩
        exact ⟨by rw [hz.out], hw'.trans (hb.mono hw'.size)⟩
      clear hK K
      refine wpQuiet_step (fun K hK => ?_)
      refine ⟨.agg #[.int .i64 ka, .int .i64 x1, .string s1, .slice an1 ln1 cn1, .slice ai1 li1 ci1], fun w' hw' => ?_, hK _ ?_⟩
      · have t0 := stay hw' p0
        have t1 := stay hw' p1
        have t2 := stay hw' p2
        have t3 := stay hw' p3
        have t4 := stay hw' p4
        go_simp
      clear hK K
      refine wpQuiet_step (fun K hK => ?_)
      refine ⟨.agg #[.int .i64 k2, .int .i64 x2, .string s2, .slice an2 ln2 cn2, .slice ai2 li2 ci2], fun w' hw' => ?_, hK _ ?_⟩
      · have t0 := stay hw' q0
        have t1 := stay hw' q1
        have t2 := stay hw' q2
        have t3 := stay hw' q3
        have t4 := stay hw' q4
        go_simp
      clear hK K
      refine wpQuiet_step (fun K hK => ?_)
      refine ⟨.int .i64 z, fun w' hw' => ?_, hK _ ?_⟩
      · go_simp
        refine (rcompare_any t1 t2 _ _ w' (VRep.keep hw' _ _ hv1.out) (VRep.keep hw' _ _ hv2.out) hS1.out hS2.out).mono ?_
        rintro e w'' ⟨rfl, hb⟩
        exact ⟨by rw [hz.out], hw'.trans (hb.mono hw'.size)⟩
      clear hK K
      refine wpQuiet_step (fun K hK => ?_)
      go_simp
      refine ⟨_, fun _ _ => rfl, hK _ ?_⟩
      clear hK K
      refine wpQuiet_step (fun K hK => ?_)
      go_simp
      refine ⟨_, fun _ _ => rfl, hK _ ?_⟩
      clear hK K
      refine wpQuiet_step (fun K hK => ?_)
      refine ⟨.agg #[.int .i64 ka, .int .i64 xa, .string sa, .slice ana lna cna, .slice aia lia cia], fun w' hw' => ?_, hK _ ?_⟩
      · have t0 := stay hw' a0
        have t1 := stay hw' a1
        have t2 := stay hw' a2
        have t3 := stay hw' a3
        have t4 := stay hw' a4
        go_simp
      clear hK K
      refine wpQuiet_step (fun K hK => ?_)
      refine ⟨.int .i64 r, fun w' hw' => ?_, hK _ ?_⟩
      · go_simp
        refine (rank_any _ _ _ _ _ _ _ _ _ w').mono ?_
        rintro e w'' ⟨rfl, hb⟩
        exact ⟨by rw [hr.out], hw'.trans (hb.mono hw'.size)⟩
      clear hK K
      refine wpQuiet_step (fun K hK => ?_)
      refine ⟨.agg #[.int .i64 ka, .int .i64 x1, .string s1, .slice an1 ln1 cn1, .slice ai1 li1 ci1], fun w' hw' => ?_, hK _ ?_⟩
      · have t0 := stay hw' p0
        have t1 := stay hw' p1
        have t2 := stay hw' p2
        have t3 := stay hw' p3
        have t4 := stay hw' p4
        go_simp
      clear hK K
      refine wpQuiet_step (fun K hK => ?_)
      refine ⟨.int .i64 r, fun w' hw' => ?_, hK _ ?_⟩
      · go_simp
        refine (rrank_any _ _ _ _ _ _ _ _ _ w').mono ?_
        rintro e w'' ⟨rfl, hb⟩
        exact ⟨by rw [hr.out], hw'.trans (hb.mono hw'.size)⟩
      clear hK K
      refine wpQuiet_step (fun K hK => ?_)
      go_simp
      refine ⟨_, fun _ _ => rfl, hK _ ?_⟩
      clear hK K
      refine wpQuiet_step (fun K hK => ?_)
      go_simp
      refine ⟨_, fun _ _ => rfl, hK _ ?_⟩
      clear hK K
      refine wpQuiet_step (fun K hK => ?_)
      go_simp
      refine ⟨_, fun _ _ => rfl, hK _ ?_⟩
      clear hK K
      refine wpQuiet_step (fun K hK => ?_)
      refine ⟨.agg #[.int .i64 ka, .int .i64 xa, .string sa, .slice ana lna cna, .slice aia lia cia], fun w' hw' => ?_, hK _ ?_⟩
      · have t0 := stay hw' a0
        have t1 := stay hw' a1
        have t2 := stay hw' a2
        have t3 := stay hw' a3
        have t4 := stay hw' a4
        go_simp
      clear hK K
      refine wpQuiet_step (fun K hK => ?_)
      refine ⟨.agg #[.int .i64 ka, .int .i64 x1, .string s1, .slice an1 ln1 cn1, .slice ai1 li1 ci1], fun w' hw' => ?_, hK _ ?_⟩
      · have t0 := stay hw' p0
        have t1 := stay hw' p1
        have t2 := stay hw' p2
        have t3 := stay hw' p3
        have t4 := stay hw' p4
        go_simp
      clear hK K
      refine wpQuiet_step (fun K hK => ?_)
      refine ⟨.bool true, fun w' hw' => ?_, hK _ ?_⟩
      · go_simp
        refine (equal_same t1 _ _ w' (VRep.keep hw' _ _ hva.out) (VRep.keep hw' _ _ hv1.out)).mono ?_
        rintro e w'' ⟨rfl, hb⟩
        exact ⟨rfl, hw'.trans (hb.mono hw'.size)⟩
      clear hK K
      refine wpQuiet_step (fun K hK => ?_)
      go_simp
      refine ⟨_, fun _ _ => rfl, hK _ ?_⟩
      clear hK K
      refine wpQuiet_step (fun K hK => ?_)
      go_simp
      refine ⟨_, fun _ _ => rfl, hK _ ?_⟩
      clear hK K
      refine wpQuiet_step (fun K hK => ?_)
      refine ⟨.agg #[.int .i64 kb, .int .i64 xb, .string sb, .slice anb lnb cnb, .slice aib lib cib], fun w' hw' => ?_, hK _ ?_⟩
      · have t0 := stay hw' b0
        have t1 := stay hw' b1
        have t2 := stay hw' b2
        have t3 := stay hw' b3
        have t4 := stay hw' b4
        go_simp
      clear hK K
      refine wpQuiet_step (fun K hK => ?_)
      refine ⟨.agg #[.int .i64 k2, .int .i64 x2, .string s2, .slice an2 ln2 cn2, .slice ai2 li2 ci2], fun w' hw' => ?_, hK _ ?_⟩
      · have t0 := stay hw' q0
        have t1 := stay hw' q1
        have t2 := stay hw' q2
        have t3 := stay hw' q3
        have t4 := stay hw' q4
        go_simp
      clear hK K
      refine wpQuiet_step (fun K hK => ?_)
      refine ⟨.bool true, fun w' hw' => ?_, hK _ ?_⟩
      · go_simp
        refine (equal_same t2 _ _ w' (VRep.keep hw' _ _ hvb.out) (VRep.keep hw' _ _ hv2.out)).mono ?_
        rintro e w'' ⟨rfl, hb⟩
        exact ⟨rfl, hw'.trans (hb.mono hw'.size)⟩
      clear hK K
      refine wpQuiet_step (fun K hK => ?_)
      go_simp
      refine ⟨_, fun _ _ => rfl, hK _ ?_⟩
      clear hK K
      refine wpQuiet_step (fun K hK => ?_)
      go_simp
      refine ⟨_, fun _ _ => rfl, hK _ ?_⟩
      clear hK K
      refine wpQuiet_step (fun K hK => ?_)
      refine ⟨.bool true, fun w' hw' => ?_, hK _ ?_⟩
      · go_simp
        refine (live_true w').mono ?_
        rintro e w'' ⟨rfl, hb⟩
        exact ⟨rfl, hw'.trans (hb.mono hw'.size)⟩
      clear hK K
      refine wpQuiet_step (fun K hK => ?_)
      go_simp
      refine ⟨_, fun _ _ => rfl, hK _ ?_⟩
      clear hK K
      refine wpQuiet_step (fun K hK => ?_)
      go_simp
      refine ⟨_, fun _ _ => rfl, hK _ ?_⟩
      clear hK K
      refine wpQuiet_nil ?_
      intro Y9 hY9
      go_wp2_with fail
      go_ret
      exact ⟨rfl, hT2.below.trans (hY9.mono hT2.below.size)⟩
    · go_wp2_with fail
      go_ret
      exact ⟨rfl, hT0.below⟩
end Go.Proofs.YtldieaoaigadlaaDoor
