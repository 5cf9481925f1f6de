import Derived.Test.YtgkcacimmanejaaDoorH1
import Derived.Test.YtgkcacimmanejaaDoorM1
import Derived.Test.YtgkcacimmanejaaDoorT1
import Derived.Test.YtgkcacimmanejaaDoorN1
import Derived.Deep.Quiet
import Derived.Test.YtgkcacimmanejaaDoorU1
/-! The keys lie as the values: the walk. -/
namespace Go.Proofs.YtgkcacimmanejaaDoor
open Go Go.RowKit

theorem k_quiet_if {c : Bool} {p q : Prop} (h : c = true) (hp : p) : if c = true then p else q := by rw [if_pos h]; exact hp
theorem k_quiet_no {c : Bool} {p q : Prop} (h : c = false) (hq : q) : if c = true then p else q := by rw [if_neg (by rw [h]; decide)]; exact hq
structure Two (w : World) (b1 b2 : Array Value) (wx : World) : Prop where
  below : Below w.heap.size w wx
  one : wx.heap[w.heap.size]? = some (.cells b1 25 (0, 0))
  two : wx.heap[w.heap.size + 1]? = some (.cells b2 25 (0, 0))
theorem Two.keep {w wx wy : World} {b1 b2 : Array Value} (h : Two w b1 b2 wx) (hb : Below wx.heap.size wx wy) : Two w b1 b2 wy :=
  ⟨h.below.trans (hb.mono h.below.size), (hb.block _ (Array.getElem?_eq_some_iff.1 h.one).1).trans h.one, (hb.block _ (Array.getElem?_eq_some_iff.1 h.two).1).trans h.two⟩
theorem Two.drewN {w wx : World} {b1 b2 : Array Value} (h : Two w b1 b2 wx) (m : Nat) : Two w b1 b2 (wx.drewN m) := ⟨below_drewN h.below m, h.one, h.two⟩
theorem two_new (w : World) (b1 b2 : Array Value) : Two w b1 b2 ((w.alloc (.cells b1 25)).alloc (.cells b2 25)) :=
  ⟨((Below.refl _ w).alloc (Nat.le_refl _) _).alloc (by simp) _, new1 w _ _, new2 w _ _⟩
/-- A row of bytes. -/
structure RowB (w : World) (g : Nat) (l : List UInt8) : Prop where
  lt : g < w.heap.size
  at_ : ∀ j, j < l.length → w.cell? ⟨g, j, none⟩ = (Lib.byteCells l)[j]?
theorem RowB.keep {w w' : World} {g : Nat} {l : List UInt8} (h : RowB w g l) (hb : Below w.heap.size w w') : RowB w' g l :=
  ⟨Nat.lt_of_lt_of_le h.lt hb.size, fun j hj => (World.cell?_of_block (w := w) (hb.block g h.lt)).trans (h.at_ j hj)⟩
theorem RowB.drewN {w : World} {g : Nat} {l : List UInt8} (h : RowB w g l) (m : Nat) : RowB (w.drewN m) g l := ⟨h.lt, h.at_⟩
theorem RowB.take {w : World} {g : Nat} {l : List UInt8} (h : RowB w g l) (n : Nat) : RowB w g (l.take n) :=
  ⟨h.lt, fun j hj => by
    have h1 : j < n ∧ j < l.length := by rw [List.length_take] at hj; omega
    rw [h.at_ j h1.2]
    simp only [Lib.byteCells, List.getElem?_map]
    rw [List.getElem?_take_of_lt h1.1]⟩
theorem RowB.conv {w : World} {g : Nat} {l : List UInt8} (h : RowB w g l) {n : Nat} (hn : n = l.length) (cap : Nat) : (convert 27 9 (.slice (some ⟨g, 0, none⟩) n cap)).run Tryd.prog w = .ok (.string ⟨l.toArray⟩) w := by
  subst hn
  refine run_convert_bytes_back w 27 9 5 ⟨g, 0, none⟩ cap l Tryd.underlying27 Tryd.underlying5 Tryd.underlying9 (fun j hj => ?_)
  rw [add_off, Nat.zero_add, h.at_ j hj]
  simp [Lib.byteCells, hj]
theorem key_some (t : Tr) : 0 < (keyT t).length := by
  cases t
  rw [keyT]
  simp
theorem key_cmp (a b : Tr) (ha : GoodK a) (hb : GoodK b) : cmpS ⟨(keyT a).toArray⟩ ⟨(keyT b).toArray⟩ = cmpT a b := by
  rw [← key_order a b ha hb]
  rfl
theorem key_short (a b : Tr) (ha : GoodK a) (hb : GoodK b) (hl : (keyT a).length < (keyT b).length) : (⟨((keyT b).take (keyT a).length).toArray⟩ : ByteArray) ≠ ⟨(keyT a).toArray⟩ := by
  intro e
  have e1 : (keyT b).take (keyT a).length = keyT a := by
    have := congrArg (fun z : ByteArray => z.data.toList) e
    simpa using this
  have e2 : keyT b = keyT a ++ (keyT b).drop (keyT a).length := by
    have h := List.take_append_drop (keyT a).length (keyT b)
    rw [e1] at h
    exact h.symm
  have e3 := key_free a b ha hb _ e2
  rw [e3, List.append_nil] at e2
  rw [e2] at hl
  exact absurd hl (Nat.lt_irrefl _)
theorem cmp_eqT (a b : Tr) (ha : checkT 0 a = 0) (hb : checkT 0 b = 0) : (cmpT a b == 0) = eqT a b := by
  by_cases h : a = b
  · subst h
    rw [cmpT_self, eqT_true rfl]
    rfl
  · rw [eqT_false h]
    simp only [beq_eq_false_iff_ne]
    exact fun e => h (cmpT_same a b 0 0 ha hb e)
set_option maxHeartbeats 8000000 in
set_option maxRecDepth 100000 in
theorem lies_true (k1 x1 : Int) (s1 : ByteArray) (an1 : Option Addr) (ln1 cn1 : Nat) (ai1 : Option Addr) (li1 ci1 : Nat) (k2 x2 : Int) (s2 : ByteArray) (an2 : Option Addr) (ln2 cn2 : Nat) (ai2 : Option Addr) (li2 ci2 : Nat) (t1 t2 : Tr) (w : World) (hV1 : Hid (VRep w t1 (five k1 x1 s1 (.slice an1 ln1 cn1) (.slice ai1 li1 ci1)))) (hV2 : Hid (VRep w t2 (five k2 x2 s2 (.slice an2 ln2 cn2) (.slice ai2 li2 ci2)))) (hS1 : Hid (SmallT t1)) (hS2 : Hid (SmallT t2)) (hR1 : Hid (RangeT t1)) (hR2 : Hid (RangeT t2)) (hK1 : Hid (2 * (keyT t1).length ≤ 100000000000)) (hK2 : Hid (2 * (keyT t2).length ≤ 100000000000)) (hU : Hid (Lib.Utf8Tabs 1 2 w)) (h8 : 3 ≤ w.heap.size) :
    Calls Tryd.prog 3 #[.agg #[.int .i64 k1, .int .i64 x1, .string s1, .slice an1 ln1 cn1, .slice ai1 li1 ci1], .agg #[.int .i64 k2, .int .i64 x2, .string s2, .slice an2 ln2 cn2, .slice ai2 li2 ci2]] w fun e w' => e = .returned (.bool true) ∧ Below w.heap.size w w' := by
  have hlg1 := fun W (hW : Below w.heap.size w W) => hid_e (large_one k1 x1 s1 an1 ln1 cn1 ai1 li1 ci1 t1 W (hid_e (VRep.keep hW _ _ hV1.out)))
  have hlg2 := fun W (hW : Below w.heap.size w W) => hid_e (large_one k2 x2 s2 an2 ln2 cn2 ai2 li2 ci2 t2 W (hid_e (VRep.keep hW _ _ hV2.out)))
  have hcp1 := fun W (hW : Below w.heap.size w W) => hid_e (copy_any t1 _ W (VRep.keep hW _ _ hV1.out) hS1.out)
  have hcp2 := fun W (hW : Below w.heap.size w W) => hid_e (copy_any t2 _ W (VRep.keep hW _ _ hV2.out) hS2.out)
  have hUW := fun W (hW : Below w.heap.size w W) => hid_e (utf_below hU.out hW h8)
  have h8W := fun W (hW : Below w.heap.size w W) => Nat.le_trans h8 hW.size
  have hlive := fun W (hW : Below w.heap.size w W) => hid_e (live_true W (utf_below hU.out hW h8) (Nat.le_trans h8 hW.size))
  have hby1 := fun W ka xa sa ana lna cna aia lia cia (hW : Below w.heap.size w W) (hv : VRep W t1 (five ka xa sa (.slice ana lna cna) (.slice aia lia cia))) => hid_e (bytes_code t1 ka xa sa ana lna cna aia lia cia W (hid_e hv) hS1 hR1 (hid_e (fun _ => hK1.out)) (hUW W hW) (h8W W hW))
  have hby2 := fun W ka xa sa ana lna cna aia lia cia (hW : Below w.heap.size w W) (hv : VRep W t2 (five ka xa sa (.slice ana lna cna) (.slice aia lia cia))) => hid_e (bytes_code t2 ka xa sa ana lna cna aia lia cia W (hid_e hv) hS2 hR2 (hid_e (fun _ => hK2.out)) (hUW W hW) (h8W W hW))
  clear hUW h8W hU
  go_enter Tryd.func3, Tryd.ntmps3
  go_upto_region 1 with fail
  have hT0 : Two w #[.int .i64 k1, .int .i64 x1, .string s1, .slice an1 ln1 cn1, .slice ai1 li1 ci1] #[.int .i64 k2, .int .i64 x2, .string s2, .slice an2 ln2 cn2, .slice ai2 li2 ci2] ((w.alloc (.cells #[.int .i64 k1, .int .i64 x1, .string s1, .slice an1 ln1 cn1, .slice ai1 li1 ci1] 25)).alloc (.cells #[.int .i64 k2, .int .i64 x2, .string s2, .slice an2 ln2 cn2, .slice ai2 li2 ci2] 25)) := two_new w _ _
  generalize (w.alloc (.cells #[.int .i64 k1, .int .i64 x1, .string s1, .slice an1 ln1 cn1, .slice ai1 li1 ci1] 25)).alloc (.cells #[.int .i64 k2, .int .i64 x2, .string s2, .slice an2 ln2 cn2, .slice ai2 li2 ci2] 25) = X0 at hT0
  go_cut [16] (fun v wx => (∃ z : Bool, v = .bool z) ∧ Two w #[.int .i64 k1, .int .i64 x1, .string s1, .slice an1 ln1 cn1, .slice ai1 li1 ci1] #[.int .i64 k2, .int .i64 x2, .string s2, .slice an2 ln2 cn2, .slice ai2 li2 ci2] wx)
  case first =>
    obtain ⟨y0, y1, y2, y3, y4, -⟩ := row_cells hT0.one
    go_wp2_with fail
    clear y0 y1 y2 y3 y4
    refine (hlg1 X0 hT0.below).out.mono ?_
    rintro e X1 ⟨⟨z1, rfl⟩, hb⟩
    have hT1 := hT0.keep hb
    clear hb
    obtain ⟨y0, y1, y2, y3, y4, -⟩ := row_cells hT1.two
    cases z1
    · go_wp2_with fail
      clear y0 y1 y2 y3 y4
      refine (hlg2 X1 hT1.below).out.mono ?_
      rintro e X2 ⟨⟨z2, rfl⟩, hb⟩
      have hT2 := hT1.keep hb
      clear hb
      go_wp2_with fail
      go_meet
      exact ⟨⟨_, rfl⟩, hT2⟩
    · go_wp2_with fail
      go_meet
      exact ⟨⟨_, rfl⟩, hT1⟩
  case rest =>
    clear hT0 hlg1 hlg2
    obtain ⟨⟨z, rfl⟩, hT0⟩ := hcut
    cases z
    rotate_left
    · go_wp2_with fail
      go_ret
      exact ⟨rfl, hT0.below⟩
    obtain ⟨y0, y1, y2, y3, y4, -⟩ := row_cells hT0.one
    go_wp2_with fail
    clear y0 y1 y2 y3 y4
    refine (hcp1 _ hT0.below).out.mono ?_
    rintro e Y ⟨ka, xa, sa, ana, lna, cna, aia, lia, cia, rfl, hsa, hb⟩
    have hT1 := hT0.keep hb
    have hby := hby1 Y ka xa sa ana lna cna aia lia cia hT1.below hsa.rep
    clear hsa hb hT0 hby1
    go_wp2_with fail
    go_fit hby.out
    rintro e Y1 ⟨v1, rfl, hA⟩
    have hT2 := hT1.keep hA.below
    clear hby hT1
    obtain ⟨y0, y1, y2, y3, y4, -⟩ := row_cells hT2.two
    go_upto_region 4 with fail
    go_wp2_with fail
    clear y0 y1 y2 y3 y4
    refine (hcp2 _ hT2.below).out.mono ?_
    rintro e Z ⟨kb, xb, sb, anb, lnb, cnb, aib, lib, cib, rfl, hsb, hb⟩
    have hT3 := hT2.keep hb
    have hA2 := fun (h : checkT 0 t1 = 0) => hid_e (ownsRow_below (hA.good h) hb)
    have hby := hby2 Z kb xb sb anb lnb cnb aib lib cib hT3.below hsb.rep
    clear hsb hb hT2 hby2 hA
    go_wp2_with fail
    go_fit hby.out
    rintro e X ⟨v2, rfl, hB⟩
    have hT := hT3.keep hB.below
    have hA3 := hid_e (fun (h : checkT 0 t1 = 0) => ownsRow_below (hA2 h).out hB.below)
    have hB3 := hid_e hB.good
    clear hby hT3 hA2 hB
    go_upto_region 5 with fail
    obtain ⟨c1, hc1⟩ : ∃ c, Hid (checkT 0 t1 = c) := ⟨_, hid_e rfl⟩
    obtain ⟨c2, hc2⟩ : ∃ c, Hid (checkT 0 t2 = c) := ⟨_, hid_e rfl⟩
    rw [hc1.out, hc2.out]
    by_cases g1 : c1 = 0
    rotate_left
    · have g1' : (c1 != 0) = true := by simpa using g1
      go_wp2_with (go_at_call 8; refine (num_any _ _).mono ?_; rintro e w' ⟨rfl, hw⟩; replace hw := hw.symm; subst hw)
      go_fit (hlive X hT.below).out
      rintro e w4 ⟨rfl, hb4⟩
      go_wp2_with fail
      go_ret
      exact ⟨rfl, hT.below.trans (hb4.mono hT.below.size)⟩
    subst g1
    by_cases g2 : c2 = 0
    rotate_left
    · have g2' : (c2 != 0) = true := by simpa using g2
      go_wp2_with (go_at_call 8; refine (num_any _ _).mono ?_; rintro e w' ⟨rfl, hw⟩; replace hw := hw.symm; subst hw)
      go_fit (hlive X hT.below).out
      rintro e w4 ⟨rfl, hb4⟩
      go_wp2_with fail
      go_ret
      exact ⟨rfl, hT.below.trans (hb4.mono hT.below.size)⟩
    subst g2
    have G1 := hid_e (good_of t1 0 hc1.out hR1.out)
    have G2 := hid_e (good_of t2 0 hc2.out hR2.out)
    obtain ⟨g1, cap1, rfl, hcc1, -, -, hl1, hr1⟩ := row_bytes (hA3.out hc1.out) (key_some t1)
    obtain ⟨g2, cap2, rfl, hcc2, -, -, hl2, hr2⟩ := row_bytes (hB3.out hc2.out) (key_some t2)
    have r1 : RowB X g1 (keyT t1) := ⟨hl1, hr1⟩
    have r2 : RowB X g2 (keyT t2) := ⟨hl2, hr2⟩
    have hD := hid_e (key_cmp t1 t2 G1.out G2.out)
    have hE := hid_e (cmp_eqT t1 t2 hc1.out hc2.out)
    have hSh := fun (h : (keyT t1).length < (keyT t2).length) => hid_e (key_short t1 t2 G1.out G2.out h)
    have hq1 : (keyT t1).length ≤ 100000000000 := by have := hK1.out; omega
    clear hA3 hB3 hl1 hr1 hl2 hr2 hc1 hc2 G1 G2 hK1 hK2 hR1 hR2
    obtain ⟨p, hp⟩ : ∃ p, Hid (keyT t1 = p) := ⟨_, hid_e rfl⟩
    obtain ⟨q, hq⟩ : ∃ p, Hid (keyT t2 = p) := ⟨_, hid_e rfl⟩
    rw [hp.out] at r1 hD hSh hq1 hcc1 ⊢
    rw [hq.out] at r2 hD hSh hcc2 ⊢
    obtain ⟨D, hDe⟩ : ∃ D, Hid (cmpT t1 t2 = D) := ⟨_, hid_e rfl⟩
    rw [hDe.out] at hD hE
    have hcv1 := r1.conv rfl cap1
    have hcv2 := r2.conv rfl cap2
    have htx := hid_e (texts_cmp ⟨p.toArray⟩ ⟨q.toArray⟩ (by show p.toArray.size ≤ _; simp; omega) X)
    rw [hD.out] at htx
    go_upto_region 7 with (go_at_call 8; refine (num_any _ _).mono ?_; rintro e w' ⟨rfl, hw⟩; replace hw := hw.symm; subst hw)
    go_wp2_with fail
    go_fit htx.out
    rintro e X' ⟨rfl, m, rfl⟩
    replace r1 := r1.drewN m
    replace r2 := r2.drewN m
    replace hT := hT.drewN m
    clear htx hcv1 hcv2
    generalize X.drewN m = X at r1 r2 hT ⊢
    go_upto_region 8 with fail
    go_cut [10] (fun v wx => v = .bool false ∧ Two w #[.int .i64 k1, .int .i64 x1, .string s1, .slice an1 ln1 cn1, .slice ai1 li1 ci1] #[.int .i64 k2, .int .i64 x2, .string s2, .slice an2 ln2 cn2, .slice ai2 li2 ci2] wx)
    case first =>
      refine wp_region_quiet (C := fun w' => w' = X.drewN 1) (by kernel_rfl) (by kernel_rfl) rfl ?_
      by_cases hlt : p.length < q.length
      · have hli : ((p.length : Int) < (q.length : Int)) := by omega
        have hcp := (r2.drewN 1).take p.length
        have hcv3 := hcp.conv (n := p.length) (by rw [List.length_take]; omega) cap2
        have hcv1 := (r1.drewN 1).conv rfl cap1
        have hns := hSh hlt
        have hcpb : p.length ≤ cap2 := by omega
        have hpc2 : (p.length : Int) ≤ (cap2 : Int) := by omega
        with_reducible refine wpQuiet_step (fun K hK => ?_)
        first | refine k_quiet_if (by kernel_rfl) ?_ | skip
        refine ⟨.slice (some ⟨g1, 0, none⟩) p.length cap1, fun w' hw' => ?_, hK _ ?_⟩
        · subst hw'; go_simp
        clear hK K
        try simp only [Act.put, List.setIfInBounds_toArray, List.set_cons_zero, List.set_cons_succ]
        with_reducible refine wpQuiet_step (fun K hK => ?_)
        first | refine k_quiet_if (by kernel_rfl) ?_ | skip
        refine ⟨.int .i64 p.length, fun w' hw' => ?_, hK _ ?_⟩
        · subst hw'; go_simp
        clear hK K
        try simp only [Act.put, List.setIfInBounds_toArray, List.set_cons_zero, List.set_cons_succ]
        with_reducible refine wpQuiet_step (fun K hK => ?_)
        first | refine k_quiet_if (by kernel_rfl) ?_ | skip
        refine ⟨.slice (some ⟨g2, 0, none⟩) q.length cap2, fun w' hw' => ?_, hK _ ?_⟩
        · subst hw'; go_simp
        clear hK K
        try simp only [Act.put, List.setIfInBounds_toArray, List.set_cons_zero, List.set_cons_succ]
        with_reducible refine wpQuiet_step (fun K hK => ?_)
        first | refine k_quiet_if (by kernel_rfl) ?_ | skip
        refine ⟨.int .i64 q.length, fun w' hw' => ?_, hK _ ?_⟩
        · subst hw'; go_simp
        clear hK K
        try simp only [Act.put, List.setIfInBounds_toArray, List.set_cons_zero, List.set_cons_succ]
        with_reducible refine wpQuiet_step (fun K hK => ?_)
        first | refine k_quiet_if (by kernel_rfl) ?_ | skip
        refine ⟨.bool true, fun w' hw' => ?_, hK _ ?_⟩
        · subst hw'; go_simp
        clear hK K
        try simp only [Act.put, List.setIfInBounds_toArray, List.set_cons_zero, List.set_cons_succ]
        with_reducible refine wpQuiet_step (fun K hK => ?_)
        first | refine k_quiet_if (by kernel_rfl) ?_ | skip
        refine ⟨.bool true, fun w' hw' => ?_, hK _ ?_⟩
        · subst hw'; go_simp
        clear hK K
        try simp only [Act.put, List.setIfInBounds_toArray, List.set_cons_zero, List.set_cons_succ]
        with_reducible refine wpQuiet_step (fun K hK => ?_)
        first | refine k_quiet_if (by kernel_rfl) ?_ | skip
        refine ⟨.slice (some ⟨g2, 0, none⟩) q.length cap2, fun w' hw' => ?_, hK _ ?_⟩
        · subst hw'; go_simp
        clear hK K
        try simp only [Act.put, List.setIfInBounds_toArray, List.set_cons_zero, List.set_cons_succ]
        with_reducible refine wpQuiet_step (fun K hK => ?_)
        first | refine k_quiet_if (by kernel_rfl) ?_ | skip
        refine ⟨.slice (some ⟨g1, 0, none⟩) p.length cap1, fun w' hw' => ?_, hK _ ?_⟩
        · subst hw'; go_simp
        clear hK K
        try simp only [Act.put, List.setIfInBounds_toArray, List.set_cons_zero, List.set_cons_succ]
        with_reducible refine wpQuiet_step (fun K hK => ?_)
        first | refine k_quiet_if (by kernel_rfl) ?_ | skip
        refine ⟨.int .i64 p.length, fun w' hw' => ?_, hK _ ?_⟩
        · subst hw'; go_simp
        clear hK K
        try simp only [Act.put, List.setIfInBounds_toArray, List.set_cons_zero, List.set_cons_succ]
        with_reducible refine wpQuiet_step (fun K hK => ?_)
        first | refine k_quiet_if (by kernel_rfl) ?_ | skip
        refine ⟨.slice (some ⟨g2, 0, none⟩) p.length cap2, fun w' hw' => ?_, hK _ ?_⟩
        · subst hw'; go_simp
        clear hK K
        try simp only [Act.put, List.setIfInBounds_toArray, List.set_cons_zero, List.set_cons_succ]
        with_reducible refine wpQuiet_step (fun K hK => ?_)
        first | refine k_quiet_if (by kernel_rfl) ?_ | skip
        refine ⟨.string ⟨(q.take p.length).toArray⟩, fun w' hw' => ?_, hK _ ?_⟩
        · subst hw'; go_simp
        clear hK K
        try simp only [Act.put, List.setIfInBounds_toArray, List.set_cons_zero, List.set_cons_succ]
        with_reducible refine wpQuiet_step (fun K hK => ?_)
        first | refine k_quiet_if (by kernel_rfl) ?_ | skip
        refine ⟨.slice (some ⟨g1, 0, none⟩) p.length cap1, fun w' hw' => ?_, hK _ ?_⟩
        · subst hw'; go_simp
        clear hK K
        try simp only [Act.put, List.setIfInBounds_toArray, List.set_cons_zero, List.set_cons_succ]
        with_reducible refine wpQuiet_step (fun K hK => ?_)
        first | refine k_quiet_if (by kernel_rfl) ?_ | skip
        refine ⟨.string ⟨p.toArray⟩, fun w' hw' => ?_, hK _ ?_⟩
        · subst hw'; go_simp
        clear hK K
        try simp only [Act.put, List.setIfInBounds_toArray, List.set_cons_zero, List.set_cons_succ]
        with_reducible refine wpQuiet_step (fun K hK => ?_)
        first | refine k_quiet_if (by kernel_rfl) ?_ | skip
        refine ⟨.bool false, fun w' hw' => ?_, hK _ ?_⟩
        · subst hw'; go_simp; exact fun e => hns.out (by rw [e])
        clear hK K
        try simp only [Act.put, List.setIfInBounds_toArray, List.set_cons_zero, List.set_cons_succ]
        with_reducible refine wpQuiet_step (fun K hK => ?_)
        first | refine k_quiet_if (by kernel_rfl) ?_ | skip
        refine ⟨.bool false, fun w' hw' => ?_, hK _ ?_⟩
        · subst hw'; go_simp
        clear hK K
        try simp only [Act.put, List.setIfInBounds_toArray, List.set_cons_zero, List.set_cons_succ]
        with_reducible refine wpQuiet_step (fun K hK => ?_)
        first | refine k_quiet_if (by kernel_rfl) ?_ | skip
        refine ⟨.bool false, fun w' hw' => ?_, hK _ ?_⟩
        · subst hw'; go_simp
        clear hK K
        try simp only [Act.put, List.setIfInBounds_toArray, List.set_cons_zero, List.set_cons_succ]
        with_reducible refine wpQuiet_nil ?_
        intro w' hw'
        subst hw'
        go_wp2_with fail
        go_meet
        exact ⟨rfl, hT.drewN 1⟩
      · have hli : ¬ ((p.length : Int) < (q.length : Int)) := by omega
        with_reducible refine wpQuiet_step (fun K hK => ?_)
        first | refine k_quiet_if (by kernel_rfl) ?_ | skip
        refine ⟨.slice (some ⟨g1, 0, none⟩) p.length cap1, fun w' hw' => ?_, hK _ ?_⟩
        · subst hw'; go_simp
        clear hK K
        try simp only [Act.put, List.setIfInBounds_toArray, List.set_cons_zero, List.set_cons_succ]
        with_reducible refine wpQuiet_step (fun K hK => ?_)
        first | refine k_quiet_if (by kernel_rfl) ?_ | skip
        refine ⟨.int .i64 p.length, fun w' hw' => ?_, hK _ ?_⟩
        · subst hw'; go_simp
        clear hK K
        try simp only [Act.put, List.setIfInBounds_toArray, List.set_cons_zero, List.set_cons_succ]
        with_reducible refine wpQuiet_step (fun K hK => ?_)
        first | refine k_quiet_if (by kernel_rfl) ?_ | skip
        refine ⟨.slice (some ⟨g2, 0, none⟩) q.length cap2, fun w' hw' => ?_, hK _ ?_⟩
        · subst hw'; go_simp
        clear hK K
        try simp only [Act.put, List.setIfInBounds_toArray, List.set_cons_zero, List.set_cons_succ]
        with_reducible refine wpQuiet_step (fun K hK => ?_)
        first | refine k_quiet_if (by kernel_rfl) ?_ | skip
        refine ⟨.int .i64 q.length, fun w' hw' => ?_, hK _ ?_⟩
        · subst hw'; go_simp
        clear hK K
        try simp only [Act.put, List.setIfInBounds_toArray, List.set_cons_zero, List.set_cons_succ]
        with_reducible refine wpQuiet_step (fun K hK => ?_)
        first | refine k_quiet_if (by kernel_rfl) ?_ | skip
        refine ⟨.bool false, fun w' hw' => ?_, hK _ ?_⟩
        · subst hw'; go_simp
        clear hK K
        try simp only [Act.put, List.setIfInBounds_toArray, List.set_cons_zero, List.set_cons_succ]
        with_reducible refine wpQuiet_step (fun K hK => ?_)
        go_simp
        with_reducible refine hK _ ?_
        clear hK K
        with_reducible refine wpQuiet_step (fun K hK => ?_)
        go_simp
        with_reducible refine hK _ ?_
        clear hK K
        with_reducible refine wpQuiet_step (fun K hK => ?_)
        go_simp
        with_reducible refine hK _ ?_
        clear hK K
        with_reducible refine wpQuiet_step (fun K hK => ?_)
        go_simp
        with_reducible refine hK _ ?_
        clear hK K
        with_reducible refine wpQuiet_step (fun K hK => ?_)
        go_simp
        with_reducible refine hK _ ?_
        clear hK K
        with_reducible refine wpQuiet_step (fun K hK => ?_)
        go_simp
        with_reducible refine hK _ ?_
        clear hK K
        with_reducible refine wpQuiet_step (fun K hK => ?_)
        go_simp
        with_reducible refine hK _ ?_
        clear hK K
        with_reducible refine wpQuiet_step (fun K hK => ?_)
        go_simp
        with_reducible refine hK _ ?_
        clear hK K
        with_reducible refine wpQuiet_step (fun K hK => ?_)
        go_simp
        with_reducible refine hK _ ?_
        clear hK K
        with_reducible refine wpQuiet_step (fun K hK => ?_)
        go_simp
        with_reducible refine hK _ ?_
        clear hK K
        with_reducible refine wpQuiet_step (fun K hK => ?_)
        go_simp
        with_reducible refine hK _ ?_
        clear hK K
        with_reducible refine wpQuiet_nil ?_
        intro w' hw'
        subst hw'
        go_wp2_with fail
        go_meet
        exact ⟨rfl, hT.drewN 1⟩
    case rest =>
      clear hT
      obtain ⟨rfl, hT9⟩ := hcut
      clear r1 r2 hSh hcc1 hcc2 hq1 hD hp hq
      have hcmp := fun W cs cs' (ha : VRep W t1 cs) (hb : VRep W t2 cs') => hid_e (compare_copies ha hb hS1.out hS2.out)
      rw [hDe.out] at hcmp
      have heq := fun W (hW : Below w.heap.size w W) => hid_e (equal_any t1 t2 _ _ W (VRep.keep hW _ _ hV1.out) (VRep.keep hW _ _ hV2.out) hS1.out)
      rw [← hE.out] at heq
      clear hE hDe
      go_upto_region 9 with fail
      replace hT9 : Two w #[.int .i64 k1, .int .i64 x1, .string s1, .slice an1 ln1 cn1, .slice ai1 li1 ci1] #[.int .i64 k2, .int .i64 x2, .string s2, .slice an2 ln2 cn2, .slice ai2 li2 ci2] wc.drew := ⟨below_drew hT9.below, hT9.one, hT9.two⟩
      generalize hX : wc.drew = X at hT9
      refine wp_region_noPanic ?_
      refine Until.wp_region_U (fun w' => Two w #[.int .i64 k1, .int .i64 x1, .string s1, .slice an1 ln1 cn1, .slice ai1 li1 ci1] #[.int .i64 k2, .int .i64 x2, .string s2, .slice an2 ln2 cn2, .slice ai2 li2 ci2] w') (fun _ => True) 22 (by kernel_rfl) ?_
      rw [hX]
      clear hX
      refine Until.wpU_pure (i := 0) (oi := { dst := some 58, op := Op.move (Operand.tmp 9), type := 3, pos := "law.go:138", after := #[], guard := none }) (v := .int .i64 D) rfl (by kernel_rfl) (by kernel_rfl) (by kernel_rfl) (by kernel_rfl) (by kernel_rfl) (fun _ _ _ h => h) (hT9) (fun _ => trivial) (by rfl) (by intro w'; go_simp) ?_
      try simp only [Act.put, List.setIfInBounds_toArray, List.set_cons_zero, List.set_cons_succ]
      refine Until.wpU_load0 (i := 1) (oi := { dst := some 59, op := Op.load 25 (Operand.tmp 2), type := 25, pos := "law.go:138", after := #[], guard := none }) (v := .agg #[.int .i64 k1, .int .i64 x1, .string s1, .slice an1 ln1 cn1, .slice ai1 li1 ci1]) rfl (by kernel_rfl) (by kernel_rfl) (by kernel_rfl) (by kernel_rfl) (by kernel_rfl) (fun _ _ _ h => h) (hT9) (fun _ => trivial) (by rfl) (by intro w' hw'; obtain ⟨t0, t1, t2, t3, t4, -⟩ := row_cells hw'.one; clear hw'; go_simp) ?_
      try simp only [Act.put, List.setIfInBounds_toArray, List.set_cons_zero, List.set_cons_succ]
      refine Until.wpU_load0 (i := 3) (oi := { dst := some 61, op := Op.load 25 (Operand.tmp 3), type := 25, pos := "law.go:138", after := #[], guard := none }) (v := .agg #[.int .i64 k2, .int .i64 x2, .string s2, .slice an2 ln2 cn2, .slice ai2 li2 ci2]) rfl (by kernel_rfl) (by kernel_rfl) (by kernel_rfl) (by kernel_rfl) (by kernel_rfl) (fun _ _ _ h => h) (hT9) (fun _ => trivial) (by rfl) (by intro w' hw'; obtain ⟨t0, t1, t2, t3, t4, -⟩ := row_cells hw'.two; clear hw'; go_simp) ?_
      try simp only [Act.put, List.setIfInBounds_toArray, List.set_cons_zero, List.set_cons_succ]
      refine Until.wpU_ready (rs := [2]) (by kernel_rfl) (by simp) ?_
      refine (Until.AllU.cons (o := { dst := some 60, op := Op.call { callee := Callee.value (Operand.func 7), args := #[Operand.tmp 59], argTypes := #[25] }, type := 25, pos := "law.go:138", after := #[{ on := 1, ground := Ground.data }], guard := none }) rfl (fun K hK => ?_) Until.AllU.nil)
      go_simp
      refine (hcp1 _ hT9.below).out.mono ?_
      rintro e Y ⟨kc, xc, sc, anc, lnc, cnc, aic, lic, cic, rfl, hsa, hb⟩
      have hva := hid_e hsa.rep
      replace hT9 := hT9.keep hb
      clear hsa hb
      refine hK.out _ _ (hT9) (fun _ => trivial) ?_
      clear hK K
      try simp only [Act.put, List.setIfInBounds_toArray, List.set_cons_zero, List.set_cons_succ]
      refine Until.wpU_ready (rs := [4]) (by kernel_rfl) (by simp) ?_
      refine (Until.AllU.cons (o := { dst := some 62, op := Op.call { callee := Callee.value (Operand.func 7), args := #[Operand.tmp 61], argTypes := #[25] }, type := 25, pos := "law.go:138", after := #[{ on := 3, ground := Ground.data }, { on := 2, ground := Ground.chain }], guard := none }) rfl (fun K hK => ?_) Until.AllU.nil)
      go_simp
      refine (hcp2 _ hT9.below).out.mono ?_
      rintro e Y ⟨kd, xd, sd, axd, lnd, cnd, aid, lid, cid, rfl, hsb, hb⟩
      have hvb := hid_e hsb.rep
      replace hva := hid_e (VRep.keep hb _ _ hva.out)
      replace hT9 := hT9.keep hb
      clear hsb hb
      refine hK.out _ _ (hT9) (fun _ => trivial) ?_
      clear hK K
      try simp only [Act.put, List.setIfInBounds_toArray, List.set_cons_zero, List.set_cons_succ]
      refine Until.wpU_ready (rs := [5]) (by kernel_rfl) (by simp) ?_
      refine (Until.AllU.cons (o := { dst := some 63, op := Op.call { callee := Callee.value (Operand.func 11), args := #[Operand.tmp 60, Operand.tmp 62], argTypes := #[25, 25] }, type := 3, pos := "law.go:138", after := #[{ on := 2, ground := Ground.data }, { on := 4, ground := Ground.data }, { on := 4, ground := Ground.chain }], guard := none }) rfl (fun K hK => ?_) Until.AllU.nil)
      go_simp
      refine (hcmp _ _ _ hva.out hvb.out).out.mono ?_
      rintro e Y ⟨rfl, hb⟩
      replace hT9 := hT9.keep hb
      clear hb hva hvb
      refine hK.out _ _ (hT9) (fun _ => trivial) ?_
      clear hK K
      try simp only [Act.put, List.setIfInBounds_toArray, List.set_cons_zero, List.set_cons_succ]
      refine Until.wpU_pure (i := 6) (oi := { dst := some 64, op := Op.binOp BinOp.eql 3 (Operand.tmp 58) (Operand.tmp 63) 3, type := 4, pos := "law.go:138", after := #[{ on := 0, ground := Ground.data }, { on := 5, ground := Ground.data }], guard := none }) (v := .bool true) rfl (by kernel_rfl) (by kernel_rfl) (by kernel_rfl) (by kernel_rfl) (by kernel_rfl) (fun _ _ _ h => h) (hT9) (fun _ => trivial) (by rfl) (by intro w'; go_simp) ?_
      try simp only [Act.put, List.setIfInBounds_toArray, List.set_cons_zero, List.set_cons_succ]
      refine Until.wpU_pure (i := 7) (oi := { dst := some 65, op := Op.move (Operand.tmp 64), type := 4, pos := "law.go:138", after := #[{ on := 6, ground := Ground.data }, { on := 5, ground := Ground.chain }], guard := none }) (v := .bool true) rfl (by kernel_rfl) (by kernel_rfl) (by kernel_rfl) (by kernel_rfl) (by kernel_rfl) (fun _ _ _ h => h) (hT9) (fun _ => trivial) (by rfl) (by intro w'; go_simp) ?_
      try simp only [Act.put, List.setIfInBounds_toArray, List.set_cons_zero, List.set_cons_succ]
      refine Until.wpU_pure (i := 8) (oi := { dst := some 66, op := Op.move (Operand.tmp 10), type := 4, pos := "law.go:138", after := #[{ on := 7, ground := Ground.guard }], guard := some (7, true) }) (v := .bool false) rfl (by kernel_rfl) (by kernel_rfl) (by kernel_rfl) (by kernel_rfl) (by kernel_rfl) (fun _ _ _ h => h) (hT9) (fun _ => trivial) (by rfl) (by intro w'; go_simp) ?_
      try simp only [Act.put, List.setIfInBounds_toArray, List.set_cons_zero, List.set_cons_succ]
      refine Until.wpU_pure (i := 9) (oi := { dst := some 67, op := Op.unOp UnOp.not 4 (Operand.tmp 66), type := 4, pos := "law.go:138", after := #[{ on := 8, ground := Ground.data }, { on := 7, ground := Ground.guard }], guard := some (7, true) }) (v := .bool true) rfl (by kernel_rfl) (by kernel_rfl) (by kernel_rfl) (by kernel_rfl) (by kernel_rfl) (fun _ _ _ h => h) (hT9) (fun _ => trivial) (by rfl) (by intro w'; go_simp) ?_
      try simp only [Act.put, List.setIfInBounds_toArray, List.set_cons_zero, List.set_cons_succ]
      refine Until.wpU_pure (i := 10) (oi := { dst := some 68, op := Op.pick (Operand.tmp 65) (Operand.tmp 67) (Operand.const (Value.bool false)), type := 4, pos := "law.go:138", after := #[{ on := 7, ground := Ground.data }, { on := 9, ground := Ground.data }], guard := none }) (v := .bool true) rfl (by kernel_rfl) (by kernel_rfl) (by kernel_rfl) (by kernel_rfl) (by kernel_rfl) (fun _ _ _ h => h) (hT9) (fun _ => trivial) (by rfl) (by intro w'; go_simp) ?_
      try simp only [Act.put, List.setIfInBounds_toArray, List.set_cons_zero, List.set_cons_succ]
      refine Until.wpU_pure (i := 11) (oi := { dst := some 69, op := Op.move (Operand.tmp 68), type := 4, pos := "law.go:138", after := #[{ on := 10, ground := Ground.data }, { on := 7, ground := Ground.chain }], guard := none }) (v := .bool true) rfl (by kernel_rfl) (by kernel_rfl) (by kernel_rfl) (by kernel_rfl) (by kernel_rfl) (fun _ _ _ h => h) (hT9) (fun _ => trivial) (by rfl) (by intro w'; go_simp) ?_
      try simp only [Act.put, List.setIfInBounds_toArray, List.set_cons_zero, List.set_cons_succ]
      refine Until.wpU_pure (i := 12) (oi := { dst := some 70, op := Op.move (Operand.tmp 9), type := 3, pos := "law.go:138", after := #[{ on := 11, ground := Ground.guard }], guard := some (11, true) }) (v := .int .i64 D) rfl (by kernel_rfl) (by kernel_rfl) (by kernel_rfl) (by kernel_rfl) (by kernel_rfl) (fun _ _ _ h => h) (hT9) (fun _ => trivial) (by rfl) (by intro w'; go_simp) ?_
      try simp only [Act.put, List.setIfInBounds_toArray, List.set_cons_zero, List.set_cons_succ]
      refine Until.wpU_pure (i := 13) (oi := { dst := some 71, op := Op.binOp BinOp.eql 3 (Operand.tmp 70) (Operand.const (Value.int IntKind.i64 0)) 3, type := 4, pos := "law.go:138", after := #[{ on := 12, ground := Ground.data }, { on := 11, ground := Ground.guard }], guard := some (11, true) }) (v := .bool (D == 0)) rfl (by kernel_rfl) (by kernel_rfl) (by kernel_rfl) (by kernel_rfl) (by kernel_rfl) (fun _ _ _ h => h) (hT9) (fun _ => trivial) (by rfl) (by intro w'; go_simp) ?_
      try simp only [Act.put, List.setIfInBounds_toArray, List.set_cons_zero, List.set_cons_succ]
      refine Until.wpU_load0 (i := 14) (oi := { dst := some 72, op := Op.load 25 (Operand.tmp 2), type := 25, pos := "law.go:138", after := #[{ on := 11, ground := Ground.guard }], guard := some (11, true) }) (v := .agg #[.int .i64 k1, .int .i64 x1, .string s1, .slice an1 ln1 cn1, .slice ai1 li1 ci1]) rfl (by kernel_rfl) (by kernel_rfl) (by kernel_rfl) (by kernel_rfl) (by kernel_rfl) (fun _ _ _ h => h) (hT9) (fun _ => trivial) (by rfl) (by intro w' hw'; obtain ⟨t0, t1, t2, t3, t4, -⟩ := row_cells hw'.one; clear hw'; go_simp) ?_
      try simp only [Act.put, List.setIfInBounds_toArray, List.set_cons_zero, List.set_cons_succ]
      refine Until.wpU_load0 (i := 15) (oi := { dst := some 73, op := Op.load 25 (Operand.tmp 3), type := 25, pos := "law.go:138", after := #[{ on := 11, ground := Ground.guard }], guard := some (11, true) }) (v := .agg #[.int .i64 k2, .int .i64 x2, .string s2, .slice an2 ln2 cn2, .slice ai2 li2 ci2]) rfl (by kernel_rfl) (by kernel_rfl) (by kernel_rfl) (by kernel_rfl) (by kernel_rfl) (fun _ _ _ h => h) (hT9) (fun _ => trivial) (by rfl) (by intro w' hw'; obtain ⟨t0, t1, t2, t3, t4, -⟩ := row_cells hw'.two; clear hw'; go_simp) ?_
      try simp only [Act.put, List.setIfInBounds_toArray, List.set_cons_zero, List.set_cons_succ]
      refine Until.wpU_ready (rs := [16]) (by kernel_rfl) (by simp) ?_
      refine (Until.AllU.cons (o := { dst := some 74, op := Op.call { callee := Callee.value (Operand.func 12), args := #[Operand.tmp 72, Operand.tmp 73], argTypes := #[25, 25] }, type := 4, pos := "law.go:138", after := #[{ on := 14, ground := Ground.data }, { on := 15, ground := Ground.data }, { on := 11, ground := Ground.chain }, { on := 11, ground := Ground.guard }], guard := some (11, true) }) rfl (fun K hK => ?_) Until.AllU.nil)
      go_simp
      refine (heq _ hT9.below).out.mono ?_
      rintro e Y ⟨rfl, hb⟩
      replace hT9 := hT9.keep hb
      clear hb
      refine hK.out _ _ (hT9) (fun _ => trivial) ?_
      clear hK K
      try simp only [Act.put, List.setIfInBounds_toArray, List.set_cons_zero, List.set_cons_succ]
      refine Until.wpU_pure (i := 17) (oi := { dst := some 75, op := Op.binOp BinOp.eql 4 (Operand.tmp 71) (Operand.tmp 74) 4, type := 4, pos := "law.go:138", after := #[{ on := 13, ground := Ground.data }, { on := 16, ground := Ground.data }, { on := 11, ground := Ground.guard }], guard := some (11, true) }) (v := .bool true) rfl (by kernel_rfl) (by kernel_rfl) (by kernel_rfl) (by kernel_rfl) (by kernel_rfl) (fun _ _ _ h => h) (hT9) (fun _ => trivial) (by rfl) (by intro w'; go_simp) ?_
      try simp only [Act.put, List.setIfInBounds_toArray, List.set_cons_zero, List.set_cons_succ]
      refine Until.wpU_pure (i := 18) (oi := { dst := some 76, op := Op.pick (Operand.tmp 69) (Operand.tmp 75) (Operand.const (Value.bool false)), type := 4, pos := "law.go:138", after := #[{ on := 11, ground := Ground.data }, { on := 17, ground := Ground.data }], guard := none }) (v := .bool true) rfl (by kernel_rfl) (by kernel_rfl) (by kernel_rfl) (by kernel_rfl) (by kernel_rfl) (fun _ _ _ h => h) (hT9) (fun _ => trivial) (by rfl) (by intro w'; go_simp) ?_
      try simp only [Act.put, List.setIfInBounds_toArray, List.set_cons_zero, List.set_cons_succ]
      refine Until.wpU_pure (i := 19) (oi := { dst := some 77, op := Op.move (Operand.tmp 76), type := 4, pos := "law.go:138", after := #[{ on := 18, ground := Ground.data }, { on := 16, ground := Ground.chain }], guard := none }) (v := .bool true) rfl (by kernel_rfl) (by kernel_rfl) (by kernel_rfl) (by kernel_rfl) (by kernel_rfl) (fun _ _ _ h => h) (hT9) (fun _ => trivial) (by rfl) (by intro w'; go_simp) ?_
      try simp only [Act.put, List.setIfInBounds_toArray, List.set_cons_zero, List.set_cons_succ]
      refine Until.wpU_ready (rs := [20]) (by kernel_rfl) (by simp) ?_
      refine (Until.AllU.cons (o := { dst := some 78, op := Op.call { callee := Callee.value (Operand.func 9), args := #[], argTypes := #[] }, type := 4, pos := "law.go:138", after := #[{ on := 19, ground := Ground.chain }, { on := 19, ground := Ground.guard }], guard := some (19, true) }) rfl (fun K hK => ?_) Until.AllU.nil)
      go_simp
      refine (hlive _ hT9.below).out.mono ?_
      rintro e Y ⟨rfl, hb⟩
      replace hT9 := hT9.keep hb
      clear hb
      refine hK.out _ _ (hT9) (fun _ => trivial) ?_
      clear hK K
      try simp only [Act.put, List.setIfInBounds_toArray, List.set_cons_zero, List.set_cons_succ]
      refine Until.wpU_pure (i := 21) (oi := { dst := some 79, op := Op.pick (Operand.tmp 77) (Operand.tmp 78) (Operand.const (Value.bool false)), type := 4, pos := "law.go:138", after := #[{ on := 19, ground := Ground.data }, { on := 20, ground := Ground.data }], guard := none }) (v := .bool true) rfl (by kernel_rfl) (by kernel_rfl) (by kernel_rfl) (by kernel_rfl) (by kernel_rfl) (fun _ _ _ h => h) (hT9) (fun _ => trivial) (by rfl) (by intro w'; go_simp) ?_
      try simp only [Act.put, List.setIfInBounds_toArray, List.set_cons_zero, List.set_cons_succ]
      refine Until.wpU_ready (rs := [22]) (by kernel_rfl) (by simp) ?_
      refine (Until.AllU.cons (o := { dst := some 4, op := Op.assign (Operand.tmp 79), type := 4, pos := "law.go:138", after := #[{ on := 21, ground := Ground.data }, { on := 20, ground := Ground.chain }, { on := 0, ground := Ground.phase }, { on := 1, ground := Ground.phase }, { on := 2, ground := Ground.phase }, { on := 3, ground := Ground.phase }, { on := 4, ground := Ground.phase }, { on := 5, ground := Ground.phase }, { on := 6, ground := Ground.phase }, { on := 7, ground := Ground.phase }, { on := 8, ground := Ground.phase }, { on := 9, ground := Ground.phase }, { on := 10, ground := Ground.phase }, { on := 11, ground := Ground.phase }, { on := 12, ground := Ground.phase }, { on := 13, ground := Ground.phase }, { on := 14, ground := Ground.phase }, { on := 15, ground := Ground.phase }, { on := 16, ground := Ground.phase }, { on := 17, ground := Ground.phase }, { on := 18, ground := Ground.phase }, { on := 19, ground := Ground.phase }, { on := 20, ground := Ground.phase }, { on := 21, ground := Ground.phase }], guard := none }) rfl (fun K hK => ?_) Until.AllU.nil)
      go_simp
      refine hK.out _ _ (hT9) (fun _ => trivial) ?_
      clear hK K
      try simp only [Act.put, List.setIfInBounds_toArray, List.set_cons_zero, List.set_cons_succ]
      refine Until.wpU_done (by kernel_rfl) ?_ _
      refine NoPanic.normal ?_
      go_wp2_with fail
      go_ret
      exact ⟨rfl, hT9.below⟩
end Go.Proofs.YtgkcacimmanejaaDoor
