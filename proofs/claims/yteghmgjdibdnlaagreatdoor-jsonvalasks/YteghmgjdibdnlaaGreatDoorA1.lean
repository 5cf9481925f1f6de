import Derived.Test.YteghmgjdibdnlaaGreatDoorH2
import Derived.Test.YteghmgjdibdnlaaGreatDoorW26
/-! Every Has: the walk. -/
namespace Go.Proofs.YteghmgjdibdnlaaGreatDoor.Tree
open Go Go.RowKit

set_option maxHeartbeats 1000000 in
set_option maxRecDepth 100000 in
theorem large_one (k x : Int) (s : ByteArray) (an : Option Addr) (ln cn : Nat) (ai : Option Addr) (li ci : Nat) (t : Tr) (w : World) (hV : Hid (VRep w t (five k x s (.slice an ln cn) (.slice ai li ci)))) :
    Calls Tryz.prog 8 #[.agg #[.int .i64 k, .int .i64 x, .string s, .slice an ln cn, .slice ai li ci]] w fun e w' => (∃ z, e = .returned (.bool z)) ∧ Below w.heap.size w w' := by
  have hcall := fun o => hid_e (parts_any t (five k x s (.slice an ln cn) (.slice ai li ci)) 10000 (w.alloc o) (VRep.keep ((Below.refl _ w).alloc (Nat.le_refl _) o) _ _ hV.out))
  go_enter Tryz.func8, Tryz.ntmps8
  go_wp2_with fail
  go_fit (hcall _).out
  rintro e w1 ⟨⟨n, rfl⟩, hb1⟩
  go_wp2_with fail
  go_ret
  exact ⟨⟨_, rfl⟩, below_box hb1⟩
/-- What was handed in. -/
structure One (w : World) (b : Array Value) (wx : World) : Prop where
  below : Below w.heap.size w wx
  box : wx.heap[w.heap.size]? = some (.cells b 25 (0, 0))
theorem One.keep {w wx wy : World} {b : Array Value} (h : One w b wx) (hb : Below wx.heap.size wx wy) : One w b wy :=
  ⟨h.below.trans (hb.mono h.below.size), (hb.block _ (Array.getElem?_eq_some_iff.1 h.box).1).trans h.box⟩
theorem block_keep {w wx : World} {g : Nat} {o : Obj} (h : w.heap[g]? = some o) (hb : Below w.heap.size w wx) : wx.heap[g]? = some o := (hb.block _ (Array.getElem?_eq_some_iff.1 h).1).trans h
set_option maxHeartbeats 4000000 in
set_option maxRecDepth 100000 in
theorem asks_true (k1 x1 : Int) (s1 : ByteArray) (an1 : Option Addr) (ln1 cn1 : Nat) (ai1 : Option Addr) (li1 ci1 : Nat) (nm : ByteArray) (V : Tr) (w : World) (hV : Hid (VRep w V (five k1 x1 s1 (.slice an1 ln1 cn1) (.slice ai1 li1 ci1)))) (hS : Hid (SmallT V)) (hE : Hid (Env w)) (hP : Hid (EnvP w)) :
    Calls Tryz.prog 6 #[.agg #[.int .i64 k1, .int .i64 x1, .string s1, .slice an1 ln1 cn1, .slice ai1 li1 ci1], .string nm] w fun e w' => e = .returned (.bool true) ∧ Below w.heap.size w w' := by
  have hlg := fun o => hid_e (large_one k1 x1 s1 an1 ln1 cn1 ai1 li1 ci1 V (w.alloc o) (hid_e (VRep.keep ((Below.refl _ w).alloc (Nat.le_refl _) o) _ _ hV.out)))
  have h8 := hP.out.big
  go_enter Tryz.func6, Tryz.ntmps6
  go_wp2_with fail
  go_fit (hlg _).out
  rintro e X0 ⟨⟨z, rfl⟩, hb⟩
  have hT0 : One w #[.int .i64 k1, .int .i64 x1, .string s1, .slice an1 ln1 cn1, .slice ai1 li1 ci1] X0 := ⟨below_box hb, (hb.block _ (by simp)).trans (heap_alloc_new w _)⟩
  clear hb hlg
  cases z
  · obtain ⟨c0, c1, c2, c3, c4, -⟩ := row_cells hT0.box
    go_wp2_with fail
    clear c0 c1 c2 c3 c4
    go_fit (copy_any V _ X0 (VRep.keep hT0.below _ _ hV.out) hS.out)
    rintro e Yg ⟨kg, xg, sg, ang, lng, cng, aig, lig, cig, rfl, hsn, hbw⟩
    have hvg := hsn.rep
    clear hsn
    have hT1 := hT0.keep (hbw.alloc hbw.size (.cells #[.int .i64 kg, .int .i64 xg, .string sg, .slice ang lng cng, .slice aig lig cig] 25))
    have hg := heap_alloc_new Yg (.cells #[.int .i64 kg, .int .i64 xg, .string sg, .slice ang lng cng, .slice aig lig cig] 25)
    replace hvg := hid_e (VRep.keep ((Below.refl _ Yg).alloc (Nat.le_refl _) (.cells #[.int .i64 kg, .int .i64 xg, .string sg, .slice ang lng cng, .slice aig lig cig] 25)) _ _ hvg)
    clear hbw hT0
    go_upto_region 4 with fail
    generalize Yg.alloc (.cells #[.int .i64 kg, .int .i64 xg, .string sg, .slice ang lng cng, .slice aig lig cig] 25) = Wg at hT1 hg hvg  ⊢
    obtain ⟨gg, hgg⟩ : ∃ g, Yg.heap.size = g := ⟨_, rfl⟩
    rw [hgg] at hg
    rw [hgg]
    clear hgg
    obtain ⟨bo, hbo⟩ : ∃ z, Hid ((hasO V nm).isSome = z) := ⟨_, hid_e rfl⟩
    obtain ⟨e0, e1, e2, e3, e4, -⟩ := row_cells hg
    go_wp2_with fail
    clear e0 e1 e2 e3 e4
    go_fit (has_code V kg xg sg ang lng cng aig lig cig nm _ hvg.out)
    rintro e Ya ⟨ka, xa, sa, ana, lna, cna, aia, lia, cia, rfl, hva, hbw⟩
    rw [hbo.out]
    have hT2 := hT1.keep (hbw.alloc hbw.size (.cells #[.int .i64 ka, .int .i64 xa, .string sa, .slice ana lna cna, .slice aia lia cia] 25))
    replace hg := block_keep hg (hbw.alloc hbw.size (.cells #[.int .i64 ka, .int .i64 xa, .string sa, .slice ana lna cna, .slice aia lia cia] 25))
    replace hvg := hid_e (VRep.keep (hbw.alloc hbw.size (.cells #[.int .i64 ka, .int .i64 xa, .string sa, .slice ana lna cna, .slice aia lia cia] 25)) _ _ hvg.out)
    have ha := heap_alloc_new Ya (.cells #[.int .i64 ka, .int .i64 xa, .string sa, .slice ana lna cna, .slice aia lia cia] 25)
    replace hva := hid_e (VRep.keep ((Below.refl _ Ya).alloc (Nat.le_refl _) (.cells #[.int .i64 ka, .int .i64 xa, .string sa, .slice ana lna cna, .slice aia lia cia] 25)) _ _ hva)
    clear hbw hT1
    go_upto_region 5 with fail
    generalize Ya.alloc (.cells #[.int .i64 ka, .int .i64 xa, .string sa, .slice ana lna cna, .slice aia lia cia] 25) = Wa at hT2 ha hva hg hvg ⊢
    obtain ⟨ga, hga⟩ : ∃ g, Ya.heap.size = g := ⟨_, rfl⟩
    rw [hga] at ha
    rw [hga]
    clear hga
    obtain ⟨e0, e1, e2, e3, e4, -⟩ := row_cells hg
    go_wp2_with fail
    clear e0 e1 e2 e3 e4
    go_fit (has_code V kg xg sg ang lng cng aig lig cig nm _ hvg.out)
    rintro e Yb ⟨kb, xb, sb, anb, lnb, cnb, aib, lib, cib, rfl, hvb, hbw⟩
    rw [hbo.out]
    have hT3 := hT2.keep (hbw.alloc hbw.size (.cells #[.int .i64 kb, .int .i64 xb, .string sb, .slice anb lnb cnb, .slice aib lib cib] 25))
    replace hg := block_keep hg (hbw.alloc hbw.size (.cells #[.int .i64 kb, .int .i64 xb, .string sb, .slice anb lnb cnb, .slice aib lib cib] 25))
    replace hvg := hid_e (VRep.keep (hbw.alloc hbw.size (.cells #[.int .i64 kb, .int .i64 xb, .string sb, .slice anb lnb cnb, .slice aib lib cib] 25)) _ _ hvg.out)
    replace ha := block_keep ha (hbw.alloc hbw.size (.cells #[.int .i64 kb, .int .i64 xb, .string sb, .slice anb lnb cnb, .slice aib lib cib] 25))
    replace hva := hid_e (VRep.keep (hbw.alloc hbw.size (.cells #[.int .i64 kb, .int .i64 xb, .string sb, .slice anb lnb cnb, .slice aib lib cib] 25)) _ _ hva.out)
    have hb := heap_alloc_new Yb (.cells #[.int .i64 kb, .int .i64 xb, .string sb, .slice anb lnb cnb, .slice aib lib cib] 25)
    replace hvb := hid_e (VRep.keep ((Below.refl _ Yb).alloc (Nat.le_refl _) (.cells #[.int .i64 kb, .int .i64 xb, .string sb, .slice anb lnb cnb, .slice aib lib cib] 25)) _ _ hvb)
    clear hbw hT2
    go_upto_region 6 with fail
    generalize Yb.alloc (.cells #[.int .i64 kb, .int .i64 xb, .string sb, .slice anb lnb cnb, .slice aib lib cib] 25) = Wb at hT3 hb hvb hg hvg ha hva ⊢
    obtain ⟨gb, hgb⟩ : ∃ g, Yb.heap.size = g := ⟨_, rfl⟩
    rw [hgb] at hb
    rw [hgb]
    clear hgb
    obtain ⟨e0, e1, e2, e3, e4, -⟩ := row_cells hT3.box
    go_wp2_with fail
    clear e0 e1 e2 e3 e4
    go_fit (has_ref V k1 x1 s1 an1 ln1 cn1 ai1 li1 ci1 nm _ (VRep.keep hT3.below _ _ hV.out) hS.out)
    rintro e Yc ⟨kc, xc, sc, anc, lnc, cnc, aic, lic, cic, rfl, hvc, hbw⟩
    rw [hbo.out]
    have hT4 := hT3.keep (hbw.alloc hbw.size (.cells #[.int .i64 kc, .int .i64 xc, .string sc, .slice anc lnc cnc, .slice aic lic cic] 25))
    replace hg := block_keep hg (hbw.alloc hbw.size (.cells #[.int .i64 kc, .int .i64 xc, .string sc, .slice anc lnc cnc, .slice aic lic cic] 25))
    replace hvg := hid_e (VRep.keep (hbw.alloc hbw.size (.cells #[.int .i64 kc, .int .i64 xc, .string sc, .slice anc lnc cnc, .slice aic lic cic] 25)) _ _ hvg.out)
    replace ha := block_keep ha (hbw.alloc hbw.size (.cells #[.int .i64 kc, .int .i64 xc, .string sc, .slice anc lnc cnc, .slice aic lic cic] 25))
    replace hva := hid_e (VRep.keep (hbw.alloc hbw.size (.cells #[.int .i64 kc, .int .i64 xc, .string sc, .slice anc lnc cnc, .slice aic lic cic] 25)) _ _ hva.out)
    replace hb := block_keep hb (hbw.alloc hbw.size (.cells #[.int .i64 kc, .int .i64 xc, .string sc, .slice anc lnc cnc, .slice aic lic cic] 25))
    replace hvb := hid_e (VRep.keep (hbw.alloc hbw.size (.cells #[.int .i64 kc, .int .i64 xc, .string sc, .slice anc lnc cnc, .slice aic lic cic] 25)) _ _ hvb.out)
    have hc := heap_alloc_new Yc (.cells #[.int .i64 kc, .int .i64 xc, .string sc, .slice anc lnc cnc, .slice aic lic cic] 25)
    replace hvc := hid_e (VRep.keep ((Below.refl _ Yc).alloc (Nat.le_refl _) (.cells #[.int .i64 kc, .int .i64 xc, .string sc, .slice anc lnc cnc, .slice aic lic cic] 25)) _ _ hvc)
    clear hbw hT3
    go_upto_region 7 with fail
    generalize Yc.alloc (.cells #[.int .i64 kc, .int .i64 xc, .string sc, .slice anc lnc cnc, .slice aic lic cic] 25) = Wc at hT4 hc hvc hg hvg ha hva hb hvb ⊢
    obtain ⟨gc, hgc⟩ : ∃ g, Yc.heap.size = g := ⟨_, rfl⟩
    rw [hgc] at hc
    rw [hgc]
    clear hgc
    have hbb : (bo == bo) = true := by simp
    have heq := hid_e (equal_same _ _ _ _ hva.out hvc.out)
    obtain ⟨e0, e1, e2, e3, e4, -⟩ := row_cells ha
    obtain ⟨f0, f1, f2, f3, f4, -⟩ := row_cells hc
    go_wp2_with fail
    clear e0 e1 e2 e3 e4 f0 f1 f2 f3 f4
    go_fit heq.out
    rintro e X5 ⟨rfl, hb5⟩
    have hT5 := hT4.keep hb5
    replace hg := block_keep hg hb5
    replace hvg := hid_e (VRep.keep hb5 _ _ hvg.out)
    replace hb := block_keep hb hb5
    replace hvb := hid_e (VRep.keep hb5 _ _ hvb.out)
    replace hc := block_keep hc hb5
    replace hvc := hid_e (VRep.keep hb5 _ _ hvc.out)
    clear hb5 heq hT4
    have heq := hid_e (equal_same _ _ _ _ hvb.out hvc.out)
    obtain ⟨e0, e1, e2, e3, e4, -⟩ := row_cells hb
    obtain ⟨f0, f1, f2, f3, f4, -⟩ := row_cells hc
    go_wp2_with fail
    clear e0 e1 e2 e3 e4 f0 f1 f2 f3 f4
    go_fit heq.out
    rintro e X6 ⟨rfl, hb6⟩
    have hT6 := hT5.keep hb6
    replace hg := block_keep hg hb6
    replace hvg := hid_e (VRep.keep hb6 _ _ hvg.out)
    clear hb6 heq hT5
    have heq := hid_e (equal_same _ _ _ _ hvg.out (VRep.keep hT6.below _ _ hV.out))
    obtain ⟨e0, e1, e2, e3, e4, -⟩ := row_cells hg
    obtain ⟨f0, f1, f2, f3, f4, -⟩ := row_cells hT6.box
    go_wp2_with fail
    clear e0 e1 e2 e3 e4 f0 f1 f2 f3 f4
    go_fit heq.out
    rintro e X7 ⟨rfl, hb7⟩
    have hT7 := hT6.keep hb7
    clear hb7 heq hT6
    have hlv := hid_e (live_true X7 (hE.out.below hT7.below h8) (hP.out.below hT7.below h8))
    go_wp2_with fail
    go_fit hlv.out
    rintro e W9 ⟨rfl, hb9⟩
    go_wp2_with fail
    go_ret
    exact ⟨rfl, hT7.below.trans (hb9.mono hT7.below.size)⟩
  · go_wp2_with fail
    go_ret
    exact ⟨rfl, hT0.below⟩
end Go.Proofs.YteghmgjdibdnlaaGreatDoor.Tree
