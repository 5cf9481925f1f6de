import Derived.Test.YtelbjecdbogpcaaGreatDoorB8
import Derived.Test.YtelbjecdbogpcaaGreatDoorG3
import Derived.Test.YtelbjecdbogpcaaGreatDoorW26
/-! What Print writes is read as the value: the walk. -/
namespace Go.Proofs.YtelbjecdbogpcaaGreatDoor.Tree
open Go Go.RowKit

/-- What was handed in. -/
structure OneB (w : World) (b : Array Value) (wx : World) : Prop where
  below : Below w.heap.size w wx
  box : wx.heap[w.heap.size]? = some (.cells b 25 (0, 0))
theorem OneB.keep {w wx wy : World} {b : Array Value} (h : OneB w b wx) (hb : Below wx.heap.size wx wy) : OneB w b wy :=
  ⟨h.below.trans (hb.mono h.below.size), (hb.block _ (Array.getElem?_eq_some_iff.1 h.box).1).trans h.box⟩
theorem lenT_large {V : Tr} (hS : SmallT V) (hR : RangeT V) (h : partsT V ≤ 10000) : lenT V ≤ 9000000000000000000 := by
  have h2 := lenT_parts V hS hR
  omega
set_option maxHeartbeats 4000000 in
set_option maxRecDepth 100000 in
theorem back_true (k1 x1 : Int) (s1 : ByteArray) (an1 : Option Addr) (ln1 cn1 : Nat) (ai1 : Option Addr) (li1 ci1 : Nat) (V : Tr) (w : World) (hV : Hid (VRep w V (five k1 x1 s1 (.slice an1 ln1 cn1) (.slice ai1 li1 ci1)))) (hS : Hid (SmallT V)) (hR : Hid (RangeT V)) (hE : Hid (Env w)) (hP : Hid (EnvP w)) :
    Calls Tryz.prog 3 #[.agg #[.int .i64 k1, .int .i64 x1, .string s1, .slice an1 ln1 cn1, .slice ai1 li1 ci1]] w fun e w' => e = .returned (.bool true) ∧ Below w.heap.size w w' := by
  have hlg := fun o => hid_e (large_parts k1 x1 s1 an1 ln1 cn1 ai1 li1 ci1 V (w.alloc o) (hid_e (VRep.keep ((Below.refl _ w).alloc (Nat.le_refl _) o) _ _ hV.out)) hS)
  have h8 := hP.out.big
  go_enter Tryz.func3, Tryz.ntmps3
  go_wp2_with fail
  go_fit (hlg _).out
  rintro e X0 ⟨⟨z, rfl, hz⟩, hb⟩
  have hT0 : OneB w #[.int .i64 k1, .int .i64 x1, .string s1, .slice an1 ln1 cn1, .slice ai1 li1 ci1] X0 := ⟨below_box hb, (hb.block _ (by simp)).trans (heap_alloc_new w _)⟩
  clear hb hlg
  cases z
  · have hlen := lenT_large hS.out hR.out (hz rfl)
    clear hz
    obtain ⟨c0, c1, c2, c3, c4, -⟩ := row_cells hT0.box
    go_wp2_with fail
    clear c0 c1 c2 c3 c4
    go_fit (copy_any V _ X0 (VRep.keep hT0.below _ _ hV.out) hS.out)
    rintro e Yg ⟨kg, xg, sg, ang, lng, cng, aig, lig, cig, rfl, hsn, hbw⟩
    have hvg := hid_e hsn.rep
    have hT1 := hT0.keep hbw
    clear hsn hbw hT0
    obtain ⟨pe, hpe⟩ : ∃ c, Hid (printE V = c) := ⟨_, hid_e rfl⟩
    obtain ⟨ps, hps⟩ : ∃ c, Hid (printS V = c) := ⟨_, hid_e rfl⟩
    have hpr := hid_e (print_code V kg xg sg ang lng cng aig lig cig Yg hvg hS hR hlen (hid_e (hP.out.below hT1.below h8)))
    rw [hps.out, hpe.out] at hpr
    go_wp2_with fail
    go_fit hpr.out
    rintro e X1 ⟨rfl, hb1⟩
    have hT2 := hT1.keep hb1
    clear hb1 hpr hvg hT1
    go_wp2_with fail
    refine (num_int pe X1).mono ?_
    rintro e X1' ⟨rfl, rfl⟩
    by_cases h0 : pe = 0
    · subst h0
      have hbk := hid_e (back_code V X1' hpe.out hR.out (hE.out.below hT2.below h8) (Nat.le_trans h8 hT2.below.size))
      rw [hps.out] at hbk
      go_wp2_with fail
      go_fit hbk.out
      rintro e Yw ⟨⟨kw, xw, sw, anw, lnw, cnw, aiw, liw, ciw, rfl, hvw⟩, hbw⟩
      have hT3 := hT2.keep (hbw.alloc hbw.size (.cells #[.int .i64 kw, .int .i64 xw, .string sw, .slice anw lnw cnw, .slice aiw liw ciw] 25))
      have hg := heap_alloc_new Yw (.cells #[.int .i64 kw, .int .i64 xw, .string sw, .slice anw lnw cnw, .slice aiw liw ciw] 25)
      replace hvw := hid_e (VRep.keep ((Below.refl _ Yw).alloc (Nat.le_refl _) (.cells #[.int .i64 kw, .int .i64 xw, .string sw, .slice anw lnw cnw, .slice aiw liw ciw] 25)) _ _ hvw)
      clear hbw hbk hT2
      go_upto_region 7 with fail
      generalize Yw.alloc (.cells #[.int .i64 kw, .int .i64 xw, .string sw, .slice anw lnw cnw, .slice aiw liw ciw] 25) = Ww at hT3 hg hvw ⊢
      obtain ⟨gw, hgw⟩ : ∃ g, Yw.heap.size = g := ⟨_, rfl⟩
      rw [hgw] at hg
      rw [hgw]
      clear hgw
      go_wp2_with fail
      refine (num_int 0 Ww).mono ?_
      rintro e Ww' ⟨rfl, rfl⟩
      have heq := hid_e (equal_same _ _ _ _ (VRep.keep hT3.below _ _ hV.out) hvw.out)
      obtain ⟨e0, e1, e2, e3, e4, -⟩ := row_cells hg
      obtain ⟨f0, f1, f2, f3, f4, -⟩ := row_cells hT3.box
      go_wp2_with fail
      clear e0 e1 e2 e3 e4 f0 f1 f2 f3 f4
      go_fit heq.out
      rintro e X5 ⟨rfl, hb5⟩
      have hT5 := hT3.keep hb5
      clear hb5 heq hT3
      have hlv := hid_e (live_true X5 (hE.out.below hT5.below h8) (hP.out.below hT5.below h8))
      go_wp2_with fail
      go_fit hlv.out
      rintro e W9 ⟨rfl, hb9⟩
      go_wp2_with fail
      go_ret
      exact ⟨rfl, hT5.below.trans (hb9.mono hT5.below.size)⟩
    · have h0' : (pe == 0) = false := by simpa using h0
      have hse : ps = ⟨#[]⟩ := by rw [← hps.out, printS, if_neg (by rw [hpe.out]; exact h0)]
      subst hse
      have hlv := hid_e (live_true X1' (hE.out.below hT2.below h8) (hP.out.below hT2.below h8))
      go_wp2_with fail
      go_fit hlv.out
      rintro e W9 ⟨rfl, hb9⟩
      go_wp2_with fail
      go_ret
      exact ⟨rfl, hT2.below.trans (hb9.mono hT2.below.size)⟩
  · go_wp2_with fail
    go_ret
    exact ⟨rfl, hT0.below⟩
end Go.Proofs.YtelbjecdbogpcaaGreatDoor.Tree
