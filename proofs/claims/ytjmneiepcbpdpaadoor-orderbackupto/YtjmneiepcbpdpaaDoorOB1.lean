import Derived.Test.YtjmneiepcbpdpaaDoorBS
import Derived.Test.YtjmneiepcbpdpaaDoorT1
import Derived.Test.YtjmneiepcbpdpaaDoorN1
import Derived.Test.YtjmneiepcbpdpaaDoorL6
/-! There and back: the walk. -/
namespace Go.Proofs.YtjmneiepcbpdpaaDoor
open Go Go.RowKit

theorem key_long (t : Tr) : 0 < (keyT t).length := by
  cases t
  rw [keyT]
  simp
set_option maxHeartbeats 8000000 in
set_option maxRecDepth 100000 in
theorem back_true (k x : Int) (s : ByteArray) (an : Option Addr) (ln cn : Nat) (ai : Option Addr) (li ci : Nat) (t : Tr) (a : Option Addr) (c : Nat) (l : List UInt8) (w : World) (hV : Hid (VRep w t (five k x s (.slice an ln cn) (.slice ai li ci)))) (hS : Hid (SmallT t)) (hR : Hid (RangeT t)) (hT : Hid ((keyT t).length ≤ 1000000000)) (hA : Hid (BArg w a c l)) (hl : l.length ≤ 1000000000) (hU : Hid (Lib.Utf8Tabs 1 2 w)) (h8 : 3 ≤ w.heap.size) :
    Calls Tryd.prog 3 #[.agg #[.int .i64 k, .int .i64 x, .string s, .slice an ln cn, .slice ai li ci], .slice a l.length c] w fun e w' => e = .returned (.bool true) ∧ Below w.heap.size w w' := by
  have hlg := fun W (hW : Below w.heap.size w W) => hid_e (large_one k x s an ln cn ai li ci t W (hid_e (VRep.keep hW _ _ hV.out)))
  have hcp := fun W (hW : Below w.heap.size w W) => hid_e (copy_any t _ W (VRep.keep hW _ _ hV.out) hS.out)
  have hlive := fun W (hW : Below w.heap.size w W) => hid_e (live_true W (utf_below hU.out hW h8) (Nat.le_trans h8 hW.size))
  have hby := fun W u ka xa sa ana lna cna aia lia cia (hW : Below w.heap.size w W) (hv : VRep W u (five ka xa sa (.slice ana lna cna) (.slice aia lia cia))) (hs : SmallT u) (hr : RangeT u) (hk : (keyT u).length ≤ 1000000000) => hid_e (bytes_code u ka xa sa ana lna cna aia lia cia W (hid_e hv) (hid_e hs) (hid_e hr) (hid_e (fun _ => by omega)) (hid_e (utf_below hU.out hW h8)) (Nat.le_trans h8 hW.size))
  have hfr := fun W (hW : Below w.heap.size w W) lo v m g (h : W.ownsRow lo 5 1 v (List.length m) (Lib.byteCells m)) (hg : v.ownBlock = some g) (hm : m.length ≤ 1000000000) => hid_e (own_from h hg hm (utf_below hU.out hW h8) (Nat.le_trans h8 hW.size))
  have heq := fun W cs (hW : Below w.heap.size w W) (hv : VRep W t cs) => hid_e (equal_any t t _ _ W hv (VRep.keep hW _ _ hV.out) hS.out)
  have hAW := fun W (hW : Below w.heap.size w W) => hid_e (hA.out.keep hW)
  have n0 := heap_alloc_new w (.cells #[.int .i64 k, .int .i64 x, .string s, .slice an ln cn, .slice ai li ci] 25)
  have hB0 : Below w.heap.size w (w.alloc (.cells #[.int .i64 k, .int .i64 x, .string s, .slice an ln cn, .slice ai li ci] 25)) := (Below.refl _ _).alloc (Nat.le_refl _) _
  go_enter Tryd.func3, Tryd.ntmps3
  go_upto_region 1 with fail
  generalize w.alloc (.cells #[.int .i64 k, .int .i64 x, .string s, .slice an ln cn, .slice ai li ci] 25) = X0 at n0 hB0 ⊢
  obtain ⟨y0, y1, y2, y3, y4, -⟩ := row_cells n0
  go_wp2_with fail
  clear y0 y1 y2 y3 y4
  refine (hlg X0 hB0).out.mono ?_
  rintro e X1 ⟨⟨z, rfl⟩, hb⟩
  have n1 := (hb.block _ (Array.getElem?_eq_some_iff.1 n0).1).trans n0
  have hB1 := hB0.trans (hb.mono hB0.size)
  clear hb n0 hB0 hlg
  cases z
  rotate_left
  · go_wp2_with fail
    go_ret
    exact ⟨rfl, hB1⟩
  obtain ⟨y0, y1, y2, y3, y4, -⟩ := row_cells n1
  go_wp2_with fail
  clear y0 y1 y2 y3 y4
  refine (hcp _ hB1).out.mono ?_
  rintro e Y ⟨ka, xa, sa, ana, lna, cna, aia, lia, cia, rfl, hsa, hb⟩
  have hva := hsa.rep
  have n2 := (hb.block _ (Array.getElem?_eq_some_iff.1 n1).1).trans n1
  have hB2 := hB1.trans (hb.mono hB1.size)
  clear hsa hb n1 hB1 hcp
  go_wp2_with fail
  go_fit (hby Y t ka xa sa ana lna cna aia lia cia hB2 hva hS.out hR.out hT.out).out
  rintro e W1 ⟨v1, rfl, hA1⟩
  have n3 := (hA1.below.block _ (Array.getElem?_eq_some_iff.1 n2).1).trans n2
  have hB3 := hB2.trans (hA1.below.mono hB2.size)
  have hg1 := hA1.good
  clear hA1 n2 hva
  by_cases h0 : checkT 0 t = 0
  · have ho := hg1 h0
    clear hg1
    rw [h0]
    obtain ⟨g1, c1, hv1, -, -⟩ := ho.form (key_long t)
    have hf1 := hfr W1 hB3 _ v1 (keyT t) g1 ho (by rw [hv1]; rfl) hT.out
    rw [from_full t h0 hR.out] at hf1
    clear ho hv1
    go_upto_region 5 with (go_at_call 8; refine (num_any _ _).mono ?_; rintro e w' ⟨rfl, hw⟩; replace hw := hw.symm; subst hw)
    go_wp2_with fail
    go_fit hf1.out
    clear hf1
    rintro e W2 ⟨kb, xb, sb, anb, lnb, cnb, aib, lib, cib, rfl, hvb, hb2⟩
    replace hvb := hvb t 0 rfl
    have n4 := (hb2.block _ (Array.getElem?_eq_some_iff.1 n3).1).trans n3
    have hB4 := hB3.trans (hb2.mono hB3.size)
    clear n3 hb2 hB3
    have n5 := (Below.heap_alloc W2 (.cells #[.int .i64 kb, .int .i64 xb, .string sb, .slice anb lnb cnb, .slice aib lib cib] 25) _ (Array.getElem?_eq_some_iff.1 n4).1).trans n4
    have q5 := heap_alloc_new W2 (.cells #[.int .i64 kb, .int .i64 xb, .string sb, .slice anb lnb cnb, .slice aib lib cib] 25)
    have hB5 : Below w.heap.size w (W2.alloc (.cells #[.int .i64 kb, .int .i64 xb, .string sb, .slice anb lnb cnb, .slice aib lib cib] 25)) := hB4.alloc hB4.size _
    have hv5 := VRep.keep ((Below.refl _ W2).alloc (Nat.le_refl _) (.cells #[.int .i64 kb, .int .i64 xb, .string sb, .slice anb lnb cnb, .slice aib lib cib] 25)) _ _ hvb
    clear n4 hB4 hvb
    have r1 : (Rd.ok t 0 : Rd Tr).code = 0 := rfl
    have r2 : (((Rd.ok t 0 : Rd Tr).place : Nat) : Int) = 0 := rfl
    rw [r1, r2]
    clear r1 r2
    go_upto_region 6 with fail
    obtain ⟨B, hB⟩ : ∃ B, W2.heap.size = B := ⟨_, rfl⟩
    rw [hB] at q5
    rw [hB]
    clear hB
    generalize W2.alloc (.cells #[.int .i64 kb, .int .i64 xb, .string sb, .slice anb lnb cnb, .slice aib lib cib] 25) = W3 at n5 q5 hB5 hv5 ⊢
    have heq5 := heq W3 _ hB5 hv5
    rw [eqT_true rfl] at heq5
    obtain ⟨y0, y1, y2, y3, y4, -⟩ := row_cells n5
    obtain ⟨z0, z1, z2, z3, z4, -⟩ := row_cells q5
    go_wp2_with (go_at_call 8; refine (num_any _ _).mono ?_; rintro e w' ⟨rfl, hw⟩; replace hw := hw.symm; subst hw)
    clear y0 y1 y2 y3 y4 z0 z1 z2 z3 z4
    go_fit heq5.out
    rintro e W4 ⟨rfl, hb6⟩
    have n6 := (hb6.block _ (Array.getElem?_eq_some_iff.1 n5).1).trans n5
    have hB6 := hB5.trans (hb6.mono hB5.size)
    clear n5 q5 hB5 hv5 hb6 heq5
    go_upto_region 8 with fail
    have hb8 := hAW (W4.alloc (.cells #[] 5)) (hB6.alloc hB6.size _)
    go_wp2_with (at_builtin; refine list_append_bytes _ rfl _ _ rfl W4.heap.size _ [] rfl (owns_none W4) a l.length c l rfl rfl hb8.out.src (by simp only [List.length_nil]; omega) (by rw [World.size_alloc]; omega) ?_; intro kv W5 ho8 hgr8 hat8)
    have hB7 : Below w.heap.size w W5 := (hB6.alloc hB6.size _).trans (grown_below hgr8 (by rw [World.size_alloc]; have := hB6.size; omega) (fun g hg => by cases hg; exact hB6.size))
    obtain ⟨g8, hg8⟩ : ∃ g, kv.ownBlock = some g := by
      rcases hat8 with e | ⟨g, e, -⟩
      · exact ⟨W4.heap.size, e.trans rfl⟩
      · exact ⟨g, e⟩
    rw [List.nil_append] at ho8
    have hf8 := hfr W5 hB7 _ kv l g8 ho8 hg8 hl
    clear hb8 ho8 hgr8 hat8 hg8 hB6 n6
    go_fit hf8.out
    clear hf8
    rintro e W6 ⟨kb, xb, sb, anb, lnb, cnb, aib, lib, cib, rfl, hvb, hb9⟩
    have hB8 := hB7.trans (hb9.mono hB7.size)
    clear hb9 hB7
    obtain ⟨FR, hFR⟩ : ∃ F, Hid (fromR l = F) := ⟨_, hid_e rfl⟩
    rw [hFR.out] at hvb
    rw [hFR.out]
    cases FR with
    | no e8 q8 =>
      have he8 : (e8 == 0) = false := by simpa using from_no hFR.out
      have r1 : (Rd.no e8 q8 : Rd Tr).code = e8 := rfl
      have r2 : (Rd.no e8 q8 : Rd Tr).place = q8 := rfl
      rw [r1, r2]
      clear r1 r2
      have hB9 : Below w.heap.size w (W6.alloc (.cells #[.int .i64 kb, .int .i64 xb, .string sb, .slice anb lnb cnb, .slice aib lib cib] 25)) := hB8.alloc hB8.size _
      go_upto_region 9 with fail
      generalize W6.alloc (.cells #[.int .i64 kb, .int .i64 xb, .string sb, .slice anb lnb cnb, .slice aib lib cib] 25) = W7 at hB9 ⊢
      go_wp2_with (go_at_call 8; refine (num_any _ _).mono ?_; rintro e w' ⟨rfl, hw⟩; replace hw := hw.symm; subst hw)
      go_fit (hlive _ hB9).out
      rintro e W8 ⟨rfl, hb10⟩
      go_wp2_with fail
      go_ret
      exact ⟨rfl, hB9.trans (hb10.mono hB9.size)⟩
    | ok u q8 =>
      obtain ⟨s1, s2, s3⟩ := from_sound hFR.out
      replace s1 := hid_e s1
      replace hvb := hvb u q8 rfl
      have hB9 : Below w.heap.size w (W6.alloc (.cells #[.int .i64 kb, .int .i64 xb, .string sb, .slice anb lnb cnb, .slice aib lib cib] 25)) := hB8.alloc hB8.size _
      have q9 := heap_alloc_new W6 (.cells #[.int .i64 kb, .int .i64 xb, .string sb, .slice anb lnb cnb, .slice aib lib cib] 25)
      have hv9 := VRep.keep ((Below.refl _ W6).alloc (Nat.le_refl _) (.cells #[.int .i64 kb, .int .i64 xb, .string sb, .slice anb lnb cnb, .slice aib lib cib] 25)) _ _ hvb
      have hku : (keyT u).length ≤ 1000000000 := by rw [← s1.out]; exact hl
      have hsm := small_key u 0 s2 hku
      clear hvb hB8
      have r1 : (Rd.ok u q8 : Rd Tr).code = 0 := rfl
      have r2 : (Rd.ok u q8 : Rd Tr).place = q8 := rfl
      rw [r1, r2]
      clear r1 r2
      go_upto_region 9 with fail
      obtain ⟨B, hB⟩ : ∃ B, W6.heap.size = B := ⟨_, rfl⟩
      rw [hB] at q9
      rw [hB]
      clear hB
      generalize W6.alloc (.cells #[.int .i64 kb, .int .i64 xb, .string sb, .slice anb lnb cnb, .slice aib lib cib] 25) = W7 at hB9 q9 hv9 ⊢
      have hb11 := hby W7 u kb xb sb anb lnb cnb aib lib cib hB9 hv9 hsm s3 hku
      obtain ⟨y0, y1, y2, y3, y4, -⟩ := row_cells q9
      go_upto_region 11 with (go_at_call 8; refine (num_any _ _).mono ?_; rintro e w' ⟨rfl, hw⟩; replace hw := hw.symm; subst hw)
      go_wp2_with fail
      clear y0 y1 y2 y3 y4
      go_fit hb11.out
      rintro e W8 ⟨v8, rfl, hA8⟩
      have ho := hA8.good s2
      have hB10 := hB9.trans (hA8.below.mono hB9.size)
      rw [← s1.out] at ho
      rw [s2]
      have cv1 := own_conv ho
      have cv2 := (hAW W8 hB10).out.conv
      clear hA8 ho hb11 q9 hv9 hB9
      obtain ⟨L8, hL8⟩ : ∃ z : ByteArray, (⟨l.toArray⟩ : ByteArray) = z := ⟨_, rfl⟩
      rw [hL8] at cv1 cv2
      go_upto_region 12 with fail
      go_wp2_with (go_at_call 8; refine (num_any _ _).mono ?_; rintro e w' ⟨rfl, hw⟩; replace hw := hw.symm; subst hw)
      go_fit (hlive _ hB10).out
      rintro e W9 ⟨rfl, hb12⟩
      go_wp2_with fail
      go_ret
      exact ⟨rfl, hB10.trans (hb12.mono hB10.size)⟩
  · clear hg1
    have h0' : (checkT 0 t == 0) = false := by simpa using h0
    obtain ⟨ck, hck⟩ : ∃ z, checkT 0 t = z := ⟨_, rfl⟩
    rw [hck] at h0'
    rw [hck]
    clear hck h0
    have n6 := n3
    have hB6 := hB3
    clear n3 hB3
    go_upto_region 8 with (go_at_call 8; refine (num_any _ _).mono ?_; rintro e w' ⟨rfl, hw⟩; replace hw := hw.symm; subst hw)
    generalize W1 = W4 at n6 hB6 ⊢
    have hb8 := hAW (W4.alloc (.cells #[] 5)) (hB6.alloc hB6.size _)
    go_wp2_with (at_builtin; refine list_append_bytes _ rfl _ _ rfl W4.heap.size _ [] rfl (owns_none W4) a l.length c l rfl rfl hb8.out.src (by simp only [List.length_nil]; omega) (by rw [World.size_alloc]; omega) ?_; intro kv W5 ho8 hgr8 hat8)
    have hB7 : Below w.heap.size w W5 := (hB6.alloc hB6.size _).trans (grown_below hgr8 (by rw [World.size_alloc]; have := hB6.size; omega) (fun g hg => by cases hg; exact hB6.size))
    obtain ⟨g8, hg8⟩ : ∃ g, kv.ownBlock = some g := by
      rcases hat8 with e | ⟨g, e, -⟩
      · exact ⟨W4.heap.size, e.trans rfl⟩
      · exact ⟨g, e⟩
    rw [List.nil_append] at ho8
    have hf8 := hfr W5 hB7 _ kv l g8 ho8 hg8 hl
    clear hb8 ho8 hgr8 hat8 hg8 hB6 n6
    go_fit hf8.out
    clear hf8
    rintro e W6 ⟨kb, xb, sb, anb, lnb, cnb, aib, lib, cib, rfl, hvb, hb9⟩
    have hB8 := hB7.trans (hb9.mono hB7.size)
    clear hb9 hB7
    obtain ⟨FR, hFR⟩ : ∃ F, Hid (fromR l = F) := ⟨_, hid_e rfl⟩
    rw [hFR.out] at hvb
    rw [hFR.out]
    cases FR with
    | no e8 q8 =>
      have he8 : (e8 == 0) = false := by simpa using from_no hFR.out
      have r1 : (Rd.no e8 q8 : Rd Tr).code = e8 := rfl
      have r2 : (Rd.no e8 q8 : Rd Tr).place = q8 := rfl
      rw [r1, r2]
      clear r1 r2
      have hB9 : Below w.heap.size w (W6.alloc (.cells #[.int .i64 kb, .int .i64 xb, .string sb, .slice anb lnb cnb, .slice aib lib cib] 25)) := hB8.alloc hB8.size _
      go_upto_region 9 with fail
      generalize W6.alloc (.cells #[.int .i64 kb, .int .i64 xb, .string sb, .slice anb lnb cnb, .slice aib lib cib] 25) = W7 at hB9 ⊢
      go_wp2_with (go_at_call 8; refine (num_any _ _).mono ?_; rintro e w' ⟨rfl, hw⟩; replace hw := hw.symm; subst hw)
      go_fit (hlive _ hB9).out
      rintro e W8 ⟨rfl, hb10⟩
      go_wp2_with fail
      go_ret
      exact ⟨rfl, hB9.trans (hb10.mono hB9.size)⟩
    | ok u q8 =>
      obtain ⟨s1, s2, s3⟩ := from_sound hFR.out
      replace s1 := hid_e s1
      replace hvb := hvb u q8 rfl
      have hB9 : Below w.heap.size w (W6.alloc (.cells #[.int .i64 kb, .int .i64 xb, .string sb, .slice anb lnb cnb, .slice aib lib cib] 25)) := hB8.alloc hB8.size _
      have q9 := heap_alloc_new W6 (.cells #[.int .i64 kb, .int .i64 xb, .string sb, .slice anb lnb cnb, .slice aib lib cib] 25)
      have hv9 := VRep.keep ((Below.refl _ W6).alloc (Nat.le_refl _) (.cells #[.int .i64 kb, .int .i64 xb, .string sb, .slice anb lnb cnb, .slice aib lib cib] 25)) _ _ hvb
      have hku : (keyT u).length ≤ 1000000000 := by rw [← s1.out]; exact hl
      have hsm := small_key u 0 s2 hku
      clear hvb hB8
      have r1 : (Rd.ok u q8 : Rd Tr).code = 0 := rfl
      have r2 : (Rd.ok u q8 : Rd Tr).place = q8 := rfl
      rw [r1, r2]
      clear r1 r2
      go_upto_region 9 with fail
      obtain ⟨B, hB⟩ : ∃ B, W6.heap.size = B := ⟨_, rfl⟩
      rw [hB] at q9
      rw [hB]
      clear hB
      generalize W6.alloc (.cells #[.int .i64 kb, .int .i64 xb, .string sb, .slice anb lnb cnb, .slice aib lib cib] 25) = W7 at hB9 q9 hv9 ⊢
      have hb11 := hby W7 u kb xb sb anb lnb cnb aib lib cib hB9 hv9 hsm s3 hku
      obtain ⟨y0, y1, y2, y3, y4, -⟩ := row_cells q9
      go_upto_region 11 with (go_at_call 8; refine (num_any _ _).mono ?_; rintro e w' ⟨rfl, hw⟩; replace hw := hw.symm; subst hw)
      go_wp2_with fail
      clear y0 y1 y2 y3 y4
      go_fit hb11.out
      rintro e W8 ⟨v8, rfl, hA8⟩
      have ho := hA8.good s2
      have hB10 := hB9.trans (hA8.below.mono hB9.size)
      rw [← s1.out] at ho
      rw [s2]
      have cv1 := own_conv ho
      have cv2 := (hAW W8 hB10).out.conv
      clear hA8 ho hb11 q9 hv9 hB9
      obtain ⟨L8, hL8⟩ : ∃ z : ByteArray, (⟨l.toArray⟩ : ByteArray) = z := ⟨_, rfl⟩
      rw [hL8] at cv1 cv2
      go_upto_region 12 with fail
      go_wp2_with (go_at_call 8; refine (num_any _ _).mono ?_; rintro e w' ⟨rfl, hw⟩; replace hw := hw.symm; subst hw)
      go_fit (hlive _ hB10).out
      rintro e W9 ⟨rfl, hb12⟩
      go_wp2_with fail
      go_ret
      exact ⟨rfl, hB10.trans (hb12.mono hB10.size)⟩
end Go.Proofs.YtjmneiepcbpdpaaDoor
