import Derived.Test.YtelbjecdbogpcaaGreatDoorD1
import Derived.Test.YtelbjecdbogpcaaGreatDoorJ3
/-! Unlike values have unlike texts: the walk. -/
namespace Go.Proofs.YtelbjecdbogpcaaGreatDoor.Tree
open Go Go.RowKit

/-- Two values that were handed in. -/
structure TwoB (w : World) (b1 b2 : Array Value) (wx : World) : Prop where
  below : Below w.heap.size w wx
  one : wx.heap[w.heap.size]? = some (.cells b1 25 (0, 0))
  two : wx.heap[w.heap.size + 1]? = some (.cells b2 25 (0, 0))
theorem TwoB.keep {w wx wy : World} {b1 b2 : Array Value} (h : TwoB w b1 b2 wx) (hb : Below wx.heap.size wx wy) : TwoB w b1 b2 wy :=
  ⟨h.below.trans (hb.mono h.below.size), (hb.block _ (Array.getElem?_eq_some_iff.1 h.one).1).trans h.one, (hb.block _ (Array.getElem?_eq_some_iff.1 h.two).1).trans h.two⟩
theorem TwoB.drew {w wx : World} {b1 b2 : Array Value} (h : TwoB w b1 b2 wx) : TwoB w b1 b2 wx.drew := ⟨below_drew h.below, h.one, h.two⟩
theorem twoB_new (w : World) (b1 b2 : Array Value) : TwoB w b1 b2 ((w.alloc (.cells b1 25)).alloc (.cells b2 25)) :=
  ⟨((Below.refl _ w).alloc (Nat.le_refl _) _).alloc (by simp) _, new1 w _ _, new2 w _ _⟩
/-- Of two values that Print takes the texts are the same just if the values are. -/
theorem texts_same {t u : Tr} (h1 : printE t = 0) (h2 : printE u = 0) (r1 : RangeT t) (r2 : RangeT u) : eqT t u = (printS t).toList.beq (printS u).toList := by
  have good : ∀ v : Tr, printE v = 0 → checkT 0 v = 0 ∧ lenT v ≤ 65536 := fun v h => by
    unfold printE at h
    by_cases hc : checkT 0 v = 0
    · rw [if_pos hc] at h
      by_cases hl : lenT v ≤ 65536
      · exact ⟨hc, hl⟩
      · rw [if_neg hl] at h; simp at h
    · rw [if_neg hc] at h; exact absurd h hc
  by_cases e : t = u
  · subst e
    rw [eqT_true rfl]
    exact (beq_self_eq_true (printS t).toList).symm
  · rw [eqT_false e]
    symm
    rw [Bool.eq_false_iff]
    intro hb
    have hs : printS t = printS u := by
      have h3 : ((printS t).toList == (printS u).toList) = true := hb
      rw [str_beq] at h3
      simpa using h3
    obtain ⟨c1, l1⟩ := good t h1
    obtain ⟨c2, l2⟩ := good u h2
    obtain ⟨j1, g1, g2, g3, g4, g5, g6⟩ := good_j t 0 c1 l1 r1
    obtain ⟨j2, f1, f2, f3, f4, f5, f6⟩ := good_j u 0 c2 l2 r2
    unfold printS at hs
    rw [if_pos h1, if_pos h2, g5, f5] at hs
    have w1 := whole_back j1 g2 g3 g4
    rw [hs, whole_back j2 f2 f3 f4] at w1
    injection w1 with w1 _
    exact e (by rw [g1, f1, w1])

set_option maxHeartbeats 8000000 in
set_option maxRecDepth 100000 in
theorem unlike_true (k1 x1 : Int) (s1 : ByteArray) (an1 : Option Addr) (ln1 cn1 : Nat) (ai1 : Option Addr) (li1 ci1 : Nat) (k2 x2 : Int) (s2 : ByteArray) (an2 : Option Addr) (ln2 cn2 : Nat) (ai2 : Option Addr) (li2 ci2 : Nat) (t1 t2 : Tr) (w : World) (hV1 : Hid (VRep w t1 (five k1 x1 s1 (.slice an1 ln1 cn1) (.slice ai1 li1 ci1)))) (hV2 : Hid (VRep w t2 (five k2 x2 s2 (.slice an2 ln2 cn2) (.slice ai2 li2 ci2)))) (hS1 : Hid (SmallT t1)) (hS2 : Hid (SmallT t2)) (hR1 : Hid (RangeT t1)) (hR2 : Hid (RangeT t2)) (hE : Hid (Env w)) (hP : Hid (EnvP w)) :
    Calls Tryz.prog 4 #[.agg #[.int .i64 k1, .int .i64 x1, .string s1, .slice an1 ln1 cn1, .slice ai1 li1 ci1], .agg #[.int .i64 k2, .int .i64 x2, .string s2, .slice an2 ln2 cn2, .slice ai2 li2 ci2]] w fun e w' => e = .returned (.bool true) ∧ Below w.heap.size w w' := by
  have h8 := hP.out.big
  have hlg1 := fun W (hW : Below w.heap.size w W) => hid_e (large_parts k1 x1 s1 an1 ln1 cn1 ai1 li1 ci1 t1 W (hid_e (VRep.keep hW _ _ hV1.out)) hS1)
  have hlg2 := fun W (hW : Below w.heap.size w W) => hid_e (large_parts k2 x2 s2 an2 ln2 cn2 ai2 li2 ci2 t2 W (hid_e (VRep.keep hW _ _ hV2.out)) hS2)
  have hcp1 := fun W (hW : Below w.heap.size w W) => hid_e (copy_any t1 _ W (VRep.keep hW _ _ hV1.out) hS1.out)
  have hcp2 := fun W (hW : Below w.heap.size w W) => hid_e (copy_any t2 _ W (VRep.keep hW _ _ hV2.out) hS2.out)
  obtain ⟨pe1, hpe1⟩ : ∃ c, Hid (printE t1 = c) := ⟨_, hid_e rfl⟩
  obtain ⟨ps1, hps1⟩ : ∃ c, Hid (printS t1 = c) := ⟨_, hid_e rfl⟩
  obtain ⟨pe2, hpe2⟩ : ∃ c, Hid (printE t2 = c) := ⟨_, hid_e rfl⟩
  obtain ⟨ps2, hps2⟩ : ∃ c, Hid (printS t2 = c) := ⟨_, hid_e rfl⟩
  go_enter Tryz.func4, Tryz.ntmps4
  go_upto_region 1 with fail
  have hT0 : TwoB w #[.int .i64 k1, .int .i64 x1, .string s1, .slice an1 ln1 cn1, .slice ai1 li1 ci1] #[.int .i64 k2, .int .i64 x2, .string s2, .slice an2 ln2 cn2, .slice ai2 li2 ci2] ((w.alloc (.cells #[.int .i64 k1, .int .i64 x1, .string s1, .slice an1 ln1 cn1, .slice ai1 li1 ci1] 25)).alloc (.cells #[.int .i64 k2, .int .i64 x2, .string s2, .slice an2 ln2 cn2, .slice ai2 li2 ci2] 25)) := twoB_new w _ _
  generalize (w.alloc (.cells #[.int .i64 k1, .int .i64 x1, .string s1, .slice an1 ln1 cn1, .slice ai1 li1 ci1] 25)).alloc (.cells #[.int .i64 k2, .int .i64 x2, .string s2, .slice an2 ln2 cn2, .slice ai2 li2 ci2] 25) = X0 at hT0
  go_cut [14] (fun v wx => (∃ z : Bool, v = .bool z ∧ Hid (z = false → partsT t1 ≤ 10000 ∧ partsT t2 ≤ 10000)) ∧ TwoB w #[.int .i64 k1, .int .i64 x1, .string s1, .slice an1 ln1 cn1, .slice ai1 li1 ci1] #[.int .i64 k2, .int .i64 x2, .string s2, .slice an2 ln2 cn2, .slice ai2 li2 ci2] wx)
  case first =>
    obtain ⟨y0, y1, y2, y3, y4, -⟩ := row_cells hT0.one
    go_wp2_with fail
    clear y0 y1 y2 y3 y4
    refine (hlg1 X0 hT0.below).out.mono ?_
    rintro e X1 ⟨⟨z1, rfl, hz1⟩, hb⟩
    have hT1 := hT0.keep hb
    replace hz1 := hid_e hz1
    clear hb
    cases z1
    · obtain ⟨y0, y1, y2, y3, y4, -⟩ := row_cells hT1.two
      go_wp2_with fail
      clear y0 y1 y2 y3 y4
      refine (hlg2 X1 hT1.below).out.mono ?_
      rintro e X2 ⟨⟨z2, rfl, hz2⟩, hb⟩
      have hT2 := hT1.keep hb
      replace hz2 := hid_e hz2
      clear hb
      go_wp2_with fail
      go_meet
      exact ⟨⟨_, rfl, fun hz => ⟨hz1.out (by simp), hz2.out hz⟩⟩, hT2⟩
    · go_wp2_with fail
      go_meet
      exact ⟨⟨_, rfl, fun hz => by cases hz⟩, hT1⟩
  case rest =>
    clear hT0 hlg1 hlg2
    obtain ⟨⟨z, rfl, hz⟩, hT0⟩ := hcut
    cases z
    rotate_left
    · go_wp2_with fail
      go_ret
      exact ⟨rfl, hT0.below⟩
    have hl1 := hid_e (lenT_large hS1.out hR1.out (hz.out rfl).1)
    have hl2 := hid_e (lenT_large hS2.out hR2.out (hz.out rfl).2)
    clear hz
    obtain ⟨y0, y1, y2, y3, y4, -⟩ := row_cells hT0.one
    go_wp2_with fail
    clear y0 y1 y2 y3 y4
    refine (hcp1 _ hT0.below).out.mono ?_
    rintro e Y1 ⟨kg, xg, sg, ang, lng, cng, aig, lig, cig, rfl, hs, hb⟩
    have hT1 := hT0.keep hb
    have hpr := hid_e (print_code t1 kg xg sg ang lng cng aig lig cig Y1 (hid_e hs.rep) hS1 hR1 hl1.out (hid_e (hP.out.below hT1.below h8)))
    rw [hps1.out, hpe1.out] at hpr
    clear hs hb hT0
    go_wp2_with fail
    go_fit hpr.out
    rintro e Z1 ⟨rfl, hb⟩
    have hT2 := hT1.keep hb
    clear hb hpr hT1
    go_upto_region 4 with fail
    obtain ⟨y0, y1, y2, y3, y4, -⟩ := row_cells hT2.two
    go_wp2_with fail
    clear y0 y1 y2 y3 y4
    refine (hcp2 _ hT2.below).out.mono ?_
    rintro e Y2 ⟨kg, xg, sg, ang, lng, cng, aig, lig, cig, rfl, hs, hb⟩
    have hT3 := hT2.keep hb
    have hpr := hid_e (print_code t2 kg xg sg ang lng cng aig lig cig Y2 (hid_e hs.rep) hS2 hR2 hl2.out (hid_e (hP.out.below hT3.below h8)))
    rw [hps2.out, hpe2.out] at hpr
    clear hs hb hT2
    go_wp2_with fail
    go_fit hpr.out
    rintro e Z2 ⟨rfl, hb⟩
    have hT4 := hT3.keep hb
    clear hb hpr hT3
    go_upto_region 5 with fail
    go_cut [34] (fun v wx => (∃ z : Bool, v = .bool z ∧ Hid (z = false → pe1 = 0 ∧ pe2 = 0)) ∧ TwoB w #[.int .i64 k1, .int .i64 x1, .string s1, .slice an1 ln1 cn1, .slice ai1 li1 ci1] #[.int .i64 k2, .int .i64 x2, .string s2, .slice an2 ln2 cn2, .slice ai2 li2 ci2] wx)
    case first =>
      go_wp2_with fail
      refine (num_int pe1 _).mono ?_
      rintro e Z3 ⟨rfl, rfl⟩
      by_cases h1 : pe1 = 0
      · subst h1
        go_wp2_with fail
        refine (num_int pe2 _).mono ?_
        rintro e Z4 ⟨rfl, rfl⟩
        by_cases h2 : pe2 = 0
        · subst h2
          go_wp2_with fail
          go_meet
          exact ⟨⟨_, rfl, fun _ => by simp⟩, hT4⟩
        · have h2' : (pe2 == 0) = false := by simpa using h2
          go_wp2_with fail
          go_meet
          exact ⟨⟨_, rfl, fun hz => by exfalso; revert hz; simp [h2]⟩, hT4⟩
      · have h1' : (pe1 == 0) = false := by simpa using h1
        go_wp2_with fail
        go_meet
        exact ⟨⟨_, rfl, fun hz => by exfalso; revert hz; simp⟩, hT4⟩
    case rest =>
      clear hT4
      obtain ⟨⟨z, rfl, hz⟩, hT⟩ := hcut
      cases z
      rotate_left
      · have hlv := fun W (hW : Below w.heap.size w W) => hid_e (live_true W (hE.out.below hW h8) (hP.out.below hW h8))
        go_wp2_with fail
        refine (hlv _ hT.below).out.mono ?_
        rintro e W9 ⟨rfl, hb9⟩
        go_wp2_with fail
        go_ret
        exact ⟨rfl, hT.below.trans (hb9.mono hT.below.size)⟩
      obtain ⟨e1, e2⟩ := hz.out rfl
      have hEq := hid_e (texts_same (hpe1.out.trans e1) (hpe2.out.trans e2) hR1.out hR2.out)
      rw [hps1.out, hps2.out] at hEq
      obtain ⟨sb, hsb⟩ : ∃ b, (ps1.toList == ps2.toList) = b := ⟨_, rfl⟩
      have hEq' : Hid (eqT t1 t2 = sb) := hEq.out.trans hsb
      clear hEq hz
      have hbb : (sb == sb) = true := by simp
      go_upto_region 7 with fail
      replace hT := hT.drew
      refine wp_region_noPanic ?_
      refine Until.wp_region_U (fun w' => TwoB w #[.int .i64 k1, .int .i64 x1, .string s1, .slice an1 ln1 cn1, .slice ai1 li1 ci1] #[.int .i64 k2, .int .i64 x2, .string s2, .slice an2 ln2 cn2, .slice ai2 li2 ci2] w') (fun _ => True) 12 (by kernel_rfl) ?_
      refine Until.wpU_pure (i := 0) (oi := { dst := some 36, op := Op.move (Operand.tmp 5), type := 9, pos := "law.go:209", after := #[], guard := none }) (v := .string ps1) rfl (by kernel_rfl) (by kernel_rfl) (by kernel_rfl) (by kernel_rfl) (by kernel_rfl) (fun _ _ _ h => h) (hT) (fun _ => trivial) (by rfl) (by intro w'; go_simp) ?_
      try simp only [Act.put, List.setIfInBounds_toArray, List.set_cons_zero, List.set_cons_succ]
      refine Until.wpU_pure (i := 1) (oi := { dst := some 37, op := Op.move (Operand.tmp 7), type := 9, pos := "law.go:209", after := #[], guard := none }) (v := .string ps2) rfl (by kernel_rfl) (by kernel_rfl) (by kernel_rfl) (by kernel_rfl) (by kernel_rfl) (fun _ _ _ h => h) (hT) (fun _ => trivial) (by rfl) (by intro w'; go_simp) ?_
      try simp only [Act.put, List.setIfInBounds_toArray, List.set_cons_zero, List.set_cons_succ]
      refine Until.wpU_pure (i := 2) (oi := { dst := some 38, op := Op.binOp BinOp.eql 9 (Operand.tmp 36) (Operand.tmp 37) 9, type := 4, pos := "law.go:209", after := #[{ on := 0, ground := Ground.data }, { on := 1, ground := Ground.data }], guard := none }) (v := .bool sb) rfl (by kernel_rfl) (by kernel_rfl) (by kernel_rfl) (by kernel_rfl) (by kernel_rfl) (fun _ _ _ h => h) (hT) (fun _ => trivial) (by rfl) (by intro w'; go_simp) ?_
      try simp only [Act.put, List.setIfInBounds_toArray, List.set_cons_zero, List.set_cons_succ]
      refine Until.wpU_load0 (i := 3) (oi := { dst := some 39, op := Op.load 25 (Operand.tmp 2), type := 25, pos := "law.go:209", after := #[], guard := none }) (v := .agg #[.int .i64 k1, .int .i64 x1, .string s1, .slice an1 ln1 cn1, .slice ai1 li1 ci1]) rfl (by kernel_rfl) (by kernel_rfl) (by kernel_rfl) (by kernel_rfl) (by kernel_rfl) (fun _ _ _ h => h) (hT) (fun _ => trivial) (by rfl) (by intro w' hw'; obtain ⟨t0, t1, t2, t3, t4, -⟩ := row_cells hw'.one; clear hw'; go_simp) ?_
      try simp only [Act.put, List.setIfInBounds_toArray, List.set_cons_zero, List.set_cons_succ]
      refine Until.wpU_load0 (i := 5) (oi := { dst := some 41, op := Op.load 25 (Operand.tmp 3), type := 25, pos := "law.go:209", after := #[], guard := none }) (v := .agg #[.int .i64 k2, .int .i64 x2, .string s2, .slice an2 ln2 cn2, .slice ai2 li2 ci2]) rfl (by kernel_rfl) (by kernel_rfl) (by kernel_rfl) (by kernel_rfl) (by kernel_rfl) (fun _ _ _ h => h) (hT) (fun _ => trivial) (by rfl) (by intro w' hw'; obtain ⟨t0, t1, t2, t3, t4, -⟩ := row_cells hw'.two; clear hw'; go_simp) ?_
      try simp only [Act.put, List.setIfInBounds_toArray, List.set_cons_zero, List.set_cons_succ]
      refine Until.wpU_ready (rs := [4]) (by kernel_rfl) (by simp) ?_
      refine (Until.AllU.cons (o := { dst := some 40, op := Op.call { callee := Callee.value (Operand.func 10), args := #[Operand.tmp 39], argTypes := #[25] }, type := 25, pos := "law.go:209", after := #[{ on := 3, ground := Ground.data }], guard := none }) rfl (fun K hK => ?_) Until.AllU.nil)
      go_simp
      refine (hcp1 _ hT.below).out.mono ?_
      rintro e U1 ⟨ka, xa, sa, ana, lna, cna, aia, lia, cia, rfl, hs1, hb1⟩
      have hT1 := hT.keep hb1
      replace hs1 := hid_e hs1
      refine hK.out _ _ hT1 (fun _ => trivial) ?_
      clear hK K
      try simp only [Act.put, List.setIfInBounds_toArray, List.set_cons_zero, List.set_cons_succ]
      refine Until.wpU_ready (rs := [6]) (by kernel_rfl) (by simp) ?_
      refine (Until.AllU.cons (o := { dst := some 42, op := Op.call { callee := Callee.value (Operand.func 10), args := #[Operand.tmp 41], argTypes := #[25] }, type := 25, pos := "law.go:209", after := #[{ on := 5, ground := Ground.data }, { on := 4, ground := Ground.chain }], guard := none }) rfl (fun K hK => ?_) Until.AllU.nil)
      go_simp
      refine (hcp2 _ hT1.below).out.mono ?_
      rintro e U2 ⟨kb, xb, sb, anb, lnb, cnb, aib, lib, cib, rfl, hs2, hb2⟩
      have hT2 := hT1.keep hb2
      have hcm := hid_e (jeq_any t1 t2 _ _ U2 (VRep.keep hb2 _ _ hs1.out.rep) hs2.rep hS1.out)
      rw [hEq'.out] at hcm
      refine hK.out _ _ hT2 (fun _ => trivial) ?_
      clear hK K hs1 hs2 hb1 hb2
      try simp only [Act.put, List.setIfInBounds_toArray, List.set_cons_zero, List.set_cons_succ]
      refine Until.wpU_ready (rs := [7]) (by kernel_rfl) (by simp) ?_
      refine (Until.AllU.cons (o := { dst := some 43, op := Op.call { callee := Callee.value (Operand.func 15), args := #[Operand.tmp 40, Operand.tmp 42], argTypes := #[25, 25] }, type := 4, pos := "law.go:209", after := #[{ on := 4, ground := Ground.data }, { on := 6, ground := Ground.data }, { on := 6, ground := Ground.chain }], guard := none }) rfl (fun K hK => ?_) Until.AllU.nil)
      go_simp
      go_fit hcm.out
      rintro e U3 ⟨rfl, hb3⟩
      have hT3 := hT2.keep hb3
      clear hb3 hcm hT1 hT2 hT
      refine hK.out _ _ hT3 (fun _ => trivial) ?_
      clear hK K
      try simp only [Act.put, List.setIfInBounds_toArray, List.set_cons_zero, List.set_cons_succ]
      refine Until.wpU_ready (rs := [8]) (by kernel_rfl) (by simp) ?_
      refine (Until.AllU.cons (o := { dst := some 44, op := Op.binOp BinOp.eql 4 (Operand.tmp 38) (Operand.tmp 43) 4, type := 4, pos := "law.go:209", after := #[{ on := 2, ground := Ground.data }, { on := 7, ground := Ground.data }], guard := none }) rfl (fun K hK => ?_) Until.AllU.nil)
      go_simp
      refine hK.out _ _ hT3 (fun _ => trivial) ?_
      clear hK K
      try simp only [Act.put, List.setIfInBounds_toArray, List.set_cons_zero, List.set_cons_succ]
      refine Until.wpU_ready (rs := [9]) (by kernel_rfl) (by simp) ?_
      refine (Until.AllU.cons (o := { dst := some 45, op := Op.move (Operand.tmp 44), type := 4, pos := "law.go:209", after := #[{ on := 8, ground := Ground.data }, { on := 7, ground := Ground.chain }], guard := none }) rfl (fun K hK => ?_) Until.AllU.nil)
      go_simp
      refine hK.out _ _ hT3 (fun _ => trivial) ?_
      clear hK K
      try simp only [Act.put, List.setIfInBounds_toArray, List.set_cons_zero, List.set_cons_succ]
      have hlv := hid_e (live_true U3 (hE.out.below hT3.below h8) (hP.out.below hT3.below h8))
      refine Until.wpU_ready (rs := [10]) (by kernel_rfl) (by simp) ?_
      refine (Until.AllU.cons (o := { dst := some 46, op := Op.call { callee := Callee.value (Operand.func 12), args := #[], argTypes := #[] }, type := 4, pos := "law.go:209", after := #[{ on := 9, ground := Ground.chain }, { on := 9, ground := Ground.guard }], guard := some (9, true) }) rfl (fun K hK => ?_) Until.AllU.nil)
      go_simp
      go_fit hlv.out
      rintro e U4 ⟨rfl, hb4⟩
      have hT4 := hT3.keep hb4
      clear hb4 hlv hT3
      refine hK.out _ _ hT4 (fun _ => trivial) ?_
      clear hK K
      try simp only [Act.put, List.setIfInBounds_toArray, List.set_cons_zero, List.set_cons_succ]
      refine Until.wpU_ready (rs := [11]) (by kernel_rfl) (by simp) ?_
      refine (Until.AllU.cons (o := { dst := some 47, op := Op.pick (Operand.tmp 45) (Operand.tmp 46) (Operand.const (Value.bool false)), type := 4, pos := "law.go:209", after := #[{ on := 9, ground := Ground.data }, { on := 10, ground := Ground.data }], guard := none }) rfl (fun K hK => ?_) Until.AllU.nil)
      go_simp
      refine hK.out _ _ hT4 (fun _ => trivial) ?_
      clear hK K
      try simp only [Act.put, List.setIfInBounds_toArray, List.set_cons_zero, List.set_cons_succ]
      refine Until.wpU_ready (rs := [12]) (by kernel_rfl) (by simp) ?_
      refine (Until.AllU.cons (o := { dst := some 4, op := Op.assign (Operand.tmp 47), type := 4, pos := "law.go:209", after := #[{ on := 11, ground := Ground.data }, { on := 10, ground := Ground.chain }, { on := 0, ground := Ground.phase }, { on := 1, ground := Ground.phase }, { on := 2, ground := Ground.phase }, { on := 3, ground := Ground.phase }, { on := 4, ground := Ground.phase }, { on := 5, ground := Ground.phase }, { on := 6, ground := Ground.phase }, { on := 7, ground := Ground.phase }, { on := 8, ground := Ground.phase }, { on := 9, ground := Ground.phase }, { on := 10, ground := Ground.phase }, { on := 11, ground := Ground.phase }], guard := none }) rfl (fun K hK => ?_) Until.AllU.nil)
      go_simp
      refine hK.out _ _ hT4 (fun _ => trivial) ?_
      clear hK K
      try simp only [Act.put, List.setIfInBounds_toArray, List.set_cons_zero, List.set_cons_succ]
      refine Until.wpU_done (by kernel_rfl) ?_ _
      refine NoPanic.normal ?_
      go_wp2_with fail
      go_ret
      exact ⟨rfl, hT4.below⟩
end Go.Proofs.YtelbjecdbogpcaaGreatDoor.Tree
