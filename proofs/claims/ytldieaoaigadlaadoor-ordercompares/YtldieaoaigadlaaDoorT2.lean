import Derived.Test.YtldieaoaigadlaaDoorT1
/-! The order is total: the walk. -/
namespace Go.Proofs.YtldieaoaigadlaaDoor
open Go Go.RowKit

theorem three_new (w : World) (b1 b2 b3 : Array Value) : Three w b1 b2 b3 (((w.alloc (.cells b1 28)).alloc (.cells b2 28)).alloc (.cells b3 28)) := by
  have h1 := new1 w (.cells b1 28) (.cells b2 28)
  have h2 := new2 w (.cells b1 28) (.cells b2 28)
  have h3 := heap_alloc_new ((w.alloc (.cells b1 28)).alloc (.cells b2 28)) (.cells b3 28)
  simp only [World.size_alloc] at h3
  exact ⟨(((Below.refl _ w).alloc (Nat.le_refl _) _).alloc (by simp) _).alloc (by simp only [World.size_alloc]; omega) _, (Below.heap_alloc _ _ _ (by simp only [World.size_alloc]; omega)).trans h1, (Below.heap_alloc _ _ _ (by simp only [World.size_alloc]; omega)).trans h2, h3⟩
set_option maxHeartbeats 4000000 in
set_option maxRecDepth 100000 in
theorem total_true (k1 x1 : Int) (s1 : ByteArray) (an1 : Option Addr) (ln1 cn1 : Nat) (ai1 : Option Addr) (li1 ci1 : Nat) (k2 x2 : Int) (s2 : ByteArray) (an2 : Option Addr) (ln2 cn2 : Nat) (ai2 : Option Addr) (li2 ci2 : Nat) (k3 x3 : Int) (s3 : ByteArray) (an3 : Option Addr) (ln3 cn3 : Nat) (ai3 : Option Addr) (li3 ci3 : Nat) (t1 t2 t3 : Tr) (w : World) (hV1 : Hid (VRep w t1 (five k1 x1 s1 (.slice an1 ln1 cn1) (.slice ai1 li1 ci1)))) (hV2 : Hid (VRep w t2 (five k2 x2 s2 (.slice an2 ln2 cn2) (.slice ai2 li2 ci2)))) (hV3 : Hid (VRep w t3 (five k3 x3 s3 (.slice an3 ln3 cn3) (.slice ai3 li3 ci3)))) (hS1 : Hid (SmallT t1)) (hS2 : Hid (SmallT t2)) (hS3 : Hid (SmallT t3)) :
    Calls Tryd.prog 4 #[.agg #[.int .i64 k1, .int .i64 x1, .string s1, .slice an1 ln1 cn1, .slice ai1 li1 ci1], .agg #[.int .i64 k2, .int .i64 x2, .string s2, .slice an2 ln2 cn2, .slice ai2 li2 ci2], .agg #[.int .i64 k3, .int .i64 x3, .string s3, .slice an3 ln3 cn3, .slice ai3 li3 ci3]] w fun e w' => e = .returned (.bool true) ∧ Below w.heap.size w w' := by
  obtain ⟨ab, hab⟩ : ∃ z, Hid (cmpT t1 t2 = z) := ⟨_, rfl⟩
  obtain ⟨bc, hbc⟩ : ∃ z, Hid (cmpT t2 t3 = z) := ⟨_, rfl⟩
  obtain ⟨ac, hac⟩ : ∃ z, Hid (cmpT t1 t3 = z) := ⟨_, rfl⟩
  have rab : ab = -1 ∨ ab = 0 ∨ ab = 1 := by rw [← hab.out]; exact cmpT_range _ _
  have rbc : bc = -1 ∨ bc = 0 ∨ bc = 1 := by rw [← hbc.out]; exact cmpT_range _ _
  have rac : ac = -1 ∨ ac = 0 ∨ ac = 1 := by rw [← hac.out]; exact cmpT_range _ _
  have hT : Hid ((ab ≤ 0 → bc ≤ 0 → ac ≤ 0) ∧ (0 ≤ ab → 0 ≤ bc → 0 ≤ ac)) := by rw [← hab.out, ← hbc.out, ← hac.out]; exact ⟨cmpT_trans _ _ _, cmpT_goes _ _ _⟩
  have hba : Hid (cmpT t2 t1 = -ab) := by rw [← hab.out]; exact cmpT_anti _ _
  have haa : Hid (cmpT t1 t1 = 0) := cmpT_self _
  replace rab := hid_e rab
  replace rbc := hid_e rbc
  replace rac := hid_e rac
  have hlg1 := fun W (hW : Below w.heap.size w W) => hid_e (large_one k1 x1 s1 an1 ln1 cn1 ai1 li1 ci1 t1 W (hid_e (VRep.keep hW _ _ hV1.out)))
  have hlg2 := fun W (hW : Below w.heap.size w W) => hid_e (large_one k2 x2 s2 an2 ln2 cn2 ai2 li2 ci2 t2 W (hid_e (VRep.keep hW _ _ hV2.out)))
  have hlg3 := fun W (hW : Below w.heap.size w W) => hid_e (large_one k3 x3 s3 an3 ln3 cn3 ai3 li3 ci3 t3 W (hid_e (VRep.keep hW _ _ hV3.out)))
  have hcp1 := fun W (hW : Below w.heap.size w W) => hid_e (copy_any t1 _ W (VRep.keep hW _ _ hV1.out) hS1.out)
  have hcp2 := fun W (hW : Below w.heap.size w W) => hid_e (copy_any t2 _ W (VRep.keep hW _ _ hV2.out) hS2.out)
  have hcp3 := fun W (hW : Below w.heap.size w W) => hid_e (copy_any t3 _ W (VRep.keep hW _ _ hV3.out) hS3.out)
  clear hV1 hV2 hV3
  go_enter Tryd.func4, Tryd.ntmps4
  go_upto_region 1 with fail
  have hT0 : Three w #[.int .i64 k1, .int .i64 x1, .string s1, .slice an1 ln1 cn1, .slice ai1 li1 ci1] #[.int .i64 k2, .int .i64 x2, .string s2, .slice an2 ln2 cn2, .slice ai2 li2 ci2] #[.int .i64 k3, .int .i64 x3, .string s3, .slice an3 ln3 cn3, .slice ai3 li3 ci3] (((w.alloc (.cells #[.int .i64 k1, .int .i64 x1, .string s1, .slice an1 ln1 cn1, .slice ai1 li1 ci1] 28)).alloc (.cells #[.int .i64 k2, .int .i64 x2, .string s2, .slice an2 ln2 cn2, .slice ai2 li2 ci2] 28)).alloc (.cells #[.int .i64 k3, .int .i64 x3, .string s3, .slice an3 ln3 cn3, .slice ai3 li3 ci3] 28)) := three_new w _ _ _
  generalize ((w.alloc (.cells #[.int .i64 k1, .int .i64 x1, .string s1, .slice an1 ln1 cn1, .slice ai1 li1 ci1] 28)).alloc (.cells #[.int .i64 k2, .int .i64 x2, .string s2, .slice an2 ln2 cn2, .slice ai2 li2 ci2] 28)).alloc (.cells #[.int .i64 k3, .int .i64 x3, .string s3, .slice an3 ln3 cn3, .slice ai3 li3 ci3] 28) = X0 at hT0
  go_cut [19] (fun v wx => (∃ z : Bool, v = .bool z) ∧ Three w #[.int .i64 k1, .int .i64 x1, .string s1, .slice an1 ln1 cn1, .slice ai1 li1 ci1] #[.int .i64 k2, .int .i64 x2, .string s2, .slice an2 ln2 cn2, .slice ai2 li2 ci2] #[.int .i64 k3, .int .i64 x3, .string s3, .slice an3 ln3 cn3, .slice ai3 li3 ci3] wx)
  case first =>
    obtain ⟨y0, y1, y2, y3, y4, -⟩ := row_cells hT0.one
    go_wp2_with fail
    clear y0 y1 y2 y3 y4
    refine (hlg1 X0 hT0.below).out.mono ?_
    rintro e X1 ⟨⟨z1, rfl⟩, hb⟩
    have hT1 := hT0.keep hb
    clear hb
    obtain ⟨y0, y1, y2, y3, y4, -⟩ := row_cells hT1.two
    cases z1
    · go_wp2_with fail
      clear y0 y1 y2 y3 y4
      refine (hlg2 X1 hT1.below).out.mono ?_
      rintro e X2 ⟨⟨z2, rfl⟩, hb⟩
      have hT2 := hT1.keep hb
      clear hb
      obtain ⟨y0, y1, y2, y3, y4, -⟩ := row_cells hT2.three
      cases z2
      · go_wp2_with fail
        clear y0 y1 y2 y3 y4
        refine (hlg3 X2 hT2.below).out.mono ?_
        rintro e X3 ⟨⟨z3, rfl⟩, hb⟩
        have hT3 := hT2.keep hb
        clear hb
        go_wp2_with fail
        go_meet
        exact ⟨⟨_, rfl⟩, hT3⟩
      · go_wp2_with fail
        go_meet
        exact ⟨⟨_, rfl⟩, hT2⟩
    · go_wp2_with fail
      go_meet
      exact ⟨⟨_, rfl⟩, hT1⟩
  case rest =>
    clear hT0 hlg1 hlg2 hlg3
    obtain ⟨⟨z, rfl⟩, hT0⟩ := hcut
    cases z
    · go_upto_region 3 with fail
      go_cut [7] (fun v wx => v = .int .i64 ab ∧ Three w #[.int .i64 k1, .int .i64 x1, .string s1, .slice an1 ln1 cn1, .slice ai1 li1 ci1] #[.int .i64 k2, .int .i64 x2, .string s2, .slice an2 ln2 cn2, .slice ai2 li2 ci2] #[.int .i64 k3, .int .i64 x3, .string s3, .slice an3 ln3 cn3, .slice ai3 li3 ci3] wx)
      case first =>
        replace hT0 := hT0.drew
        refine wp_region_noPanic ?_
        refine Until.wp_region_U (fun w' => Three w #[.int .i64 k1, .int .i64 x1, .string s1, .slice an1 ln1 cn1, .slice ai1 li1 ci1] #[.int .i64 k2, .int .i64 x2, .string s2, .slice an2 ln2 cn2, .slice ai2 li2 ci2] #[.int .i64 k3, .int .i64 x3, .string s3, .slice an3 ln3 cn3, .slice ai3 li3 ci3] w') (fun _ => True) 5 (by kernel_rfl) ?_
        refine Until.wpU_load0 (i := 0) (oi := { dst := some 20, op := Op.load 28 (Operand.tmp 3), type := 28, pos := "law.go:114", after := #[], guard := none }) (v := .agg #[.int .i64 k1, .int .i64 x1, .string s1, .slice an1 ln1 cn1, .slice ai1 li1 ci1]) rfl (by kernel_rfl) (by kernel_rfl) (by kernel_rfl) (by kernel_rfl) (by kernel_rfl) (fun _ _ _ h => h) (hT0) (fun _ => trivial) (by rfl) (by intro w' hw'; obtain ⟨t0, t1, t2, t3, t4, -⟩ := row_cells hw'.one; clear hw'; go_simp) ?_
        try simp only [Act.put, List.setIfInBounds_toArray, List.set_cons_zero, List.set_cons_succ]
        refine Until.wpU_load0 (i := 2) (oi := { dst := some 22, op := Op.load 28 (Operand.tmp 4), type := 28, pos := "law.go:114", after := #[], guard := none }) (v := .agg #[.int .i64 k2, .int .i64 x2, .string s2, .slice an2 ln2 cn2, .slice ai2 li2 ci2]) rfl (by kernel_rfl) (by kernel_rfl) (by kernel_rfl) (by kernel_rfl) (by kernel_rfl) (fun _ _ _ h => h) (hT0) (fun _ => trivial) (by rfl) (by intro w' hw'; obtain ⟨t0, t1, t2, t3, t4, -⟩ := row_cells hw'.two; clear hw'; go_simp) ?_
        try simp only [Act.put, List.setIfInBounds_toArray, List.set_cons_zero, List.set_cons_succ]
        refine Until.wpU_ready (rs := [1]) (by kernel_rfl) (by simp) ?_
        refine (Until.AllU.cons (o := { dst := some 21, op := Op.call { callee := Callee.value (Operand.func 13), args := #[Operand.tmp 20], argTypes := #[28] }, type := 28, pos := "law.go:114", after := #[{ on := 0, ground := Ground.data }], guard := none }) rfl (fun K hK => ?_) Until.AllU.nil)
        go_simp
        refine (hcp1 _ hT0.below).out.mono ?_
        rintro e Y1 ⟨ka, xa, sa, ana, lna, cna, aia, lia, cia, rfl, hs1, hb1⟩
        have hU1 := hT0.keep hb1
        replace hs1 := hid_e hs1
        refine hK.out _ _ hU1 (fun _ => trivial) ?_
        clear hK K
        try simp only [Act.put, List.setIfInBounds_toArray, List.set_cons_zero, List.set_cons_succ]
        refine Until.wpU_ready (rs := [3]) (by kernel_rfl) (by simp) ?_
        refine (Until.AllU.cons (o := { dst := some 23, op := Op.call { callee := Callee.value (Operand.func 13), args := #[Operand.tmp 22], argTypes := #[28] }, type := 28, pos := "law.go:114", after := #[{ on := 2, ground := Ground.data }, { on := 1, ground := Ground.chain }], guard := none }) rfl (fun K hK => ?_) Until.AllU.nil)
        go_simp
        refine (hcp2 _ hU1.below).out.mono ?_
        rintro e Y2 ⟨kb, xb, sb, anb, lnb, cnb, aib, lib, cib, rfl, hs2, hb2⟩
        have hU2 := hU1.keep hb2
        have hcm := hid_e (compare_copies (VRep.keep hb2 _ _ hs1.out.rep) hs2.rep hS1.out hS2.out)
        refine hK.out _ _ hU2 (fun _ => trivial) ?_
        clear hK K hs1 hs2 hb1 hb2
        try simp only [Act.put, List.setIfInBounds_toArray, List.set_cons_zero, List.set_cons_succ]
        refine Until.wpU_ready (rs := [4]) (by kernel_rfl) (by simp) ?_
        refine (Until.AllU.cons (o := { dst := some 24, op := Op.call { callee := Callee.value (Operand.func 12), args := #[Operand.tmp 21, Operand.tmp 23], argTypes := #[28, 28] }, type := 3, pos := "law.go:114", after := #[{ on := 1, ground := Ground.data }, { on := 3, ground := Ground.data }, { on := 3, ground := Ground.chain }], guard := none }) rfl (fun K hK => ?_) Until.AllU.nil)
        go_simp
        refine hcm.out.mono ?_
        rintro e Y3 ⟨rfl, hb3⟩
        have hU3 := hU2.keep hb3
        clear hb3 hcm hU1 hU2
        refine hK.out _ _ hU3 (fun _ => trivial) ?_
        clear hK K
        try simp only [Act.put, List.setIfInBounds_toArray, List.set_cons_zero, List.set_cons_succ]
        refine Until.wpU_ready (rs := [5]) (by kernel_rfl) (by simp) ?_
        refine (Until.AllU.cons (o := { dst := some 7, op := Op.assign (Operand.tmp 24), type := 3, pos := "law.go:114", after := #[{ on := 4, ground := Ground.data }, { on := 4, ground := Ground.chain }, { on := 0, ground := Ground.phase }, { on := 1, ground := Ground.phase }, { on := 2, ground := Ground.phase }, { on := 3, ground := Ground.phase }, { on := 4, ground := Ground.phase }], guard := none }) rfl (fun K hK => ?_) Until.AllU.nil)
        go_simp
        refine hK.out _ _ hU3 (fun _ => trivial) ?_
        clear hK K
        try simp only [Act.put, List.setIfInBounds_toArray, List.set_cons_zero, List.set_cons_succ]
        refine Until.wpU_done (by kernel_rfl) ?_ _
        refine NoPanic.normal ?_
        go_wp2_with fail
        go_meet
        exact ⟨by rw [hab.out], hU3⟩
      case rest =>
        clear hT0
        obtain ⟨rfl, hT0⟩ := hcut
        go_upto_region 4 with fail
        go_cut [8] (fun v wx => v = .int .i64 bc ∧ Three w #[.int .i64 k1, .int .i64 x1, .string s1, .slice an1 ln1 cn1, .slice ai1 li1 ci1] #[.int .i64 k2, .int .i64 x2, .string s2, .slice an2 ln2 cn2, .slice ai2 li2 ci2] #[.int .i64 k3, .int .i64 x3, .string s3, .slice an3 ln3 cn3, .slice ai3 li3 ci3] wx)
        case first =>
          replace hT0 := hT0.drew
          refine wp_region_noPanic ?_
          refine Until.wp_region_U (fun w' => Three w #[.int .i64 k1, .int .i64 x1, .string s1, .slice an1 ln1 cn1, .slice ai1 li1 ci1] #[.int .i64 k2, .int .i64 x2, .string s2, .slice an2 ln2 cn2, .slice ai2 li2 ci2] #[.int .i64 k3, .int .i64 x3, .string s3, .slice an3 ln3 cn3, .slice ai3 li3 ci3] w') (fun _ => True) 5 (by kernel_rfl) ?_
          refine Until.wpU_load0 (i := 0) (oi := { dst := some 25, op := Op.load 28 (Operand.tmp 4), type := 28, pos := "law.go:115", after := #[], guard := none }) (v := .agg #[.int .i64 k2, .int .i64 x2, .string s2, .slice an2 ln2 cn2, .slice ai2 li2 ci2]) rfl (by kernel_rfl) (by kernel_rfl) (by kernel_rfl) (by kernel_rfl) (by kernel_rfl) (fun _ _ _ h => h) (hT0) (fun _ => trivial) (by rfl) (by intro w' hw'; obtain ⟨t0, t1, t2, t3, t4, -⟩ := row_cells hw'.two; clear hw'; go_simp) ?_
          try simp only [Act.put, List.setIfInBounds_toArray, List.set_cons_zero, List.set_cons_succ]
          refine Until.wpU_load0 (i := 2) (oi := { dst := some 27, op := Op.load 28 (Operand.tmp 5), type := 28, pos := "law.go:115", after := #[], guard := none }) (v := .agg #[.int .i64 k3, .int .i64 x3, .string s3, .slice an3 ln3 cn3, .slice ai3 li3 ci3]) rfl (by kernel_rfl) (by kernel_rfl) (by kernel_rfl) (by kernel_rfl) (by kernel_rfl) (fun _ _ _ h => h) (hT0) (fun _ => trivial) (by rfl) (by intro w' hw'; obtain ⟨t0, t1, t2, t3, t4, -⟩ := row_cells hw'.three; clear hw'; go_simp) ?_
          try simp only [Act.put, List.setIfInBounds_toArray, List.set_cons_zero, List.set_cons_succ]
          refine Until.wpU_ready (rs := [1]) (by kernel_rfl) (by simp) ?_
          refine (Until.AllU.cons (o := { dst := some 26, op := Op.call { callee := Callee.value (Operand.func 13), args := #[Operand.tmp 25], argTypes := #[28] }, type := 28, pos := "law.go:115", after := #[{ on := 0, ground := Ground.data }], guard := none }) rfl (fun K hK => ?_) Until.AllU.nil)
          go_simp
          refine (hcp2 _ hT0.below).out.mono ?_
          rintro e Y1 ⟨ka, xa, sa, ana, lna, cna, aia, lia, cia, rfl, hs1, hb1⟩
          have hU1 := hT0.keep hb1
          replace hs1 := hid_e hs1
          refine hK.out _ _ hU1 (fun _ => trivial) ?_
          clear hK K
          try simp only [Act.put, List.setIfInBounds_toArray, List.set_cons_zero, List.set_cons_succ]
          refine Until.wpU_ready (rs := [3]) (by kernel_rfl) (by simp) ?_
          refine (Until.AllU.cons (o := { dst := some 28, op := Op.call { callee := Callee.value (Operand.func 13), args := #[Operand.tmp 27], argTypes := #[28] }, type := 28, pos := "law.go:115", after := #[{ on := 2, ground := Ground.data }, { on := 1, ground := Ground.chain }], guard := none }) rfl (fun K hK => ?_) Until.AllU.nil)
          go_simp
          refine (hcp3 _ hU1.below).out.mono ?_
          rintro e Y2 ⟨kb, xb, sb, anb, lnb, cnb, aib, lib, cib, rfl, hs2, hb2⟩
          have hU2 := hU1.keep hb2
          have hcm := hid_e (compare_copies (VRep.keep hb2 _ _ hs1.out.rep) hs2.rep hS2.out hS3.out)
          refine hK.out _ _ hU2 (fun _ => trivial) ?_
          clear hK K hs1 hs2 hb1 hb2
          try simp only [Act.put, List.setIfInBounds_toArray, List.set_cons_zero, List.set_cons_succ]
          refine Until.wpU_ready (rs := [4]) (by kernel_rfl) (by simp) ?_
          refine (Until.AllU.cons (o := { dst := some 29, op := Op.call { callee := Callee.value (Operand.func 12), args := #[Operand.tmp 26, Operand.tmp 28], argTypes := #[28, 28] }, type := 3, pos := "law.go:115", after := #[{ on := 1, ground := Ground.data }, { on := 3, ground := Ground.data }, { on := 3, ground := Ground.chain }], guard := none }) rfl (fun K hK => ?_) Until.AllU.nil)
          go_simp
          refine hcm.out.mono ?_
          rintro e Y3 ⟨rfl, hb3⟩
          have hU3 := hU2.keep hb3
          clear hb3 hcm hU1 hU2
          refine hK.out _ _ hU3 (fun _ => trivial) ?_
          clear hK K
          try simp only [Act.put, List.setIfInBounds_toArray, List.set_cons_zero, List.set_cons_succ]
          refine Until.wpU_ready (rs := [5]) (by kernel_rfl) (by simp) ?_
          refine (Until.AllU.cons (o := { dst := some 8, op := Op.assign (Operand.tmp 29), type := 3, pos := "law.go:115", after := #[{ on := 4, ground := Ground.data }, { on := 4, ground := Ground.chain }, { on := 0, ground := Ground.phase }, { on := 1, ground := Ground.phase }, { on := 2, ground := Ground.phase }, { on := 3, ground := Ground.phase }, { on := 4, ground := Ground.phase }], guard := none }) rfl (fun K hK => ?_) Until.AllU.nil)
          go_simp
          refine hK.out _ _ hU3 (fun _ => trivial) ?_
          clear hK K
          try simp only [Act.put, List.setIfInBounds_toArray, List.set_cons_zero, List.set_cons_succ]
          refine Until.wpU_done (by kernel_rfl) ?_ _
          refine NoPanic.normal ?_
          go_wp2_with fail
          go_meet
          exact ⟨by rw [hbc.out], hU3⟩
        case rest =>
          clear hT0
          obtain ⟨rfl, hT0⟩ := hcut
          go_upto_region 5 with fail
          go_cut [9] (fun v wx => v = .int .i64 ac ∧ Three w #[.int .i64 k1, .int .i64 x1, .string s1, .slice an1 ln1 cn1, .slice ai1 li1 ci1] #[.int .i64 k2, .int .i64 x2, .string s2, .slice an2 ln2 cn2, .slice ai2 li2 ci2] #[.int .i64 k3, .int .i64 x3, .string s3, .slice an3 ln3 cn3, .slice ai3 li3 ci3] wx)
          case first =>
            replace hT0 := hT0.drew
            refine wp_region_noPanic ?_
            refine Until.wp_region_U (fun w' => Three w #[.int .i64 k1, .int .i64 x1, .string s1, .slice an1 ln1 cn1, .slice ai1 li1 ci1] #[.int .i64 k2, .int .i64 x2, .string s2, .slice an2 ln2 cn2, .slice ai2 li2 ci2] #[.int .i64 k3, .int .i64 x3, .string s3, .slice an3 ln3 cn3, .slice ai3 li3 ci3] w') (fun _ => True) 5 (by kernel_rfl) ?_
            refine Until.wpU_load0 (i := 0) (oi := { dst := some 30, op := Op.load 28 (Operand.tmp 3), type := 28, pos := "law.go:116", after := #[], guard := none }) (v := .agg #[.int .i64 k1, .int .i64 x1, .string s1, .slice an1 ln1 cn1, .slice ai1 li1 ci1]) rfl (by kernel_rfl) (by kernel_rfl) (by kernel_rfl) (by kernel_rfl) (by kernel_rfl) (fun _ _ _ h => h) (hT0) (fun _ => trivial) (by rfl) (by intro w' hw'; obtain ⟨t0, t1, t2, t3, t4, -⟩ := row_cells hw'.one; clear hw'; go_simp) ?_
            try simp only [Act.put, List.setIfInBounds_toArray, List.set_cons_zero, List.set_cons_succ]
            refine Until.wpU_load0 (i := 2) (oi := { dst := some 32, op := Op.load 28 (Operand.tmp 5), type := 28, pos := "law.go:116", after := #[], guard := none }) (v := .agg #[.int .i64 k3, .int .i64 x3, .string s3, .slice an3 ln3 cn3, .slice ai3 li3 ci3]) rfl (by kernel_rfl) (by kernel_rfl) (by kernel_rfl) (by kernel_rfl) (by kernel_rfl) (fun _ _ _ h => h) (hT0) (fun _ => trivial) (by rfl) (by intro w' hw'; obtain ⟨t0, t1, t2, t3, t4, -⟩ := row_cells hw'.three; clear hw'; go_simp) ?_
            try simp only [Act.put, List.setIfInBounds_toArray, List.set_cons_zero, List.set_cons_succ]
            refine Until.wpU_ready (rs := [1]) (by kernel_rfl) (by simp) ?_
            refine (Until.AllU.cons (o := { dst := some 31, op := Op.call { callee := Callee.value (Operand.func 13), args := #[Operand.tmp 30], argTypes := #[28] }, type := 28, pos := "law.go:116", after := #[{ on := 0, ground := Ground.data }], guard := none }) rfl (fun K hK => ?_) Until.AllU.nil)
            go_simp
            refine (hcp1 _ hT0.below).out.mono ?_
            rintro e Y1 ⟨ka, xa, sa, ana, lna, cna, aia, lia, cia, rfl, hs1, hb1⟩
            have hU1 := hT0.keep hb1
            replace hs1 := hid_e hs1
            refine hK.out _ _ hU1 (fun _ => trivial) ?_
            clear hK K
            try simp only [Act.put, List.setIfInBounds_toArray, List.set_cons_zero, List.set_cons_succ]
            refine Until.wpU_ready (rs := [3]) (by kernel_rfl) (by simp) ?_
            refine (Until.AllU.cons (o := { dst := some 33, op := Op.call { callee := Callee.value (Operand.func 13), args := #[Operand.tmp 32], argTypes := #[28] }, type := 28, pos := "law.go:116", after := #[{ on := 2, ground := Ground.data }, { on := 1, ground := Ground.chain }], guard := none }) rfl (fun K hK => ?_) Until.AllU.nil)
            go_simp
            refine (hcp3 _ hU1.below).out.mono ?_
            rintro e Y2 ⟨kb, xb, sb, anb, lnb, cnb, aib, lib, cib, rfl, hs2, hb2⟩
            have hU2 := hU1.keep hb2
            have hcm := hid_e (compare_copies (VRep.keep hb2 _ _ hs1.out.rep) hs2.rep hS1.out hS3.out)
            refine hK.out _ _ hU2 (fun _ => trivial) ?_
            clear hK K hs1 hs2 hb1 hb2
            try simp only [Act.put, List.setIfInBounds_toArray, List.set_cons_zero, List.set_cons_succ]
            refine Until.wpU_ready (rs := [4]) (by kernel_rfl) (by simp) ?_
            refine (Until.AllU.cons (o := { dst := some 34, op := Op.call { callee := Callee.value (Operand.func 12), args := #[Operand.tmp 31, Operand.tmp 33], argTypes := #[28, 28] }, type := 3, pos := "law.go:116", after := #[{ on := 1, ground := Ground.data }, { on := 3, ground := Ground.data }, { on := 3, ground := Ground.chain }], guard := none }) rfl (fun K hK => ?_) Until.AllU.nil)
            go_simp
            refine hcm.out.mono ?_
            rintro e Y3 ⟨rfl, hb3⟩
            have hU3 := hU2.keep hb3
            clear hb3 hcm hU1 hU2
            refine hK.out _ _ hU3 (fun _ => trivial) ?_
            clear hK K
            try simp only [Act.put, List.setIfInBounds_toArray, List.set_cons_zero, List.set_cons_succ]
            refine Until.wpU_ready (rs := [5]) (by kernel_rfl) (by simp) ?_
            refine (Until.AllU.cons (o := { dst := some 9, op := Op.assign (Operand.tmp 34), type := 3, pos := "law.go:116", after := #[{ on := 4, ground := Ground.data }, { on := 4, ground := Ground.chain }, { on := 0, ground := Ground.phase }, { on := 1, ground := Ground.phase }, { on := 2, ground := Ground.phase }, { on := 3, ground := Ground.phase }, { on := 4, ground := Ground.phase }], guard := none }) rfl (fun K hK => ?_) Until.AllU.nil)
            go_simp
            refine hK.out _ _ hU3 (fun _ => trivial) ?_
            clear hK K
            try simp only [Act.put, List.setIfInBounds_toArray, List.set_cons_zero, List.set_cons_succ]
            refine Until.wpU_done (by kernel_rfl) ?_ _
            refine NoPanic.normal ?_
            go_wp2_with fail
            go_meet
            exact ⟨by rw [hac.out], hU3⟩
          case rest =>
            clear hT0
            obtain ⟨rfl, hT0⟩ := hcut
            go_upto_region 6 with fail
            go_cut [58] (fun v wx => v = .bool false ∧ Three w #[.int .i64 k1, .int .i64 x1, .string s1, .slice an1 ln1 cn1, .slice ai1 li1 ci1] #[.int .i64 k2, .int .i64 x2, .string s2, .slice an2 ln2 cn2, .slice ai2 li2 ci2] #[.int .i64 k3, .int .i64 x3, .string s3, .slice an3 ln3 cn3, .slice ai3 li3 ci3] wx)
            case first =>
              replace hT0 := hT0.drew
              have hneg : Hid (IntKind.i64.wrap ab = ab) := hid_e (by rcases rab.out with h | h | h <;> subst h <;> decide)
              have hlo : decide (ab < -1) = false := by rcases rab.out with h | h | h <;> subst h <;> decide
              have hhi : decide (1 < ab) = false := by rcases rab.out with h | h | h <;> subst h <;> decide
              refine wp_region_noPanic ?_
              refine Until.wp_region_U (fun w' => Three w #[.int .i64 k1, .int .i64 x1, .string s1, .slice an1 ln1 cn1, .slice ai1 li1 ci1] #[.int .i64 k2, .int .i64 x2, .string s2, .slice an2 ln2 cn2, .slice ai2 li2 ci2] #[.int .i64 k3, .int .i64 x3, .string s3, .slice an3 ln3 cn3, .slice ai3 li3 ci3] w') (fun _ => True) 23 (by kernel_rfl) ?_
              refine Until.wpU_pure (i := 0) (oi := { dst := some 35, op := Op.move (Operand.tmp 7), type := 3, pos := "law.go:117", after := #[], guard := none }) (v := .int .i64 ab) rfl (by kernel_rfl) (by kernel_rfl) (by kernel_rfl) (by kernel_rfl) (by kernel_rfl) (fun _ _ _ h => h) (hT0) (fun _ => trivial) (by rfl) (by intro w'; go_simp) ?_
              try simp only [Act.put, List.setIfInBounds_toArray, List.set_cons_zero, List.set_cons_succ]
              refine Until.wpU_load0 (i := 1) (oi := { dst := some 36, op := Op.load 28 (Operand.tmp 4), type := 28, pos := "law.go:117", after := #[], guard := none }) (v := .agg #[.int .i64 k2, .int .i64 x2, .string s2, .slice an2 ln2 cn2, .slice ai2 li2 ci2]) rfl (by kernel_rfl) (by kernel_rfl) (by kernel_rfl) (by kernel_rfl) (by kernel_rfl) (fun _ _ _ h => h) (hT0) (fun _ => trivial) (by rfl) (by intro w' hw'; obtain ⟨t0, t1, t2, t3, t4, -⟩ := row_cells hw'.two; clear hw'; go_simp) ?_
              try simp only [Act.put, List.setIfInBounds_toArray, List.set_cons_zero, List.set_cons_succ]
              refine Until.wpU_load0 (i := 3) (oi := { dst := some 38, op := Op.load 28 (Operand.tmp 3), type := 28, pos := "law.go:117", after := #[], guard := none }) (v := .agg #[.int .i64 k1, .int .i64 x1, .string s1, .slice an1 ln1 cn1, .slice ai1 li1 ci1]) rfl (by kernel_rfl) (by kernel_rfl) (by kernel_rfl) (by kernel_rfl) (by kernel_rfl) (fun _ _ _ h => h) (hT0) (fun _ => trivial) (by rfl) (by intro w' hw'; obtain ⟨t0, t1, t2, t3, t4, -⟩ := row_cells hw'.one; clear hw'; go_simp) ?_
              try simp only [Act.put, List.setIfInBounds_toArray, List.set_cons_zero, List.set_cons_succ]
              refine Until.wpU_ready (rs := [2]) (by kernel_rfl) (by simp) ?_
              refine (Until.AllU.cons (o := { dst := some 37, op := Op.call { callee := Callee.value (Operand.func 13), args := #[Operand.tmp 36], argTypes := #[28] }, type := 28, pos := "law.go:117", after := #[{ on := 1, ground := Ground.data }], guard := none }) rfl (fun K hK => ?_) Until.AllU.nil)
              go_simp
              refine (hcp2 _ hT0.below).out.mono ?_
              rintro e Y1 ⟨ka, xa, sa, ana, lna, cna, aia, lia, cia, rfl, hs1, hb1⟩
              have hU1 := hT0.keep hb1
              replace hs1 := hid_e hs1
              refine hK.out _ _ hU1 (fun _ => trivial) ?_
              clear hK K
              try simp only [Act.put, List.setIfInBounds_toArray, List.set_cons_zero, List.set_cons_succ]
              refine Until.wpU_ready (rs := [4]) (by kernel_rfl) (by simp) ?_
              refine (Until.AllU.cons (o := { dst := some 39, op := Op.call { callee := Callee.value (Operand.func 13), args := #[Operand.tmp 38], argTypes := #[28] }, type := 28, pos := "law.go:117", after := #[{ on := 3, ground := Ground.data }, { on := 2, ground := Ground.chain }], guard := none }) rfl (fun K hK => ?_) Until.AllU.nil)
              go_simp
              refine (hcp1 _ hU1.below).out.mono ?_
              rintro e Y2 ⟨kb, xb, sb, anb, lnb, cnb, aib, lib, cib, rfl, hs2, hb2⟩
              have hU2 := hU1.keep hb2
              have hcm := hid_e (compare_copies (VRep.keep hb2 _ _ hs1.out.rep) hs2.rep hS2.out hS1.out)
              refine hK.out _ _ hU2 (fun _ => trivial) ?_
              clear hK K hs1 hs2 hb1 hb2
              try simp only [Act.put, List.setIfInBounds_toArray, List.set_cons_zero, List.set_cons_succ]
              refine Until.wpU_ready (rs := [5]) (by kernel_rfl) (by simp) ?_
              refine (Until.AllU.cons (o := { dst := some 40, op := Op.call { callee := Callee.value (Operand.func 12), args := #[Operand.tmp 37, Operand.tmp 39], argTypes := #[28, 28] }, type := 3, pos := "law.go:117", after := #[{ on := 2, ground := Ground.data }, { on := 4, ground := Ground.data }, { on := 4, ground := Ground.chain }], guard := none }) rfl (fun K hK => ?_) Until.AllU.nil)
              go_simp
              refine hcm.out.mono ?_
              rintro e Y3 ⟨rfl, hb3⟩
              have hU3 := hU2.keep hb3
              clear hb3 hcm hU1 hU2
              refine hK.out _ _ hU3 (fun _ => trivial) ?_
              clear hK K
              try simp only [Act.put, List.setIfInBounds_toArray, List.set_cons_zero, List.set_cons_succ]
              rw [hba.out]
              refine Until.wpU_pure (i := 6) (oi := { dst := some 41, op := Op.unOp UnOp.neg 3 (Operand.tmp 40), type := 3, pos := "law.go:117", after := #[{ on := 5, ground := Ground.data }], guard := none }) (v := .int .i64 ab) rfl (by kernel_rfl) (by kernel_rfl) (by kernel_rfl) (by kernel_rfl) (by kernel_rfl) (fun _ _ _ h => h) (hU3) (fun _ => trivial) (by rfl) (by intro w'; go_simp; rw [hneg.out]) ?_
              try simp only [Act.put, List.setIfInBounds_toArray, List.set_cons_zero, List.set_cons_succ]
              refine Until.wpU_pure (i := 7) (oi := { dst := some 42, op := Op.binOp BinOp.neq 3 (Operand.tmp 35) (Operand.tmp 41) 3, type := 4, pos := "law.go:117", after := #[{ on := 0, ground := Ground.data }, { on := 6, ground := Ground.data }], guard := none }) (v := .bool false) rfl (by kernel_rfl) (by kernel_rfl) (by kernel_rfl) (by kernel_rfl) (by kernel_rfl) (fun _ _ _ h => h) (hU3) (fun _ => trivial) (by rfl) (by intro w'; go_simp) ?_
              try simp only [Act.put, List.setIfInBounds_toArray, List.set_cons_zero, List.set_cons_succ]
              refine Until.wpU_pure (i := 8) (oi := { dst := some 43, op := Op.move (Operand.tmp 42), type := 4, pos := "law.go:117", after := #[{ on := 7, ground := Ground.data }, { on := 5, ground := Ground.chain }], guard := none }) (v := .bool false) rfl (by kernel_rfl) (by kernel_rfl) (by kernel_rfl) (by kernel_rfl) (by kernel_rfl) (fun _ _ _ h => h) (hU3) (fun _ => trivial) (by rfl) (by intro w'; go_simp) ?_
              try simp only [Act.put, List.setIfInBounds_toArray, List.set_cons_zero, List.set_cons_succ]
              refine Until.wpU_load0 (i := 9) (oi := { dst := some 44, op := Op.load 28 (Operand.tmp 3), type := 28, pos := "law.go:117", after := #[{ on := 8, ground := Ground.guard }], guard := some (8, false) }) (v := .agg #[.int .i64 k1, .int .i64 x1, .string s1, .slice an1 ln1 cn1, .slice ai1 li1 ci1]) rfl (by kernel_rfl) (by kernel_rfl) (by kernel_rfl) (by kernel_rfl) (by kernel_rfl) (fun _ _ _ h => h) (hU3) (fun _ => trivial) (by rfl) (by intro w' hw'; obtain ⟨t0, t1, t2, t3, t4, -⟩ := row_cells hw'.one; clear hw'; go_simp) ?_
              try simp only [Act.put, List.setIfInBounds_toArray, List.set_cons_zero, List.set_cons_succ]
              refine Until.wpU_load0 (i := 11) (oi := { dst := some 46, op := Op.load 28 (Operand.tmp 3), type := 28, pos := "law.go:117", after := #[{ on := 8, ground := Ground.guard }], guard := some (8, false) }) (v := .agg #[.int .i64 k1, .int .i64 x1, .string s1, .slice an1 ln1 cn1, .slice ai1 li1 ci1]) rfl (by kernel_rfl) (by kernel_rfl) (by kernel_rfl) (by kernel_rfl) (by kernel_rfl) (fun _ _ _ h => h) (hU3) (fun _ => trivial) (by rfl) (by intro w' hw'; obtain ⟨t0, t1, t2, t3, t4, -⟩ := row_cells hw'.one; clear hw'; go_simp) ?_
              try simp only [Act.put, List.setIfInBounds_toArray, List.set_cons_zero, List.set_cons_succ]
              clear hT0
              have hT0 := hU3
              clear hU3
              refine Until.wpU_ready (rs := [10]) (by kernel_rfl) (by simp) ?_
              refine (Until.AllU.cons (o := { dst := some 45, op := Op.call { callee := Callee.value (Operand.func 13), args := #[Operand.tmp 44], argTypes := #[28] }, type := 28, pos := "law.go:117", after := #[{ on := 9, ground := Ground.data }, { on := 8, ground := Ground.chain }, { on := 8, ground := Ground.guard }], guard := some (8, false) }) rfl (fun K hK => ?_) Until.AllU.nil)
              go_simp
              refine (hcp1 _ hT0.below).out.mono ?_
              rintro e Y1 ⟨ka, xa, sa, ana, lna, cna, aia, lia, cia, rfl, hs1, hb1⟩
              have hU1 := hT0.keep hb1
              replace hs1 := hid_e hs1
              refine hK.out _ _ hU1 (fun _ => trivial) ?_
              clear hK K
              try simp only [Act.put, List.setIfInBounds_toArray, List.set_cons_zero, List.set_cons_succ]
              refine Until.wpU_ready (rs := [12]) (by kernel_rfl) (by simp) ?_
              refine (Until.AllU.cons (o := { dst := some 47, op := Op.call { callee := Callee.value (Operand.func 13), args := #[Operand.tmp 46], argTypes := #[28] }, type := 28, pos := "law.go:117", after := #[{ on := 11, ground := Ground.data }, { on := 10, ground := Ground.chain }, { on := 8, ground := Ground.guard }], guard := some (8, false) }) rfl (fun K hK => ?_) Until.AllU.nil)
              go_simp
              refine (hcp1 _ hU1.below).out.mono ?_
              rintro e Y2 ⟨kb, xb, sb, anb, lnb, cnb, aib, lib, cib, rfl, hs2, hb2⟩
              have hU2 := hU1.keep hb2
              have hcm := hid_e (compare_copies (VRep.keep hb2 _ _ hs1.out.rep) hs2.rep hS1.out hS1.out)
              refine hK.out _ _ hU2 (fun _ => trivial) ?_
              clear hK K hs1 hs2 hb1 hb2
              try simp only [Act.put, List.setIfInBounds_toArray, List.set_cons_zero, List.set_cons_succ]
              refine Until.wpU_ready (rs := [13]) (by kernel_rfl) (by simp) ?_
              refine (Until.AllU.cons (o := { dst := some 48, op := Op.call { callee := Callee.value (Operand.func 12), args := #[Operand.tmp 45, Operand.tmp 47], argTypes := #[28, 28] }, type := 3, pos := "law.go:117", after := #[{ on := 10, ground := Ground.data }, { on := 12, ground := Ground.data }, { on := 12, ground := Ground.chain }, { on := 8, ground := Ground.guard }], guard := some (8, false) }) rfl (fun K hK => ?_) Until.AllU.nil)
              go_simp
              refine hcm.out.mono ?_
              rintro e Y3 ⟨rfl, hb3⟩
              have hU3 := hU2.keep hb3
              clear hb3 hcm hU1 hU2
              refine hK.out _ _ hU3 (fun _ => trivial) ?_
              clear hK K
              try simp only [Act.put, List.setIfInBounds_toArray, List.set_cons_zero, List.set_cons_succ]
              rw [haa.out]
              refine Until.wpU_pure (i := 14) (oi := { dst := some 49, op := Op.binOp BinOp.neq 3 (Operand.tmp 48) (Operand.const (Value.int IntKind.i64 0)) 3, type := 4, pos := "law.go:117", after := #[{ on := 13, ground := Ground.data }, { on := 8, ground := Ground.guard }], guard := some (8, false) }) (v := .bool false) rfl (by kernel_rfl) (by kernel_rfl) (by kernel_rfl) (by kernel_rfl) (by kernel_rfl) (fun _ _ _ h => h) (hU3) (fun _ => trivial) (by rfl) (by intro w'; go_simp) ?_
              try simp only [Act.put, List.setIfInBounds_toArray, List.set_cons_zero, List.set_cons_succ]
              refine Until.wpU_pure (i := 15) (oi := { dst := some 50, op := Op.pick (Operand.tmp 43) (Operand.const (Value.bool true)) (Operand.tmp 49), type := 4, pos := "law.go:117", after := #[{ on := 8, ground := Ground.data }, { on := 14, ground := Ground.data }], guard := none }) (v := .bool false) rfl (by kernel_rfl) (by kernel_rfl) (by kernel_rfl) (by kernel_rfl) (by kernel_rfl) (fun _ _ _ h => h) (hU3) (fun _ => trivial) (by rfl) (by intro w'; go_simp) ?_
              try simp only [Act.put, List.setIfInBounds_toArray, List.set_cons_zero, List.set_cons_succ]
              refine Until.wpU_pure (i := 16) (oi := { dst := some 51, op := Op.move (Operand.tmp 50), type := 4, pos := "law.go:117", after := #[{ on := 15, ground := Ground.data }, { on := 13, ground := Ground.chain }], guard := none }) (v := .bool false) rfl (by kernel_rfl) (by kernel_rfl) (by kernel_rfl) (by kernel_rfl) (by kernel_rfl) (fun _ _ _ h => h) (hU3) (fun _ => trivial) (by rfl) (by intro w'; go_simp) ?_
              try simp only [Act.put, List.setIfInBounds_toArray, List.set_cons_zero, List.set_cons_succ]
              refine Until.wpU_pure (i := 17) (oi := { dst := some 52, op := Op.move (Operand.tmp 7), type := 3, pos := "law.go:117", after := #[{ on := 16, ground := Ground.guard }], guard := some (16, false) }) (v := .int .i64 ab) rfl (by kernel_rfl) (by kernel_rfl) (by kernel_rfl) (by kernel_rfl) (by kernel_rfl) (fun _ _ _ h => h) (hU3) (fun _ => trivial) (by rfl) (by intro w'; go_simp) ?_
              try simp only [Act.put, List.setIfInBounds_toArray, List.set_cons_zero, List.set_cons_succ]
              refine Until.wpU_pure (i := 18) (oi := { dst := some 53, op := Op.binOp BinOp.lss 3 (Operand.tmp 52) (Operand.const (Value.int IntKind.i64 (-1))) 3, type := 4, pos := "law.go:117", after := #[{ on := 17, ground := Ground.data }, { on := 16, ground := Ground.guard }], guard := some (16, false) }) (v := .bool false) rfl (by kernel_rfl) (by kernel_rfl) (by kernel_rfl) (by kernel_rfl) (by kernel_rfl) (fun _ _ _ h => h) (hU3) (fun _ => trivial) (by rfl) (by intro w'; go_simp) ?_
              try simp only [Act.put, List.setIfInBounds_toArray, List.set_cons_zero, List.set_cons_succ]
              refine Until.wpU_pure (i := 19) (oi := { dst := some 54, op := Op.pick (Operand.tmp 51) (Operand.const (Value.bool true)) (Operand.tmp 53), type := 4, pos := "law.go:117", after := #[{ on := 16, ground := Ground.data }, { on := 18, ground := Ground.data }], guard := none }) (v := .bool false) rfl (by kernel_rfl) (by kernel_rfl) (by kernel_rfl) (by kernel_rfl) (by kernel_rfl) (fun _ _ _ h => h) (hU3) (fun _ => trivial) (by rfl) (by intro w'; go_simp) ?_
              try simp only [Act.put, List.setIfInBounds_toArray, List.set_cons_zero, List.set_cons_succ]
              refine Until.wpU_pure (i := 20) (oi := { dst := some 55, op := Op.move (Operand.tmp 54), type := 4, pos := "law.go:117", after := #[{ on := 19, ground := Ground.data }, { on := 16, ground := Ground.chain }], guard := none }) (v := .bool false) rfl (by kernel_rfl) (by kernel_rfl) (by kernel_rfl) (by kernel_rfl) (by kernel_rfl) (fun _ _ _ h => h) (hU3) (fun _ => trivial) (by rfl) (by intro w'; go_simp) ?_
              try simp only [Act.put, List.setIfInBounds_toArray, List.set_cons_zero, List.set_cons_succ]
              refine Until.wpU_pure (i := 21) (oi := { dst := some 56, op := Op.move (Operand.tmp 7), type := 3, pos := "law.go:117", after := #[{ on := 20, ground := Ground.guard }], guard := some (20, false) }) (v := .int .i64 ab) rfl (by kernel_rfl) (by kernel_rfl) (by kernel_rfl) (by kernel_rfl) (by kernel_rfl) (fun _ _ _ h => h) (hU3) (fun _ => trivial) (by rfl) (by intro w'; go_simp) ?_
              try simp only [Act.put, List.setIfInBounds_toArray, List.set_cons_zero, List.set_cons_succ]
              refine Until.wpU_pure (i := 22) (oi := { dst := some 57, op := Op.binOp BinOp.gtr 3 (Operand.tmp 56) (Operand.const (Value.int IntKind.i64 1)) 3, type := 4, pos := "law.go:117", after := #[{ on := 21, ground := Ground.data }, { on := 20, ground := Ground.guard }], guard := some (20, false) }) (v := .bool false) rfl (by kernel_rfl) (by kernel_rfl) (by kernel_rfl) (by kernel_rfl) (by kernel_rfl) (fun _ _ _ h => h) (hU3) (fun _ => trivial) (by rfl) (by intro w'; go_simp) ?_
              try simp only [Act.put, List.setIfInBounds_toArray, List.set_cons_zero, List.set_cons_succ]
              refine Until.wpU_ready (rs := [23]) (by kernel_rfl) (by simp) ?_
              refine (Until.AllU.cons (o := { dst := some 58, op := Op.pick (Operand.tmp 55) (Operand.const (Value.bool true)) (Operand.tmp 57), type := 4, pos := "law.go:117", after := #[{ on := 20, ground := Ground.data }, { on := 22, ground := Ground.data }], guard := none }) rfl (fun K hK => ?_) Until.AllU.nil)
              go_simp
              refine hK.out _ _ hU3 (fun _ => trivial) ?_
              clear hK K
              try simp only [Act.put, List.setIfInBounds_toArray, List.set_cons_zero, List.set_cons_succ]
              refine Until.wpU_done (by kernel_rfl) ?_ _
              refine NoPanic.normal ?_
              go_wp2_with fail
              go_meet
              exact ⟨rfl, hU3⟩
            case rest =>
              clear hT0
              obtain ⟨rfl, hT0⟩ := hcut
              clear hba haa hab hbc hac hcp1 hcp2 hcp3 hS1 hS2 hS3
              rcases rab.out with h1 | h1 | h1 <;> rcases rbc.out with h2 | h2 | h2 <;> rcases rac.out with h3 | h3 | h3 <;> subst h1 <;> subst h2 <;> subst h3
              all_goals first | (exfalso; have := hT.out; omega) | (clear rab rbc rac hT; go_wp2_with fail; refine (live_true _).mono ?_; rintro e w9 ⟨rfl, hb9⟩; go_wp2_with fail; go_ret; exact ⟨rfl, hT0.below.trans (hb9.mono hT0.below.size)⟩)
    · go_wp2_with fail
      go_ret
      exact ⟨rfl, hT0.below⟩
end Go.Proofs.YtldieaoaigadlaaDoor
