import Derived.Test.YtgigikcopedoeaaGreatYA
/-! ShapeSorts: the walk. -/
namespace Go.Proofs.YtgigikcopedoeaaGreat.Tree
open Go Go.RowKit

set_option maxHeartbeats 8000000 in
set_option maxRecDepth 100000 in
theorem sorts_true (k1 x1 : Int) (s1 : ByteArray) (an1 : Option Addr) (ln1 cn1 : Nat) (ai1 : Option Addr) (li1 ci1 : Nat) (k2 x2 : Int) (s2 : ByteArray) (an2 : Option Addr) (ln2 cn2 : Nat) (ai2 : Option Addr) (li2 ci2 : Nat) (i : Int) (V X : Tr) (w : World) (hV : Hid (VRep w V (five k1 x1 s1 (.slice an1 ln1 cn1) (.slice ai1 li1 ci1)))) (hX : Hid (VRep w X (five k2 x2 s2 (.slice an2 ln2 cn2) (.slice ai2 li2 ci2)))) (hsV : Hid (SmallT V)) (hsX : Hid (SmallT X)) :
    Calls Tryz.prog 4 #[.agg #[.int .i64 k1, .int .i64 x1, .string s1, .slice an1 ln1 cn1, .slice ai1 li1 ci1], .agg #[.int .i64 k2, .int .i64 x2, .string s2, .slice an2 ln2 cn2, .slice ai2 li2 ci2], .int .i64 i] w fun e w' => e = .returned (.bool true) ∧ Below w.heap.size w w' := by
  obtain ⟨W1, hW1⟩ : ∃ W1, Hid ((w.alloc (.cells #[.int .i64 k1, .int .i64 x1, .string s1, .slice an1 ln1 cn1, .slice ai1 li1 ci1] 25)).alloc (.cells #[.int .i64 k2, .int .i64 x2, .string s2, .slice an2 ln2 cn2, .slice ai2 li2 ci2] 25) = W1) := ⟨_, rfl⟩
  have hT1 : Two w #[.int .i64 k1, .int .i64 x1, .string s1, .slice an1 ln1 cn1, .slice ai1 li1 ci1] #[.int .i64 k2, .int .i64 x2, .string s2, .slice an2 ln2 cn2, .slice ai2 li2 ci2] W1 := by rw [← hW1.out]; exact ⟨below_two w _ _, new1 w _ _, new2 w _ _⟩
  obtain ⟨cx0, cx1, cx2, cx3, cx4, -⟩ := row_cells hT1.box1
  obtain ⟨cy0, cy1, cy2, cy3, cy4, -⟩ := row_cells hT1.box2
  have hb2 : Below W1.heap.size W1 (W1.alloc (.cells #[.int .i64 k1, .int .i64 x1, .string s1, .slice an1 ln1 cn1, .slice ai1 li1 ci1, .int .i64 k2, .int .i64 x2, .string s2, .slice an2 ln2 cn2, .slice ai2 li2 ci2] 25)) := (Below.refl _ W1).alloc (Nat.le_refl _) _
  have hT2 := hT1.keep hb2
  have hcell : ∀ j, (W1.alloc (.cells #[.int .i64 k1, .int .i64 x1, .string s1, .slice an1 ln1 cn1, .slice ai1 li1 ci1, .int .i64 k2, .int .i64 x2, .string s2, .slice an2 ln2 cn2, .slice ai2 li2 ci2] 25)).cell? ⟨W1.heap.size, j, none⟩ = (#[.int .i64 k1, .int .i64 x1, .string s1, .slice an1 ln1 cn1, .slice ai1 li1 ci1, .int .i64 k2, .int .i64 x2, .string s2, .slice an2 ln2 cn2, .slice ai2 li2 ci2] : Array Value)[j]? := fun j => by unfold World.cell?; rw [heap_alloc_new W1 (.cells #[.int .i64 k1, .int .i64 x1, .string s1, .slice an1 ln1 cn1, .slice ai1 li1 ci1, .int .i64 k2, .int .i64 x2, .string s2, .slice an2 ln2 cn2, .slice ai2 li2 ci2] 25)]; rfl
  have call1 := hid_e (large_exact (some ⟨W1.heap.size, 0, none⟩) 2 2 [V, X] (W1.alloc (.cells #[.int .i64 k1, .int .i64 x1, .string s1, .slice an1 ln1 cn1, .slice ai1 li1 ci1, .int .i64 k2, .int .i64 x2, .string s2, .slice an2 ln2 cn2, .slice ai2 li2 ci2] 25)) rfl (by omega) ⟨⟨Nat.le_refl _, by omega⟩, .inr ⟨W1.heap.size, 0, rfl, by simp, by
    unfold VRepL VRepL VRepL
    refine ⟨(five k1 x1 s1 (.slice an1 ln1 cn1) (.slice ai1 li1 ci1)), fun j u hj => ?_, VRep.keep hT2.below _ _ hV.out, (five k2 x2 s2 (.slice an2 ln2 cn2) (.slice ai2 li2 ci2)), fun j u hj => ?_, VRep.keep hT2.below _ _ hX.out, trivial⟩
    all_goals
      rw [hcell]
      have hj5 := (List.getElem?_eq_some_iff.1 hj).1
      simp only [five, List.length_cons, List.length_nil] at hj5
      match j, hj5 with
      | 0, _ => exact hj
      | 1, _ => exact hj
      | 2, _ => exact hj
      | 3, _ => exact hj
      | 4, _ => exact hj⟩⟩ (by unfold SmallL SmallL SmallL; exact ⟨hsV.out, hsX.out, trivial⟩))
  replace hT2 := hid_e hT2
  clear hcell hb2 hT1
  go_enter Tryz.func4, Tryz.ntmps4
  go_wp2_with (first | rw [hW1.out] | fail)
  refine call1.out.mono ?_
  rintro e wc ⟨⟨z, rfl, hz⟩, hb3⟩
  have hT := hT2.out.keep hb3
  clear call1 hb3 hT2 cx0 cx1 cx2 cx3 cx4 cy0 cy1 cy2 cy3 cy4
  cases z with
  | true =>
    clear hz
    go_wp2_with fail
    refine (live_a _).mono ?_
    rintro e w9 ⟨rfl, hb9⟩
    replace hb9 := hid_e hb9
    go_wp2_with fail
    go_ret
    exact ⟨rfl, hT.below.trans (hb9.out.mono hT.below.size)⟩
  | false =>
    have hparts := hz rfl
    clear hz
    have hpX : Hid (partsT X ≤ 1000000) := by unfold partsL partsL partsL at hparts; show _ ≤ _; omega
    clear hparts
    go_upto_region 3 with fail
    go_cut [7, 8] (fun pv qv wx => ∃ (g4 g5 : Nat) (kv xv : Int) (sv : ByteArray) (anv : Option Addr) (lnv cnv : Nat) (aiv : Option Addr) (liv civ : Nat) (ky xy : Int) (sy : ByteArray) (any : Option Addr) (lny cny : Nat) (aiy : Option Addr) (liy ciy : Nat), pv = .pointer (some ⟨g4, 0, none⟩) ∧ qv = .pointer (some ⟨g5, 0, none⟩) ∧ Two w #[.int .i64 k1, .int .i64 x1, .string s1, .slice an1 ln1 cn1, .slice ai1 li1 ci1] #[.int .i64 k2, .int .i64 x2, .string s2, .slice an2 ln2 cn2, .slice ai2 li2 ci2] wx ∧ Hid (VB wx g4 kv xv sv anv lnv cnv aiv liv civ V) ∧ Hid (VB wx g5 ky xy sy any lny cny aiy liy ciy X))
    case first =>
      replace hT : Two w #[.int .i64 k1, .int .i64 x1, .string s1, .slice an1 ln1 cn1, .slice ai1 li1 ci1] #[.int .i64 k2, .int .i64 x2, .string s2, .slice an2 ln2 cn2, .slice ai2 li2 ci2] wc.drew := hT.keep ⟨rfl, rfl, rfl, Nat.le_refl _, fun _ _ => rfl⟩
      generalize hX9 : wc.drew = A0 at hT
      refine wp_region_noPanic ?_
      refine Until.wp_region_U (fun w' => Two w #[.int .i64 k1, .int .i64 x1, .string s1, .slice an1 ln1 cn1, .slice ai1 li1 ci1] #[.int .i64 k2, .int .i64 x2, .string s2, .slice an2 ln2 cn2, .slice ai2 li2 ci2] w') (fun _ => True) 100 (by kernel_rfl) ?_
      rw [hX9]
      clear hX9
      refine Until.wpU_load0 (i := 0) (oi := { dst := some 18, op := Op.load 25 (Operand.tmp 3), type := 25, pos := "law.go:89", after := #[], guard := none }) (v := .agg #[.int .i64 k1, .int .i64 x1, .string s1, .slice an1 ln1 cn1, .slice ai1 li1 ci1]) rfl (by kernel_rfl) (by kernel_rfl) (by kernel_rfl) (by kernel_rfl) (by kernel_rfl) (fun _ _ _ h => h) hT (fun _ => trivial) (by rfl) (by intro w' hw'; obtain ⟨t0, t1, t2, t3, t4, -⟩ := row_cells hw'.box1; clear hw'; go_simp) ?_
      try simp only [Act.put, List.setIfInBounds_toArray, List.set_cons_zero, List.set_cons_succ]
      refine Until.wpU_load0 (i := 2) (oi := { dst := some 20, op := Op.load 25 (Operand.tmp 4), type := 25, pos := "law.go:89", after := #[], guard := none }) (v := .agg #[.int .i64 k2, .int .i64 x2, .string s2, .slice an2 ln2 cn2, .slice ai2 li2 ci2]) rfl (by kernel_rfl) (by kernel_rfl) (by kernel_rfl) (by kernel_rfl) (by kernel_rfl) (fun _ _ _ h => h) hT (fun _ => trivial) (by rfl) (by intro w' hw'; obtain ⟨t0, t1, t2, t3, t4, -⟩ := row_cells hw'.box2; clear hw'; go_simp) ?_
      try simp only [Act.put, List.setIfInBounds_toArray, List.set_cons_zero, List.set_cons_succ]
      refine Until.wpU_ready (rs := [1, 4, 5]) (by kernel_rfl) (by simp) ?_
      refine (Until.AllU.cons (o := { dst := some 19, op := Op.call { callee := Callee.value (Operand.func 16), args := #[Operand.tmp 18], argTypes := #[25] }, type := 25, pos := "law.go:89", after := #[{ on := 0, ground := Ground.data }], guard := none }) rfl (fun K hK => ?_) (Until.AllU.cons (o := { dst := some 7, op := Op.alloc 25, type := 0, pos := "law.go:89", after := #[], guard := none }) rfl (fun K hK => ?_) (Until.AllU.cons (o := { dst := some 8, op := Op.alloc 25, type := 0, pos := "law.go:89", after := #[], guard := none }) rfl (fun K hK => ?_) Until.AllU.nil)))
      · skip
        go_simp
        refine (copy_any V (five k1 x1 s1 (.slice an1 ln1 cn1) (.slice ai1 li1 ci1)) A0 (VRep.keep hT.below _ _ hV.out) hsV.out).mono ?_
        rintro e A0a ⟨kv, xv, sv, anv, lnv, cnv, aiv, liv, civ, rfl, hse, hb⟩
        replace hT := hT.keep hb
        have o1 := hid_f (off_copy (l := []) (by simp) hse)
        clear hse hb
        refine hK.out _ _ hT (fun _ => trivial) ?_
        clear hK K
        try simp only [Act.put, List.setIfInBounds_toArray, List.set_cons_zero, List.set_cons_succ]
        refine Until.wpU_ready (rs := [3, 4, 5]) (by kernel_rfl) (by simp) ?_
        refine (Until.AllU.cons (o := { dst := some 21, op := Op.call { callee := Callee.value (Operand.func 16), args := #[Operand.tmp 20], argTypes := #[25] }, type := 25, pos := "law.go:89", after := #[{ on := 2, ground := Ground.data }, { on := 1, ground := Ground.chain }], guard := none }) rfl (fun K hK => ?_) (Until.AllU.cons (o := { dst := some 7, op := Op.alloc 25, type := 0, pos := "law.go:89", after := #[], guard := none }) rfl (fun K hK => ?_) (Until.AllU.cons (o := { dst := some 8, op := Op.alloc 25, type := 0, pos := "law.go:89", after := #[], guard := none }) rfl (fun K hK => ?_) Until.AllU.nil)))
        · skip
          go_simp
          refine (copy_any X (five k2 x2 s2 (.slice an2 ln2 cn2) (.slice ai2 li2 ci2)) A0a (VRep.keep hT.below _ _ hX.out) hsX.out).mono ?_
          rintro e A0ab ⟨ky, xy, sy, any, lny, cny, aiy, liy, ciy, rfl, hse, hb⟩
          replace hT := hT.keep hb
          replace o1 := hid_f (off_keep o1.out hb)
          have o3 := hid_f (off_copy (l := []) (by simp) hse)
          clear hse hb
          refine hK.out _ _ hT (fun _ => trivial) ?_
          clear hK K
          try simp only [Act.put, List.setIfInBounds_toArray, List.set_cons_zero, List.set_cons_succ]
          refine Until.wpU_ready (rs := [4, 5]) (by kernel_rfl) (by simp) ?_
          refine (Until.AllU.cons (o := { dst := some 7, op := Op.alloc 25, type := 0, pos := "law.go:89", after := #[], guard := none }) rfl (fun K hK => ?_) (Until.AllU.cons (o := { dst := some 8, op := Op.alloc 25, type := 0, pos := "law.go:89", after := #[], guard := none }) rfl (fun K hK => ?_) Until.AllU.nil))
          · skip
            go_simp
            have n4 := heap_alloc_new A0ab (.cells #[.int .i64 0, .int .i64 0, .string ⟨#[]⟩, .slice none 0 0, .slice none 0 0] 25)
            have l4 := hT.lt
            have hz : (A0ab.alloc (.cells #[.int .i64 0, .int .i64 0, .string ⟨#[]⟩, .slice none 0 0, .slice none 0 0] 25)).heap.size = A0ab.heap.size + 1 := World.size_alloc _ _
            replace hT := hT.keep ((Below.refl _ A0ab).alloc (Nat.le_refl _) (.cells #[.int .i64 0, .int .i64 0, .string ⟨#[]⟩, .slice none 0 0, .slice none 0 0] 25))
            replace o1 := hid_f (off_alloc o1.out (.cells #[.int .i64 0, .int .i64 0, .string ⟨#[]⟩, .slice none 0 0, .slice none 0 0] 25))
            replace o3 := hid_f (off_alloc o3.out (.cells #[.int .i64 0, .int .i64 0, .string ⟨#[]⟩, .slice none 0 0, .slice none 0 0] 25))
            refine hK.out _ _ hT (fun _ => trivial) ?_
            clear hK K
            try simp only [Act.put, List.setIfInBounds_toArray, List.set_cons_zero, List.set_cons_succ]
            generalize A0ab.alloc (.cells #[.int .i64 0, .int .i64 0, .string ⟨#[]⟩, .slice none 0 0, .slice none 0 0] 25) = A0abc at hT n4 hz o1 o3 ⊢
            obtain ⟨g4, hq⟩ : ∃ g, A0ab.heap.size = g := ⟨_, rfl⟩
            rw [hq] at n4 l4 hz o1 o3
            rw [hq]
            clear hq
            have s4 : g4 < A0abc.heap.size := by omega
            clear hz
            refine Until.wpU_ready (rs := [5]) (by kernel_rfl) (by simp) ?_
            refine (Until.AllU.cons (o := { dst := some 8, op := Op.alloc 25, type := 0, pos := "law.go:89", after := #[], guard := none }) rfl (fun K hK => ?_) Until.AllU.nil)
            go_simp
            have n5 := heap_alloc_new A0abc (.cells #[.int .i64 0, .int .i64 0, .string ⟨#[]⟩, .slice none 0 0, .slice none 0 0] 25)
            have l5 := hT.lt
            have hz : (A0abc.alloc (.cells #[.int .i64 0, .int .i64 0, .string ⟨#[]⟩, .slice none 0 0, .slice none 0 0] 25)).heap.size = A0abc.heap.size + 1 := World.size_alloc _ _
            replace hT := hT.keep ((Below.refl _ A0abc).alloc (Nat.le_refl _) (.cells #[.int .i64 0, .int .i64 0, .string ⟨#[]⟩, .slice none 0 0, .slice none 0 0] 25))
            replace o1 := hid_f (off_alloc o1.out (.cells #[.int .i64 0, .int .i64 0, .string ⟨#[]⟩, .slice none 0 0, .slice none 0 0] 25))
            replace o3 := hid_f (off_alloc o3.out (.cells #[.int .i64 0, .int .i64 0, .string ⟨#[]⟩, .slice none 0 0, .slice none 0 0] 25))
            replace n4 := block_keep n4 ((Below.refl _ A0abc).alloc (Nat.le_refl _) (.cells #[.int .i64 0, .int .i64 0, .string ⟨#[]⟩, .slice none 0 0, .slice none 0 0] 25))
            refine hK.out _ _ hT (fun _ => trivial) ?_
            clear hK K
            try simp only [Act.put, List.setIfInBounds_toArray, List.set_cons_zero, List.set_cons_succ]
            generalize A0abc.alloc (.cells #[.int .i64 0, .int .i64 0, .string ⟨#[]⟩, .slice none 0 0, .slice none 0 0] 25) = A0abcd at hT n5 hz o1 o3 n4 ⊢
            obtain ⟨g5, hq⟩ : ∃ g, A0abc.heap.size = g := ⟨_, rfl⟩
            rw [hq] at n5 l5 hz o1 o3 s4
            rw [hq]
            clear hq
            have s5 : g5 < A0abcd.heap.size := by omega
            have hne : g4 ≠ g5 := by omega
            replace s4 : g4 < A0abcd.heap.size := by omega
            clear hz
            obtain ⟨z0, z1, z2, z3, z4, zf⟩ := row_cells n4
            have zf0 := zf 0; have zf1 := zf 1; have zf2 := zf 2; have zf3 := zf 3; have zf4 := zf 4
            clear zf
            refine Until.wpU_ready (rs := [6]) (by kernel_rfl) (by simp) ?_
            refine (Until.AllU.cons (o := { dst := none, op := Op.store 25 (Operand.tmp 7) (Operand.tmp 19), type := 0, pos := "law.go:89", after := #[{ on := 4, ground := Ground.data }, { on := 1, ground := Ground.data }, { on := 3, ground := Ground.chain }, { on := 0, ground := Ground.phase }, { on := 1, ground := Ground.phase }, { on := 2, ground := Ground.textOnly Departure.lateStores }, { on := 3, ground := Ground.textOnly Departure.lateStoresUnsure }, { on := 4, ground := Ground.phase }, { on := 5, ground := Ground.phase }], guard := none }) rfl (fun K hK => ?_) Until.AllU.nil)
            go_simp
            have hT8 := hT.put l4 (.int .i64 kv) (.int .i64 xv) (.string sv) (.slice anv lnv cnv) (.slice aiv liv civ)
            refine hK.out _ _ hT8 (fun _ => trivial) ?_
            clear hK K
            try simp only [Act.put, List.setIfInBounds_toArray, List.set_cons_zero, List.set_cons_succ]
            clear z0 z1 z2 z3 z4 zf0 zf1 zf2 zf3 zf4
            obtain ⟨z0, z1, z2, z3, z4, zf⟩ := row_cells n5
            have hne2 := Ne.symm hne
            have zf0 := zf 0; have zf1 := zf 1; have zf2 := zf 2; have zf3 := zf 3; have zf4 := zf 4
            clear zf
            obtain ⟨b6, b7⟩ := two_end n4 n5 hne o1.out o3.out (by simp) (by simp)
            replace b6 := hid_f b6
            replace b7 := hid_f b7
            refine Until.wpU_ready (rs := [7]) (by kernel_rfl) (by simp) ?_
            refine (Until.AllU.cons (o := { dst := none, op := Op.store 25 (Operand.tmp 8) (Operand.tmp 21), type := 0, pos := "law.go:89", after := #[{ on := 5, ground := Ground.data }, { on := 3, ground := Ground.data }, { on := 6, ground := Ground.chain }, { on := 0, ground := Ground.phase }, { on := 1, ground := Ground.phase }, { on := 2, ground := Ground.phase }, { on := 3, ground := Ground.phase }, { on := 4, ground := Ground.phase }, { on := 5, ground := Ground.phase }, { on := 6, ground := Ground.phase }], guard := none }) rfl (fun K hK => ?_) Until.AllU.nil)
            go_simp
            have hT9 := hT8.put l5 (.int .i64 ky) (.int .i64 xy) (.string sy) (.slice any lny cny) (.slice aiy liy ciy)
            refine hK.out _ _ hT9 (fun _ => trivial) ?_
            clear hK K
            try simp only [Act.put, List.setIfInBounds_toArray, List.set_cons_zero, List.set_cons_succ]
            clear z0 z1 z2 z3 z4 zf0 zf1 zf2 zf3 zf4
            refine Until.wpU_done (by kernel_rfl) ?_ _
            refine NoPanic.normal ?_
            go_wp2_with fail
            go_meet
            exact ⟨_, _, _, _, _, _, _, _, _, _, _, _, _, _, _, _, _, _, _, _, rfl, rfl, hT9, b6, b7⟩
          · skip
            go_simp
            have n5 := heap_alloc_new A0ab (.cells #[.int .i64 0, .int .i64 0, .string ⟨#[]⟩, .slice none 0 0, .slice none 0 0] 25)
            have l5 := hT.lt
            have hz : (A0ab.alloc (.cells #[.int .i64 0, .int .i64 0, .string ⟨#[]⟩, .slice none 0 0, .slice none 0 0] 25)).heap.size = A0ab.heap.size + 1 := World.size_alloc _ _
            replace hT := hT.keep ((Below.refl _ A0ab).alloc (Nat.le_refl _) (.cells #[.int .i64 0, .int .i64 0, .string ⟨#[]⟩, .slice none 0 0, .slice none 0 0] 25))
            replace o1 := hid_f (off_alloc o1.out (.cells #[.int .i64 0, .int .i64 0, .string ⟨#[]⟩, .slice none 0 0, .slice none 0 0] 25))
            replace o3 := hid_f (off_alloc o3.out (.cells #[.int .i64 0, .int .i64 0, .string ⟨#[]⟩, .slice none 0 0, .slice none 0 0] 25))
            refine hK.out _ _ hT (fun _ => trivial) ?_
            clear hK K
            try simp only [Act.put, List.setIfInBounds_toArray, List.set_cons_zero, List.set_cons_succ]
            generalize A0ab.alloc (.cells #[.int .i64 0, .int .i64 0, .string ⟨#[]⟩, .slice none 0 0, .slice none 0 0] 25) = A0abd at hT n5 hz o1 o3 ⊢
            obtain ⟨g5, hq⟩ : ∃ g, A0ab.heap.size = g := ⟨_, rfl⟩
            rw [hq] at n5 l5 hz o1 o3
            rw [hq]
            clear hq
            have s5 : g5 < A0abd.heap.size := by omega
            clear hz
            refine Until.wpU_ready (rs := [4]) (by kernel_rfl) (by simp) ?_
            refine (Until.AllU.cons (o := { dst := some 7, op := Op.alloc 25, type := 0, pos := "law.go:89", after := #[], guard := none }) rfl (fun K hK => ?_) Until.AllU.nil)
            go_simp
            have n4 := heap_alloc_new A0abd (.cells #[.int .i64 0, .int .i64 0, .string ⟨#[]⟩, .slice none 0 0, .slice none 0 0] 25)
            have l4 := hT.lt
            have hz : (A0abd.alloc (.cells #[.int .i64 0, .int .i64 0, .string ⟨#[]⟩, .slice none 0 0, .slice none 0 0] 25)).heap.size = A0abd.heap.size + 1 := World.size_alloc _ _
            replace hT := hT.keep ((Below.refl _ A0abd).alloc (Nat.le_refl _) (.cells #[.int .i64 0, .int .i64 0, .string ⟨#[]⟩, .slice none 0 0, .slice none 0 0] 25))
            replace o1 := hid_f (off_alloc o1.out (.cells #[.int .i64 0, .int .i64 0, .string ⟨#[]⟩, .slice none 0 0, .slice none 0 0] 25))
            replace o3 := hid_f (off_alloc o3.out (.cells #[.int .i64 0, .int .i64 0, .string ⟨#[]⟩, .slice none 0 0, .slice none 0 0] 25))
            replace n5 := block_keep n5 ((Below.refl _ A0abd).alloc (Nat.le_refl _) (.cells #[.int .i64 0, .int .i64 0, .string ⟨#[]⟩, .slice none 0 0, .slice none 0 0] 25))
            refine hK.out _ _ hT (fun _ => trivial) ?_
            clear hK K
            try simp only [Act.put, List.setIfInBounds_toArray, List.set_cons_zero, List.set_cons_succ]
            generalize A0abd.alloc (.cells #[.int .i64 0, .int .i64 0, .string ⟨#[]⟩, .slice none 0 0, .slice none 0 0] 25) = A0abdc at hT n4 hz o1 o3 n5 ⊢
            obtain ⟨g4, hq⟩ : ∃ g, A0abd.heap.size = g := ⟨_, rfl⟩
            rw [hq] at n4 l4 hz o1 o3 s5
            rw [hq]
            clear hq
            have s4 : g4 < A0abdc.heap.size := by omega
            have hne : g4 ≠ g5 := by omega
            replace s5 : g5 < A0abdc.heap.size := by omega
            clear hz
            obtain ⟨z0, z1, z2, z3, z4, zf⟩ := row_cells n4
            have zf0 := zf 0; have zf1 := zf 1; have zf2 := zf 2; have zf3 := zf 3; have zf4 := zf 4
            clear zf
            refine Until.wpU_ready (rs := [6]) (by kernel_rfl) (by simp) ?_
            refine (Until.AllU.cons (o := { dst := none, op := Op.store 25 (Operand.tmp 7) (Operand.tmp 19), type := 0, pos := "law.go:89", after := #[{ on := 4, ground := Ground.data }, { on := 1, ground := Ground.data }, { on := 3, ground := Ground.chain }, { on := 0, ground := Ground.phase }, { on := 1, ground := Ground.phase }, { on := 2, ground := Ground.textOnly Departure.lateStores }, { on := 3, ground := Ground.textOnly Departure.lateStoresUnsure }, { on := 4, ground := Ground.phase }, { on := 5, ground := Ground.phase }], guard := none }) rfl (fun K hK => ?_) Until.AllU.nil)
            go_simp
            have hT8 := hT.put l4 (.int .i64 kv) (.int .i64 xv) (.string sv) (.slice anv lnv cnv) (.slice aiv liv civ)
            refine hK.out _ _ hT8 (fun _ => trivial) ?_
            clear hK K
            try simp only [Act.put, List.setIfInBounds_toArray, List.set_cons_zero, List.set_cons_succ]
            clear z0 z1 z2 z3 z4 zf0 zf1 zf2 zf3 zf4
            obtain ⟨z0, z1, z2, z3, z4, zf⟩ := row_cells n5
            have hne2 := Ne.symm hne
            have zf0 := zf 0; have zf1 := zf 1; have zf2 := zf 2; have zf3 := zf 3; have zf4 := zf 4
            clear zf
            obtain ⟨b6, b7⟩ := two_end n4 n5 hne o1.out o3.out (by simp) (by simp)
            replace b6 := hid_f b6
            replace b7 := hid_f b7
            refine Until.wpU_ready (rs := [7]) (by kernel_rfl) (by simp) ?_
            refine (Until.AllU.cons (o := { dst := none, op := Op.store 25 (Operand.tmp 8) (Operand.tmp 21), type := 0, pos := "law.go:89", after := #[{ on := 5, ground := Ground.data }, { on := 3, ground := Ground.data }, { on := 6, ground := Ground.chain }, { on := 0, ground := Ground.phase }, { on := 1, ground := Ground.phase }, { on := 2, ground := Ground.phase }, { on := 3, ground := Ground.phase }, { on := 4, ground := Ground.phase }, { on := 5, ground := Ground.phase }, { on := 6, ground := Ground.phase }], guard := none }) rfl (fun K hK => ?_) Until.AllU.nil)
            go_simp
            have hT9 := hT8.put l5 (.int .i64 ky) (.int .i64 xy) (.string sy) (.slice any lny cny) (.slice aiy liy ciy)
            refine hK.out _ _ hT9 (fun _ => trivial) ?_
            clear hK K
            try simp only [Act.put, List.setIfInBounds_toArray, List.set_cons_zero, List.set_cons_succ]
            clear z0 z1 z2 z3 z4 zf0 zf1 zf2 zf3 zf4
            refine Until.wpU_done (by kernel_rfl) ?_ _
            refine NoPanic.normal ?_
            go_wp2_with fail
            go_meet
            exact ⟨_, _, _, _, _, _, _, _, _, _, _, _, _, _, _, _, _, _, _, _, rfl, rfl, hT9, b6, b7⟩
        · skip
          go_simp
          have n4 := heap_alloc_new A0a (.cells #[.int .i64 0, .int .i64 0, .string ⟨#[]⟩, .slice none 0 0, .slice none 0 0] 25)
          have l4 := hT.lt
          have hz : (A0a.alloc (.cells #[.int .i64 0, .int .i64 0, .string ⟨#[]⟩, .slice none 0 0, .slice none 0 0] 25)).heap.size = A0a.heap.size + 1 := World.size_alloc _ _
          replace hT := hT.keep ((Below.refl _ A0a).alloc (Nat.le_refl _) (.cells #[.int .i64 0, .int .i64 0, .string ⟨#[]⟩, .slice none 0 0, .slice none 0 0] 25))
          replace o1 := hid_f (off_alloc o1.out (.cells #[.int .i64 0, .int .i64 0, .string ⟨#[]⟩, .slice none 0 0, .slice none 0 0] 25))
          refine hK.out _ _ hT (fun _ => trivial) ?_
          clear hK K
          try simp only [Act.put, List.setIfInBounds_toArray, List.set_cons_zero, List.set_cons_succ]
          generalize A0a.alloc (.cells #[.int .i64 0, .int .i64 0, .string ⟨#[]⟩, .slice none 0 0, .slice none 0 0] 25) = A0ac at hT n4 hz o1 ⊢
          obtain ⟨g4, hq⟩ : ∃ g, A0a.heap.size = g := ⟨_, rfl⟩
          rw [hq] at n4 l4 hz o1
          rw [hq]
          clear hq
          have s4 : g4 < A0ac.heap.size := by omega
          clear hz
          refine Until.wpU_ready (rs := [3, 5]) (by kernel_rfl) (by simp) ?_
          refine (Until.AllU.cons (o := { dst := some 21, op := Op.call { callee := Callee.value (Operand.func 16), args := #[Operand.tmp 20], argTypes := #[25] }, type := 25, pos := "law.go:89", after := #[{ on := 2, ground := Ground.data }, { on := 1, ground := Ground.chain }], guard := none }) rfl (fun K hK => ?_) (Until.AllU.cons (o := { dst := some 8, op := Op.alloc 25, type := 0, pos := "law.go:89", after := #[], guard := none }) rfl (fun K hK => ?_) Until.AllU.nil))
          · skip
            go_simp
            refine (copy_any X (five k2 x2 s2 (.slice an2 ln2 cn2) (.slice ai2 li2 ci2)) A0ac (VRep.keep hT.below _ _ hX.out) hsX.out).mono ?_
            rintro e A0acb ⟨ky, xy, sy, any, lny, cny, aiy, liy, ciy, rfl, hse, hb⟩
            replace hT := hT.keep hb
            replace o1 := hid_f (off_keep o1.out hb)
            replace n4 := block_keep n4 hb
            have o3 := hid_f (off_copy (l := [g4]) (by intro g hg; simp only [List.mem_cons, List.not_mem_nil, or_false] at hg; omega) hse)
            replace s4 := Nat.lt_of_lt_of_le s4 hb.size
            clear hse hb
            refine hK.out _ _ hT (fun _ => trivial) ?_
            clear hK K
            try simp only [Act.put, List.setIfInBounds_toArray, List.set_cons_zero, List.set_cons_succ]
            refine Until.wpU_ready (rs := [5]) (by kernel_rfl) (by simp) ?_
            refine (Until.AllU.cons (o := { dst := some 8, op := Op.alloc 25, type := 0, pos := "law.go:89", after := #[], guard := none }) rfl (fun K hK => ?_) Until.AllU.nil)
            go_simp
            have n5 := heap_alloc_new A0acb (.cells #[.int .i64 0, .int .i64 0, .string ⟨#[]⟩, .slice none 0 0, .slice none 0 0] 25)
            have l5 := hT.lt
            have hz : (A0acb.alloc (.cells #[.int .i64 0, .int .i64 0, .string ⟨#[]⟩, .slice none 0 0, .slice none 0 0] 25)).heap.size = A0acb.heap.size + 1 := World.size_alloc _ _
            replace hT := hT.keep ((Below.refl _ A0acb).alloc (Nat.le_refl _) (.cells #[.int .i64 0, .int .i64 0, .string ⟨#[]⟩, .slice none 0 0, .slice none 0 0] 25))
            replace o1 := hid_f (off_alloc o1.out (.cells #[.int .i64 0, .int .i64 0, .string ⟨#[]⟩, .slice none 0 0, .slice none 0 0] 25))
            replace n4 := block_keep n4 ((Below.refl _ A0acb).alloc (Nat.le_refl _) (.cells #[.int .i64 0, .int .i64 0, .string ⟨#[]⟩, .slice none 0 0, .slice none 0 0] 25))
            replace o3 := hid_f (off_alloc o3.out (.cells #[.int .i64 0, .int .i64 0, .string ⟨#[]⟩, .slice none 0 0, .slice none 0 0] 25))
            refine hK.out _ _ hT (fun _ => trivial) ?_
            clear hK K
            try simp only [Act.put, List.setIfInBounds_toArray, List.set_cons_zero, List.set_cons_succ]
            generalize A0acb.alloc (.cells #[.int .i64 0, .int .i64 0, .string ⟨#[]⟩, .slice none 0 0, .slice none 0 0] 25) = A0acbd at hT n5 hz o1 n4 o3 ⊢
            obtain ⟨g5, hq⟩ : ∃ g, A0acb.heap.size = g := ⟨_, rfl⟩
            rw [hq] at n5 l5 hz o1 o3 s4
            rw [hq]
            clear hq
            have s5 : g5 < A0acbd.heap.size := by omega
            have hne : g4 ≠ g5 := by omega
            replace s4 : g4 < A0acbd.heap.size := by omega
            clear hz
            obtain ⟨z0, z1, z2, z3, z4, zf⟩ := row_cells n4
            have zf0 := zf 0; have zf1 := zf 1; have zf2 := zf 2; have zf3 := zf 3; have zf4 := zf 4
            clear zf
            refine Until.wpU_ready (rs := [6]) (by kernel_rfl) (by simp) ?_
            refine (Until.AllU.cons (o := { dst := none, op := Op.store 25 (Operand.tmp 7) (Operand.tmp 19), type := 0, pos := "law.go:89", after := #[{ on := 4, ground := Ground.data }, { on := 1, ground := Ground.data }, { on := 3, ground := Ground.chain }, { on := 0, ground := Ground.phase }, { on := 1, ground := Ground.phase }, { on := 2, ground := Ground.textOnly Departure.lateStores }, { on := 3, ground := Ground.textOnly Departure.lateStoresUnsure }, { on := 4, ground := Ground.phase }, { on := 5, ground := Ground.phase }], guard := none }) rfl (fun K hK => ?_) Until.AllU.nil)
            go_simp
            have hT8 := hT.put l4 (.int .i64 kv) (.int .i64 xv) (.string sv) (.slice anv lnv cnv) (.slice aiv liv civ)
            refine hK.out _ _ hT8 (fun _ => trivial) ?_
            clear hK K
            try simp only [Act.put, List.setIfInBounds_toArray, List.set_cons_zero, List.set_cons_succ]
            clear z0 z1 z2 z3 z4 zf0 zf1 zf2 zf3 zf4
            obtain ⟨z0, z1, z2, z3, z4, zf⟩ := row_cells n5
            have hne2 := Ne.symm hne
            have zf0 := zf 0; have zf1 := zf 1; have zf2 := zf 2; have zf3 := zf 3; have zf4 := zf 4
            clear zf
            obtain ⟨b6, b7⟩ := two_end n4 n5 hne o1.out o3.out (by simp) (by simp)
            replace b6 := hid_f b6
            replace b7 := hid_f b7
            refine Until.wpU_ready (rs := [7]) (by kernel_rfl) (by simp) ?_
            refine (Until.AllU.cons (o := { dst := none, op := Op.store 25 (Operand.tmp 8) (Operand.tmp 21), type := 0, pos := "law.go:89", after := #[{ on := 5, ground := Ground.data }, { on := 3, ground := Ground.data }, { on := 6, ground := Ground.chain }, { on := 0, ground := Ground.phase }, { on := 1, ground := Ground.phase }, { on := 2, ground := Ground.phase }, { on := 3, ground := Ground.phase }, { on := 4, ground := Ground.phase }, { on := 5, ground := Ground.phase }, { on := 6, ground := Ground.phase }], guard := none }) rfl (fun K hK => ?_) Until.AllU.nil)
            go_simp
            have hT9 := hT8.put l5 (.int .i64 ky) (.int .i64 xy) (.string sy) (.slice any lny cny) (.slice aiy liy ciy)
            refine hK.out _ _ hT9 (fun _ => trivial) ?_
            clear hK K
            try simp only [Act.put, List.setIfInBounds_toArray, List.set_cons_zero, List.set_cons_succ]
            clear z0 z1 z2 z3 z4 zf0 zf1 zf2 zf3 zf4
            refine Until.wpU_done (by kernel_rfl) ?_ _
            refine NoPanic.normal ?_
            go_wp2_with fail
            go_meet
            exact ⟨_, _, _, _, _, _, _, _, _, _, _, _, _, _, _, _, _, _, _, _, rfl, rfl, hT9, b6, b7⟩
          · skip
            go_simp
            have n5 := heap_alloc_new A0ac (.cells #[.int .i64 0, .int .i64 0, .string ⟨#[]⟩, .slice none 0 0, .slice none 0 0] 25)
            have l5 := hT.lt
            have hz : (A0ac.alloc (.cells #[.int .i64 0, .int .i64 0, .string ⟨#[]⟩, .slice none 0 0, .slice none 0 0] 25)).heap.size = A0ac.heap.size + 1 := World.size_alloc _ _
            replace hT := hT.keep ((Below.refl _ A0ac).alloc (Nat.le_refl _) (.cells #[.int .i64 0, .int .i64 0, .string ⟨#[]⟩, .slice none 0 0, .slice none 0 0] 25))
            replace o1 := hid_f (off_alloc o1.out (.cells #[.int .i64 0, .int .i64 0, .string ⟨#[]⟩, .slice none 0 0, .slice none 0 0] 25))
            replace n4 := block_keep n4 ((Below.refl _ A0ac).alloc (Nat.le_refl _) (.cells #[.int .i64 0, .int .i64 0, .string ⟨#[]⟩, .slice none 0 0, .slice none 0 0] 25))
            refine hK.out _ _ hT (fun _ => trivial) ?_
            clear hK K
            try simp only [Act.put, List.setIfInBounds_toArray, List.set_cons_zero, List.set_cons_succ]
            generalize A0ac.alloc (.cells #[.int .i64 0, .int .i64 0, .string ⟨#[]⟩, .slice none 0 0, .slice none 0 0] 25) = A0acd at hT n5 hz o1 n4 ⊢
            obtain ⟨g5, hq⟩ : ∃ g, A0ac.heap.size = g := ⟨_, rfl⟩
            rw [hq] at n5 l5 hz o1 s4
            rw [hq]
            clear hq
            have s5 : g5 < A0acd.heap.size := by omega
            have hne : g4 ≠ g5 := by omega
            replace s4 : g4 < A0acd.heap.size := by omega
            clear hz
            refine Until.wpU_ready (rs := [3]) (by kernel_rfl) (by simp) ?_
            refine (Until.AllU.cons (o := { dst := some 21, op := Op.call { callee := Callee.value (Operand.func 16), args := #[Operand.tmp 20], argTypes := #[25] }, type := 25, pos := "law.go:89", after := #[{ on := 2, ground := Ground.data }, { on := 1, ground := Ground.chain }], guard := none }) rfl (fun K hK => ?_) Until.AllU.nil)
            go_simp
            refine (copy_any X (five k2 x2 s2 (.slice an2 ln2 cn2) (.slice ai2 li2 ci2)) A0acd (VRep.keep hT.below _ _ hX.out) hsX.out).mono ?_
            rintro e A0acdb ⟨ky, xy, sy, any, lny, cny, aiy, liy, ciy, rfl, hse, hb⟩
            replace hT := hT.keep hb
            replace o1 := hid_f (off_keep o1.out hb)
            replace n4 := block_keep n4 hb
            replace n5 := block_keep n5 hb
            have o3 := hid_f (off_copy (l := [g5, g4]) (by intro g hg; simp only [List.mem_cons, List.not_mem_nil, or_false] at hg; omega) hse)
            replace s4 := Nat.lt_of_lt_of_le s4 hb.size
            replace s5 := Nat.lt_of_lt_of_le s5 hb.size
            clear hse hb
            refine hK.out _ _ hT (fun _ => trivial) ?_
            clear hK K
            try simp only [Act.put, List.setIfInBounds_toArray, List.set_cons_zero, List.set_cons_succ]
            obtain ⟨z0, z1, z2, z3, z4, zf⟩ := row_cells n4
            have zf0 := zf 0; have zf1 := zf 1; have zf2 := zf 2; have zf3 := zf 3; have zf4 := zf 4
            clear zf
            refine Until.wpU_ready (rs := [6]) (by kernel_rfl) (by simp) ?_
            refine (Until.AllU.cons (o := { dst := none, op := Op.store 25 (Operand.tmp 7) (Operand.tmp 19), type := 0, pos := "law.go:89", after := #[{ on := 4, ground := Ground.data }, { on := 1, ground := Ground.data }, { on := 3, ground := Ground.chain }, { on := 0, ground := Ground.phase }, { on := 1, ground := Ground.phase }, { on := 2, ground := Ground.textOnly Departure.lateStores }, { on := 3, ground := Ground.textOnly Departure.lateStoresUnsure }, { on := 4, ground := Ground.phase }, { on := 5, ground := Ground.phase }], guard := none }) rfl (fun K hK => ?_) Until.AllU.nil)
            go_simp
            have hT8 := hT.put l4 (.int .i64 kv) (.int .i64 xv) (.string sv) (.slice anv lnv cnv) (.slice aiv liv civ)
            refine hK.out _ _ hT8 (fun _ => trivial) ?_
            clear hK K
            try simp only [Act.put, List.setIfInBounds_toArray, List.set_cons_zero, List.set_cons_succ]
            clear z0 z1 z2 z3 z4 zf0 zf1 zf2 zf3 zf4
            obtain ⟨z0, z1, z2, z3, z4, zf⟩ := row_cells n5
            have hne2 := Ne.symm hne
            have zf0 := zf 0; have zf1 := zf 1; have zf2 := zf 2; have zf3 := zf 3; have zf4 := zf 4
            clear zf
            obtain ⟨b6, b7⟩ := two_end n4 n5 hne o1.out o3.out (by simp) (by simp)
            replace b6 := hid_f b6
            replace b7 := hid_f b7
            refine Until.wpU_ready (rs := [7]) (by kernel_rfl) (by simp) ?_
            refine (Until.AllU.cons (o := { dst := none, op := Op.store 25 (Operand.tmp 8) (Operand.tmp 21), type := 0, pos := "law.go:89", after := #[{ on := 5, ground := Ground.data }, { on := 3, ground := Ground.data }, { on := 6, ground := Ground.chain }, { on := 0, ground := Ground.phase }, { on := 1, ground := Ground.phase }, { on := 2, ground := Ground.phase }, { on := 3, ground := Ground.phase }, { on := 4, ground := Ground.phase }, { on := 5, ground := Ground.phase }, { on := 6, ground := Ground.phase }], guard := none }) rfl (fun K hK => ?_) Until.AllU.nil)
            go_simp
            have hT9 := hT8.put l5 (.int .i64 ky) (.int .i64 xy) (.string sy) (.slice any lny cny) (.slice aiy liy ciy)
            refine hK.out _ _ hT9 (fun _ => trivial) ?_
            clear hK K
            try simp only [Act.put, List.setIfInBounds_toArray, List.set_cons_zero, List.set_cons_succ]
            clear z0 z1 z2 z3 z4 zf0 zf1 zf2 zf3 zf4
            refine Until.wpU_done (by kernel_rfl) ?_ _
            refine NoPanic.normal ?_
            go_wp2_with fail
            go_meet
            exact ⟨_, _, _, _, _, _, _, _, _, _, _, _, _, _, _, _, _, _, _, _, rfl, rfl, hT9, b6, b7⟩
        · skip
          go_simp
          have n5 := heap_alloc_new A0a (.cells #[.int .i64 0, .int .i64 0, .string ⟨#[]⟩, .slice none 0 0, .slice none 0 0] 25)
          have l5 := hT.lt
          have hz : (A0a.alloc (.cells #[.int .i64 0, .int .i64 0, .string ⟨#[]⟩, .slice none 0 0, .slice none 0 0] 25)).heap.size = A0a.heap.size + 1 := World.size_alloc _ _
          replace hT := hT.keep ((Below.refl _ A0a).alloc (Nat.le_refl _) (.cells #[.int .i64 0, .int .i64 0, .string ⟨#[]⟩, .slice none 0 0, .slice none 0 0] 25))
          replace o1 := hid_f (off_alloc o1.out (.cells #[.int .i64 0, .int .i64 0, .string ⟨#[]⟩, .slice none 0 0, .slice none 0 0] 25))
          refine hK.out _ _ hT (fun _ => trivial) ?_
          clear hK K
          try simp only [Act.put, List.setIfInBounds_toArray, List.set_cons_zero, List.set_cons_succ]
          generalize A0a.alloc (.cells #[.int .i64 0, .int .i64 0, .string ⟨#[]⟩, .slice none 0 0, .slice none 0 0] 25) = A0ad at hT n5 hz o1 ⊢
          obtain ⟨g5, hq⟩ : ∃ g, A0a.heap.size = g := ⟨_, rfl⟩
          rw [hq] at n5 l5 hz o1
          rw [hq]
          clear hq
          have s5 : g5 < A0ad.heap.size := by omega
          clear hz
          refine Until.wpU_ready (rs := [3, 4]) (by kernel_rfl) (by simp) ?_
          refine (Until.AllU.cons (o := { dst := some 21, op := Op.call { callee := Callee.value (Operand.func 16), args := #[Operand.tmp 20], argTypes := #[25] }, type := 25, pos := "law.go:89", after := #[{ on := 2, ground := Ground.data }, { on := 1, ground := Ground.chain }], guard := none }) rfl (fun K hK => ?_) (Until.AllU.cons (o := { dst := some 7, op := Op.alloc 25, type := 0, pos := "law.go:89", after := #[], guard := none }) rfl (fun K hK => ?_) Until.AllU.nil))
          · skip
            go_simp
            refine (copy_any X (five k2 x2 s2 (.slice an2 ln2 cn2) (.slice ai2 li2 ci2)) A0ad (VRep.keep hT.below _ _ hX.out) hsX.out).mono ?_
            rintro e A0adb ⟨ky, xy, sy, any, lny, cny, aiy, liy, ciy, rfl, hse, hb⟩
            replace hT := hT.keep hb
            replace o1 := hid_f (off_keep o1.out hb)
            replace n5 := block_keep n5 hb
            have o3 := hid_f (off_copy (l := [g5]) (by intro g hg; simp only [List.mem_cons, List.not_mem_nil, or_false] at hg; omega) hse)
            replace s5 := Nat.lt_of_lt_of_le s5 hb.size
            clear hse hb
            refine hK.out _ _ hT (fun _ => trivial) ?_
            clear hK K
            try simp only [Act.put, List.setIfInBounds_toArray, List.set_cons_zero, List.set_cons_succ]
            refine Until.wpU_ready (rs := [4]) (by kernel_rfl) (by simp) ?_
            refine (Until.AllU.cons (o := { dst := some 7, op := Op.alloc 25, type := 0, pos := "law.go:89", after := #[], guard := none }) rfl (fun K hK => ?_) Until.AllU.nil)
            go_simp
            have n4 := heap_alloc_new A0adb (.cells #[.int .i64 0, .int .i64 0, .string ⟨#[]⟩, .slice none 0 0, .slice none 0 0] 25)
            have l4 := hT.lt
            have hz : (A0adb.alloc (.cells #[.int .i64 0, .int .i64 0, .string ⟨#[]⟩, .slice none 0 0, .slice none 0 0] 25)).heap.size = A0adb.heap.size + 1 := World.size_alloc _ _
            replace hT := hT.keep ((Below.refl _ A0adb).alloc (Nat.le_refl _) (.cells #[.int .i64 0, .int .i64 0, .string ⟨#[]⟩, .slice none 0 0, .slice none 0 0] 25))
            replace o1 := hid_f (off_alloc o1.out (.cells #[.int .i64 0, .int .i64 0, .string ⟨#[]⟩, .slice none 0 0, .slice none 0 0] 25))
            replace n5 := block_keep n5 ((Below.refl _ A0adb).alloc (Nat.le_refl _) (.cells #[.int .i64 0, .int .i64 0, .string ⟨#[]⟩, .slice none 0 0, .slice none 0 0] 25))
            replace o3 := hid_f (off_alloc o3.out (.cells #[.int .i64 0, .int .i64 0, .string ⟨#[]⟩, .slice none 0 0, .slice none 0 0] 25))
            refine hK.out _ _ hT (fun _ => trivial) ?_
            clear hK K
            try simp only [Act.put, List.setIfInBounds_toArray, List.set_cons_zero, List.set_cons_succ]
            generalize A0adb.alloc (.cells #[.int .i64 0, .int .i64 0, .string ⟨#[]⟩, .slice none 0 0, .slice none 0 0] 25) = A0adbc at hT n4 hz o1 n5 o3 ⊢
            obtain ⟨g4, hq⟩ : ∃ g, A0adb.heap.size = g := ⟨_, rfl⟩
            rw [hq] at n4 l4 hz o1 o3 s5
            rw [hq]
            clear hq
            have s4 : g4 < A0adbc.heap.size := by omega
            have hne : g4 ≠ g5 := by omega
            replace s5 : g5 < A0adbc.heap.size := by omega
            clear hz
            obtain ⟨z0, z1, z2, z3, z4, zf⟩ := row_cells n4
            have zf0 := zf 0; have zf1 := zf 1; have zf2 := zf 2; have zf3 := zf 3; have zf4 := zf 4
            clear zf
            refine Until.wpU_ready (rs := [6]) (by kernel_rfl) (by simp) ?_
            refine (Until.AllU.cons (o := { dst := none, op := Op.store 25 (Operand.tmp 7) (Operand.tmp 19), type := 0, pos := "law.go:89", after := #[{ on := 4, ground := Ground.data }, { on := 1, ground := Ground.data }, { on := 3, ground := Ground.chain }, { on := 0, ground := Ground.phase }, { on := 1, ground := Ground.phase }, { on := 2, ground := Ground.textOnly Departure.lateStores }, { on := 3, ground := Ground.textOnly Departure.lateStoresUnsure }, { on := 4, ground := Ground.phase }, { on := 5, ground := Ground.phase }], guard := none }) rfl (fun K hK => ?_) Until.AllU.nil)
            go_simp
            have hT8 := hT.put l4 (.int .i64 kv) (.int .i64 xv) (.string sv) (.slice anv lnv cnv) (.slice aiv liv civ)
            refine hK.out _ _ hT8 (fun _ => trivial) ?_
            clear hK K
            try simp only [Act.put, List.setIfInBounds_toArray, List.set_cons_zero, List.set_cons_succ]
            clear z0 z1 z2 z3 z4 zf0 zf1 zf2 zf3 zf4
            obtain ⟨z0, z1, z2, z3, z4, zf⟩ := row_cells n5
            have hne2 := Ne.symm hne
            have zf0 := zf 0; have zf1 := zf 1; have zf2 := zf 2; have zf3 := zf 3; have zf4 := zf 4
            clear zf
            obtain ⟨b6, b7⟩ := two_end n4 n5 hne o1.out o3.out (by simp) (by simp)
            replace b6 := hid_f b6
            replace b7 := hid_f b7
            refine Until.wpU_ready (rs := [7]) (by kernel_rfl) (by simp) ?_
            refine (Until.AllU.cons (o := { dst := none, op := Op.store 25 (Operand.tmp 8) (Operand.tmp 21), type := 0, pos := "law.go:89", after := #[{ on := 5, ground := Ground.data }, { on := 3, ground := Ground.data }, { on := 6, ground := Ground.chain }, { on := 0, ground := Ground.phase }, { on := 1, ground := Ground.phase }, { on := 2, ground := Ground.phase }, { on := 3, ground := Ground.phase }, { on := 4, ground := Ground.phase }, { on := 5, ground := Ground.phase }, { on := 6, ground := Ground.phase }], guard := none }) rfl (fun K hK => ?_) Until.AllU.nil)
            go_simp
            have hT9 := hT8.put l5 (.int .i64 ky) (.int .i64 xy) (.string sy) (.slice any lny cny) (.slice aiy liy ciy)
            refine hK.out _ _ hT9 (fun _ => trivial) ?_
            clear hK K
            try simp only [Act.put, List.setIfInBounds_toArray, List.set_cons_zero, List.set_cons_succ]
            clear z0 z1 z2 z3 z4 zf0 zf1 zf2 zf3 zf4
            refine Until.wpU_done (by kernel_rfl) ?_ _
            refine NoPanic.normal ?_
            go_wp2_with fail
            go_meet
            exact ⟨_, _, _, _, _, _, _, _, _, _, _, _, _, _, _, _, _, _, _, _, rfl, rfl, hT9, b6, b7⟩
          · skip
            go_simp
            have n4 := heap_alloc_new A0ad (.cells #[.int .i64 0, .int .i64 0, .string ⟨#[]⟩, .slice none 0 0, .slice none 0 0] 25)
            have l4 := hT.lt
            have hz : (A0ad.alloc (.cells #[.int .i64 0, .int .i64 0, .string ⟨#[]⟩, .slice none 0 0, .slice none 0 0] 25)).heap.size = A0ad.heap.size + 1 := World.size_alloc _ _
            replace hT := hT.keep ((Below.refl _ A0ad).alloc (Nat.le_refl _) (.cells #[.int .i64 0, .int .i64 0, .string ⟨#[]⟩, .slice none 0 0, .slice none 0 0] 25))
            replace o1 := hid_f (off_alloc o1.out (.cells #[.int .i64 0, .int .i64 0, .string ⟨#[]⟩, .slice none 0 0, .slice none 0 0] 25))
            replace n5 := block_keep n5 ((Below.refl _ A0ad).alloc (Nat.le_refl _) (.cells #[.int .i64 0, .int .i64 0, .string ⟨#[]⟩, .slice none 0 0, .slice none 0 0] 25))
            refine hK.out _ _ hT (fun _ => trivial) ?_
            clear hK K
            try simp only [Act.put, List.setIfInBounds_toArray, List.set_cons_zero, List.set_cons_succ]
            generalize A0ad.alloc (.cells #[.int .i64 0, .int .i64 0, .string ⟨#[]⟩, .slice none 0 0, .slice none 0 0] 25) = A0adc at hT n4 hz o1 n5 ⊢
            obtain ⟨g4, hq⟩ : ∃ g, A0ad.heap.size = g := ⟨_, rfl⟩
            rw [hq] at n4 l4 hz o1 s5
            rw [hq]
            clear hq
            have s4 : g4 < A0adc.heap.size := by omega
            have hne : g4 ≠ g5 := by omega
            replace s5 : g5 < A0adc.heap.size := by omega
            clear hz
            refine Until.wpU_ready (rs := [3]) (by kernel_rfl) (by simp) ?_
            refine (Until.AllU.cons (o := { dst := some 21, op := Op.call { callee := Callee.value (Operand.func 16), args := #[Operand.tmp 20], argTypes := #[25] }, type := 25, pos := "law.go:89", after := #[{ on := 2, ground := Ground.data }, { on := 1, ground := Ground.chain }], guard := none }) rfl (fun K hK => ?_) Until.AllU.nil)
            go_simp
            refine (copy_any X (five k2 x2 s2 (.slice an2 ln2 cn2) (.slice ai2 li2 ci2)) A0adc (VRep.keep hT.below _ _ hX.out) hsX.out).mono ?_
            rintro e A0adcb ⟨ky, xy, sy, any, lny, cny, aiy, liy, ciy, rfl, hse, hb⟩
            replace hT := hT.keep hb
            replace o1 := hid_f (off_keep o1.out hb)
            replace n5 := block_keep n5 hb
            replace n4 := block_keep n4 hb
            have o3 := hid_f (off_copy (l := [g4, g5]) (by intro g hg; simp only [List.mem_cons, List.not_mem_nil, or_false] at hg; omega) hse)
            replace s5 := Nat.lt_of_lt_of_le s5 hb.size
            replace s4 := Nat.lt_of_lt_of_le s4 hb.size
            clear hse hb
            refine hK.out _ _ hT (fun _ => trivial) ?_
            clear hK K
            try simp only [Act.put, List.setIfInBounds_toArray, List.set_cons_zero, List.set_cons_succ]
            obtain ⟨z0, z1, z2, z3, z4, zf⟩ := row_cells n4
            have zf0 := zf 0; have zf1 := zf 1; have zf2 := zf 2; have zf3 := zf 3; have zf4 := zf 4
            clear zf
            refine Until.wpU_ready (rs := [6]) (by kernel_rfl) (by simp) ?_
            refine (Until.AllU.cons (o := { dst := none, op := Op.store 25 (Operand.tmp 7) (Operand.tmp 19), type := 0, pos := "law.go:89", after := #[{ on := 4, ground := Ground.data }, { on := 1, ground := Ground.data }, { on := 3, ground := Ground.chain }, { on := 0, ground := Ground.phase }, { on := 1, ground := Ground.phase }, { on := 2, ground := Ground.textOnly Departure.lateStores }, { on := 3, ground := Ground.textOnly Departure.lateStoresUnsure }, { on := 4, ground := Ground.phase }, { on := 5, ground := Ground.phase }], guard := none }) rfl (fun K hK => ?_) Until.AllU.nil)
            go_simp
            have hT8 := hT.put l4 (.int .i64 kv) (.int .i64 xv) (.string sv) (.slice anv lnv cnv) (.slice aiv liv civ)
            refine hK.out _ _ hT8 (fun _ => trivial) ?_
            clear hK K
            try simp only [Act.put, List.setIfInBounds_toArray, List.set_cons_zero, List.set_cons_succ]
            clear z0 z1 z2 z3 z4 zf0 zf1 zf2 zf3 zf4
            obtain ⟨z0, z1, z2, z3, z4, zf⟩ := row_cells n5
            have hne2 := Ne.symm hne
            have zf0 := zf 0; have zf1 := zf 1; have zf2 := zf 2; have zf3 := zf 3; have zf4 := zf 4
            clear zf
            obtain ⟨b6, b7⟩ := two_end n4 n5 hne o1.out o3.out (by simp) (by simp)
            replace b6 := hid_f b6
            replace b7 := hid_f b7
            refine Until.wpU_ready (rs := [7]) (by kernel_rfl) (by simp) ?_
            refine (Until.AllU.cons (o := { dst := none, op := Op.store 25 (Operand.tmp 8) (Operand.tmp 21), type := 0, pos := "law.go:89", after := #[{ on := 5, ground := Ground.data }, { on := 3, ground := Ground.data }, { on := 6, ground := Ground.chain }, { on := 0, ground := Ground.phase }, { on := 1, ground := Ground.phase }, { on := 2, ground := Ground.phase }, { on := 3, ground := Ground.phase }, { on := 4, ground := Ground.phase }, { on := 5, ground := Ground.phase }, { on := 6, ground := Ground.phase }], guard := none }) rfl (fun K hK => ?_) Until.AllU.nil)
            go_simp
            have hT9 := hT8.put l5 (.int .i64 ky) (.int .i64 xy) (.string sy) (.slice any lny cny) (.slice aiy liy ciy)
            refine hK.out _ _ hT9 (fun _ => trivial) ?_
            clear hK K
            try simp only [Act.put, List.setIfInBounds_toArray, List.set_cons_zero, List.set_cons_succ]
            clear z0 z1 z2 z3 z4 zf0 zf1 zf2 zf3 zf4
            refine Until.wpU_done (by kernel_rfl) ?_ _
            refine NoPanic.normal ?_
            go_wp2_with fail
            go_meet
            exact ⟨_, _, _, _, _, _, _, _, _, _, _, _, _, _, _, _, _, _, _, _, rfl, rfl, hT9, b6, b7⟩
      · skip
        go_simp
        have n4 := heap_alloc_new A0 (.cells #[.int .i64 0, .int .i64 0, .string ⟨#[]⟩, .slice none 0 0, .slice none 0 0] 25)
        have l4 := hT.lt
        have hz : (A0.alloc (.cells #[.int .i64 0, .int .i64 0, .string ⟨#[]⟩, .slice none 0 0, .slice none 0 0] 25)).heap.size = A0.heap.size + 1 := World.size_alloc _ _
        replace hT := hT.keep ((Below.refl _ A0).alloc (Nat.le_refl _) (.cells #[.int .i64 0, .int .i64 0, .string ⟨#[]⟩, .slice none 0 0, .slice none 0 0] 25))
        refine hK.out _ _ hT (fun _ => trivial) ?_
        clear hK K
        try simp only [Act.put, List.setIfInBounds_toArray, List.set_cons_zero, List.set_cons_succ]
        generalize A0.alloc (.cells #[.int .i64 0, .int .i64 0, .string ⟨#[]⟩, .slice none 0 0, .slice none 0 0] 25) = A0c at hT n4 hz ⊢
        obtain ⟨g4, hq⟩ : ∃ g, A0.heap.size = g := ⟨_, rfl⟩
        rw [hq] at n4 l4 hz
        rw [hq]
        clear hq
        have s4 : g4 < A0c.heap.size := by omega
        clear hz
        refine Until.wpU_ready (rs := [1, 5]) (by kernel_rfl) (by simp) ?_
        refine (Until.AllU.cons (o := { dst := some 19, op := Op.call { callee := Callee.value (Operand.func 16), args := #[Operand.tmp 18], argTypes := #[25] }, type := 25, pos := "law.go:89", after := #[{ on := 0, ground := Ground.data }], guard := none }) rfl (fun K hK => ?_) (Until.AllU.cons (o := { dst := some 8, op := Op.alloc 25, type := 0, pos := "law.go:89", after := #[], guard := none }) rfl (fun K hK => ?_) Until.AllU.nil))
        · skip
          go_simp
          refine (copy_any V (five k1 x1 s1 (.slice an1 ln1 cn1) (.slice ai1 li1 ci1)) A0c (VRep.keep hT.below _ _ hV.out) hsV.out).mono ?_
          rintro e A0ca ⟨kv, xv, sv, anv, lnv, cnv, aiv, liv, civ, rfl, hse, hb⟩
          replace hT := hT.keep hb
          replace n4 := block_keep n4 hb
          have o1 := hid_f (off_copy (l := [g4]) (by intro g hg; simp only [List.mem_cons, List.not_mem_nil, or_false] at hg; omega) hse)
          replace s4 := Nat.lt_of_lt_of_le s4 hb.size
          clear hse hb
          refine hK.out _ _ hT (fun _ => trivial) ?_
          clear hK K
          try simp only [Act.put, List.setIfInBounds_toArray, List.set_cons_zero, List.set_cons_succ]
          refine Until.wpU_ready (rs := [3, 5]) (by kernel_rfl) (by simp) ?_
          refine (Until.AllU.cons (o := { dst := some 21, op := Op.call { callee := Callee.value (Operand.func 16), args := #[Operand.tmp 20], argTypes := #[25] }, type := 25, pos := "law.go:89", after := #[{ on := 2, ground := Ground.data }, { on := 1, ground := Ground.chain }], guard := none }) rfl (fun K hK => ?_) (Until.AllU.cons (o := { dst := some 8, op := Op.alloc 25, type := 0, pos := "law.go:89", after := #[], guard := none }) rfl (fun K hK => ?_) Until.AllU.nil))
          · skip
            go_simp
            refine (copy_any X (five k2 x2 s2 (.slice an2 ln2 cn2) (.slice ai2 li2 ci2)) A0ca (VRep.keep hT.below _ _ hX.out) hsX.out).mono ?_
            rintro e A0cab ⟨ky, xy, sy, any, lny, cny, aiy, liy, ciy, rfl, hse, hb⟩
            replace hT := hT.keep hb
            replace n4 := block_keep n4 hb
            replace o1 := hid_f (off_keep o1.out hb)
            have o3 := hid_f (off_copy (l := [g4]) (by intro g hg; simp only [List.mem_cons, List.not_mem_nil, or_false] at hg; omega) hse)
            replace s4 := Nat.lt_of_lt_of_le s4 hb.size
            clear hse hb
            refine hK.out _ _ hT (fun _ => trivial) ?_
            clear hK K
            try simp only [Act.put, List.setIfInBounds_toArray, List.set_cons_zero, List.set_cons_succ]
            refine Until.wpU_ready (rs := [5]) (by kernel_rfl) (by simp) ?_
            refine (Until.AllU.cons (o := { dst := some 8, op := Op.alloc 25, type := 0, pos := "law.go:89", after := #[], guard := none }) rfl (fun K hK => ?_) Until.AllU.nil)
            go_simp
            have n5 := heap_alloc_new A0cab (.cells #[.int .i64 0, .int .i64 0, .string ⟨#[]⟩, .slice none 0 0, .slice none 0 0] 25)
            have l5 := hT.lt
            have hz : (A0cab.alloc (.cells #[.int .i64 0, .int .i64 0, .string ⟨#[]⟩, .slice none 0 0, .slice none 0 0] 25)).heap.size = A0cab.heap.size + 1 := World.size_alloc _ _
            replace hT := hT.keep ((Below.refl _ A0cab).alloc (Nat.le_refl _) (.cells #[.int .i64 0, .int .i64 0, .string ⟨#[]⟩, .slice none 0 0, .slice none 0 0] 25))
            replace n4 := block_keep n4 ((Below.refl _ A0cab).alloc (Nat.le_refl _) (.cells #[.int .i64 0, .int .i64 0, .string ⟨#[]⟩, .slice none 0 0, .slice none 0 0] 25))
            replace o1 := hid_f (off_alloc o1.out (.cells #[.int .i64 0, .int .i64 0, .string ⟨#[]⟩, .slice none 0 0, .slice none 0 0] 25))
            replace o3 := hid_f (off_alloc o3.out (.cells #[.int .i64 0, .int .i64 0, .string ⟨#[]⟩, .slice none 0 0, .slice none 0 0] 25))
            refine hK.out _ _ hT (fun _ => trivial) ?_
            clear hK K
            try simp only [Act.put, List.setIfInBounds_toArray, List.set_cons_zero, List.set_cons_succ]
            generalize A0cab.alloc (.cells #[.int .i64 0, .int .i64 0, .string ⟨#[]⟩, .slice none 0 0, .slice none 0 0] 25) = A0cabd at hT n5 hz n4 o1 o3 ⊢
            obtain ⟨g5, hq⟩ : ∃ g, A0cab.heap.size = g := ⟨_, rfl⟩
            rw [hq] at n5 l5 hz o1 o3 s4
            rw [hq]
            clear hq
            have s5 : g5 < A0cabd.heap.size := by omega
            have hne : g4 ≠ g5 := by omega
            replace s4 : g4 < A0cabd.heap.size := by omega
            clear hz
            obtain ⟨z0, z1, z2, z3, z4, zf⟩ := row_cells n4
            have zf0 := zf 0; have zf1 := zf 1; have zf2 := zf 2; have zf3 := zf 3; have zf4 := zf 4
            clear zf
            refine Until.wpU_ready (rs := [6]) (by kernel_rfl) (by simp) ?_
            refine (Until.AllU.cons (o := { dst := none, op := Op.store 25 (Operand.tmp 7) (Operand.tmp 19), type := 0, pos := "law.go:89", after := #[{ on := 4, ground := Ground.data }, { on := 1, ground := Ground.data }, { on := 3, ground := Ground.chain }, { on := 0, ground := Ground.phase }, { on := 1, ground := Ground.phase }, { on := 2, ground := Ground.textOnly Departure.lateStores }, { on := 3, ground := Ground.textOnly Departure.lateStoresUnsure }, { on := 4, ground := Ground.phase }, { on := 5, ground := Ground.phase }], guard := none }) rfl (fun K hK => ?_) Until.AllU.nil)
            go_simp
            have hT8 := hT.put l4 (.int .i64 kv) (.int .i64 xv) (.string sv) (.slice anv lnv cnv) (.slice aiv liv civ)
            refine hK.out _ _ hT8 (fun _ => trivial) ?_
            clear hK K
            try simp only [Act.put, List.setIfInBounds_toArray, List.set_cons_zero, List.set_cons_succ]
            clear z0 z1 z2 z3 z4 zf0 zf1 zf2 zf3 zf4
            obtain ⟨z0, z1, z2, z3, z4, zf⟩ := row_cells n5
            have hne2 := Ne.symm hne
            have zf0 := zf 0; have zf1 := zf 1; have zf2 := zf 2; have zf3 := zf 3; have zf4 := zf 4
            clear zf
            obtain ⟨b6, b7⟩ := two_end n4 n5 hne o1.out o3.out (by simp) (by simp)
            replace b6 := hid_f b6
            replace b7 := hid_f b7
            refine Until.wpU_ready (rs := [7]) (by kernel_rfl) (by simp) ?_
            refine (Until.AllU.cons (o := { dst := none, op := Op.store 25 (Operand.tmp 8) (Operand.tmp 21), type := 0, pos := "law.go:89", after := #[{ on := 5, ground := Ground.data }, { on := 3, ground := Ground.data }, { on := 6, ground := Ground.chain }, { on := 0, ground := Ground.phase }, { on := 1, ground := Ground.phase }, { on := 2, ground := Ground.phase }, { on := 3, ground := Ground.phase }, { on := 4, ground := Ground.phase }, { on := 5, ground := Ground.phase }, { on := 6, ground := Ground.phase }], guard := none }) rfl (fun K hK => ?_) Until.AllU.nil)
            go_simp
            have hT9 := hT8.put l5 (.int .i64 ky) (.int .i64 xy) (.string sy) (.slice any lny cny) (.slice aiy liy ciy)
            refine hK.out _ _ hT9 (fun _ => trivial) ?_
            clear hK K
            try simp only [Act.put, List.setIfInBounds_toArray, List.set_cons_zero, List.set_cons_succ]
            clear z0 z1 z2 z3 z4 zf0 zf1 zf2 zf3 zf4
            refine Until.wpU_done (by kernel_rfl) ?_ _
            refine NoPanic.normal ?_
            go_wp2_with fail
            go_meet
            exact ⟨_, _, _, _, _, _, _, _, _, _, _, _, _, _, _, _, _, _, _, _, rfl, rfl, hT9, b6, b7⟩
          · skip
            go_simp
            have n5 := heap_alloc_new A0ca (.cells #[.int .i64 0, .int .i64 0, .string ⟨#[]⟩, .slice none 0 0, .slice none 0 0] 25)
            have l5 := hT.lt
            have hz : (A0ca.alloc (.cells #[.int .i64 0, .int .i64 0, .string ⟨#[]⟩, .slice none 0 0, .slice none 0 0] 25)).heap.size = A0ca.heap.size + 1 := World.size_alloc _ _
            replace hT := hT.keep ((Below.refl _ A0ca).alloc (Nat.le_refl _) (.cells #[.int .i64 0, .int .i64 0, .string ⟨#[]⟩, .slice none 0 0, .slice none 0 0] 25))
            replace n4 := block_keep n4 ((Below.refl _ A0ca).alloc (Nat.le_refl _) (.cells #[.int .i64 0, .int .i64 0, .string ⟨#[]⟩, .slice none 0 0, .slice none 0 0] 25))
            replace o1 := hid_f (off_alloc o1.out (.cells #[.int .i64 0, .int .i64 0, .string ⟨#[]⟩, .slice none 0 0, .slice none 0 0] 25))
            refine hK.out _ _ hT (fun _ => trivial) ?_
            clear hK K
            try simp only [Act.put, List.setIfInBounds_toArray, List.set_cons_zero, List.set_cons_succ]
            generalize A0ca.alloc (.cells #[.int .i64 0, .int .i64 0, .string ⟨#[]⟩, .slice none 0 0, .slice none 0 0] 25) = A0cad at hT n5 hz n4 o1 ⊢
            obtain ⟨g5, hq⟩ : ∃ g, A0ca.heap.size = g := ⟨_, rfl⟩
            rw [hq] at n5 l5 hz o1 s4
            rw [hq]
            clear hq
            have s5 : g5 < A0cad.heap.size := by omega
            have hne : g4 ≠ g5 := by omega
            replace s4 : g4 < A0cad.heap.size := by omega
            clear hz
            refine Until.wpU_ready (rs := [3]) (by kernel_rfl) (by simp) ?_
            refine (Until.AllU.cons (o := { dst := some 21, op := Op.call { callee := Callee.value (Operand.func 16), args := #[Operand.tmp 20], argTypes := #[25] }, type := 25, pos := "law.go:89", after := #[{ on := 2, ground := Ground.data }, { on := 1, ground := Ground.chain }], guard := none }) rfl (fun K hK => ?_) Until.AllU.nil)
            go_simp
            refine (copy_any X (five k2 x2 s2 (.slice an2 ln2 cn2) (.slice ai2 li2 ci2)) A0cad (VRep.keep hT.below _ _ hX.out) hsX.out).mono ?_
            rintro e A0cadb ⟨ky, xy, sy, any, lny, cny, aiy, liy, ciy, rfl, hse, hb⟩
            replace hT := hT.keep hb
            replace n4 := block_keep n4 hb
            replace o1 := hid_f (off_keep o1.out hb)
            replace n5 := block_keep n5 hb
            have o3 := hid_f (off_copy (l := [g5, g4]) (by intro g hg; simp only [List.mem_cons, List.not_mem_nil, or_false] at hg; omega) hse)
            replace s4 := Nat.lt_of_lt_of_le s4 hb.size
            replace s5 := Nat.lt_of_lt_of_le s5 hb.size
            clear hse hb
            refine hK.out _ _ hT (fun _ => trivial) ?_
            clear hK K
            try simp only [Act.put, List.setIfInBounds_toArray, List.set_cons_zero, List.set_cons_succ]
            obtain ⟨z0, z1, z2, z3, z4, zf⟩ := row_cells n4
            have zf0 := zf 0; have zf1 := zf 1; have zf2 := zf 2; have zf3 := zf 3; have zf4 := zf 4
            clear zf
            refine Until.wpU_ready (rs := [6]) (by kernel_rfl) (by simp) ?_
            refine (Until.AllU.cons (o := { dst := none, op := Op.store 25 (Operand.tmp 7) (Operand.tmp 19), type := 0, pos := "law.go:89", after := #[{ on := 4, ground := Ground.data }, { on := 1, ground := Ground.data }, { on := 3, ground := Ground.chain }, { on := 0, ground := Ground.phase }, { on := 1, ground := Ground.phase }, { on := 2, ground := Ground.textOnly Departure.lateStores }, { on := 3, ground := Ground.textOnly Departure.lateStoresUnsure }, { on := 4, ground := Ground.phase }, { on := 5, ground := Ground.phase }], guard := none }) rfl (fun K hK => ?_) Until.AllU.nil)
            go_simp
            have hT8 := hT.put l4 (.int .i64 kv) (.int .i64 xv) (.string sv) (.slice anv lnv cnv) (.slice aiv liv civ)
            refine hK.out _ _ hT8 (fun _ => trivial) ?_
            clear hK K
            try simp only [Act.put, List.setIfInBounds_toArray, List.set_cons_zero, List.set_cons_succ]
            clear z0 z1 z2 z3 z4 zf0 zf1 zf2 zf3 zf4
            obtain ⟨z0, z1, z2, z3, z4, zf⟩ := row_cells n5
            have hne2 := Ne.symm hne
            have zf0 := zf 0; have zf1 := zf 1; have zf2 := zf 2; have zf3 := zf 3; have zf4 := zf 4
            clear zf
            obtain ⟨b6, b7⟩ := two_end n4 n5 hne o1.out o3.out (by simp) (by simp)
            replace b6 := hid_f b6
            replace b7 := hid_f b7
            refine Until.wpU_ready (rs := [7]) (by kernel_rfl) (by simp) ?_
            refine (Until.AllU.cons (o := { dst := none, op := Op.store 25 (Operand.tmp 8) (Operand.tmp 21), type := 0, pos := "law.go:89", after := #[{ on := 5, ground := Ground.data }, { on := 3, ground := Ground.data }, { on := 6, ground := Ground.chain }, { on := 0, ground := Ground.phase }, { on := 1, ground := Ground.phase }, { on := 2, ground := Ground.phase }, { on := 3, ground := Ground.phase }, { on := 4, ground := Ground.phase }, { on := 5, ground := Ground.phase }, { on := 6, ground := Ground.phase }], guard := none }) rfl (fun K hK => ?_) Until.AllU.nil)
            go_simp
            have hT9 := hT8.put l5 (.int .i64 ky) (.int .i64 xy) (.string sy) (.slice any lny cny) (.slice aiy liy ciy)
            refine hK.out _ _ hT9 (fun _ => trivial) ?_
            clear hK K
            try simp only [Act.put, List.setIfInBounds_toArray, List.set_cons_zero, List.set_cons_succ]
            clear z0 z1 z2 z3 z4 zf0 zf1 zf2 zf3 zf4
            refine Until.wpU_done (by kernel_rfl) ?_ _
            refine NoPanic.normal ?_
            go_wp2_with fail
            go_meet
            exact ⟨_, _, _, _, _, _, _, _, _, _, _, _, _, _, _, _, _, _, _, _, rfl, rfl, hT9, b6, b7⟩
        · skip
          go_simp
          have n5 := heap_alloc_new A0c (.cells #[.int .i64 0, .int .i64 0, .string ⟨#[]⟩, .slice none 0 0, .slice none 0 0] 25)
          have l5 := hT.lt
          have hz : (A0c.alloc (.cells #[.int .i64 0, .int .i64 0, .string ⟨#[]⟩, .slice none 0 0, .slice none 0 0] 25)).heap.size = A0c.heap.size + 1 := World.size_alloc _ _
          replace hT := hT.keep ((Below.refl _ A0c).alloc (Nat.le_refl _) (.cells #[.int .i64 0, .int .i64 0, .string ⟨#[]⟩, .slice none 0 0, .slice none 0 0] 25))
          replace n4 := block_keep n4 ((Below.refl _ A0c).alloc (Nat.le_refl _) (.cells #[.int .i64 0, .int .i64 0, .string ⟨#[]⟩, .slice none 0 0, .slice none 0 0] 25))
          refine hK.out _ _ hT (fun _ => trivial) ?_
          clear hK K
          try simp only [Act.put, List.setIfInBounds_toArray, List.set_cons_zero, List.set_cons_succ]
          generalize A0c.alloc (.cells #[.int .i64 0, .int .i64 0, .string ⟨#[]⟩, .slice none 0 0, .slice none 0 0] 25) = A0cd at hT n5 hz n4 ⊢
          obtain ⟨g5, hq⟩ : ∃ g, A0c.heap.size = g := ⟨_, rfl⟩
          rw [hq] at n5 l5 hz s4
          rw [hq]
          clear hq
          have s5 : g5 < A0cd.heap.size := by omega
          have hne : g4 ≠ g5 := by omega
          replace s4 : g4 < A0cd.heap.size := by omega
          clear hz
          refine Until.wpU_ready (rs := [1]) (by kernel_rfl) (by simp) ?_
          refine (Until.AllU.cons (o := { dst := some 19, op := Op.call { callee := Callee.value (Operand.func 16), args := #[Operand.tmp 18], argTypes := #[25] }, type := 25, pos := "law.go:89", after := #[{ on := 0, ground := Ground.data }], guard := none }) rfl (fun K hK => ?_) Until.AllU.nil)
          go_simp
          refine (copy_any V (five k1 x1 s1 (.slice an1 ln1 cn1) (.slice ai1 li1 ci1)) A0cd (VRep.keep hT.below _ _ hV.out) hsV.out).mono ?_
          rintro e A0cda ⟨kv, xv, sv, anv, lnv, cnv, aiv, liv, civ, rfl, hse, hb⟩
          replace hT := hT.keep hb
          replace n4 := block_keep n4 hb
          replace n5 := block_keep n5 hb
          have o1 := hid_f (off_copy (l := [g5, g4]) (by intro g hg; simp only [List.mem_cons, List.not_mem_nil, or_false] at hg; omega) hse)
          replace s4 := Nat.lt_of_lt_of_le s4 hb.size
          replace s5 := Nat.lt_of_lt_of_le s5 hb.size
          clear hse hb
          refine hK.out _ _ hT (fun _ => trivial) ?_
          clear hK K
          try simp only [Act.put, List.setIfInBounds_toArray, List.set_cons_zero, List.set_cons_succ]
          refine Until.wpU_ready (rs := [3]) (by kernel_rfl) (by simp) ?_
          refine (Until.AllU.cons (o := { dst := some 21, op := Op.call { callee := Callee.value (Operand.func 16), args := #[Operand.tmp 20], argTypes := #[25] }, type := 25, pos := "law.go:89", after := #[{ on := 2, ground := Ground.data }, { on := 1, ground := Ground.chain }], guard := none }) rfl (fun K hK => ?_) Until.AllU.nil)
          go_simp
          refine (copy_any X (five k2 x2 s2 (.slice an2 ln2 cn2) (.slice ai2 li2 ci2)) A0cda (VRep.keep hT.below _ _ hX.out) hsX.out).mono ?_
          rintro e A0cdab ⟨ky, xy, sy, any, lny, cny, aiy, liy, ciy, rfl, hse, hb⟩
          replace hT := hT.keep hb
          replace n4 := block_keep n4 hb
          replace n5 := block_keep n5 hb
          replace o1 := hid_f (off_keep o1.out hb)
          have o3 := hid_f (off_copy (l := [g5, g4]) (by intro g hg; simp only [List.mem_cons, List.not_mem_nil, or_false] at hg; omega) hse)
          replace s4 := Nat.lt_of_lt_of_le s4 hb.size
          replace s5 := Nat.lt_of_lt_of_le s5 hb.size
          clear hse hb
          refine hK.out _ _ hT (fun _ => trivial) ?_
          clear hK K
          try simp only [Act.put, List.setIfInBounds_toArray, List.set_cons_zero, List.set_cons_succ]
          obtain ⟨z0, z1, z2, z3, z4, zf⟩ := row_cells n4
          have zf0 := zf 0; have zf1 := zf 1; have zf2 := zf 2; have zf3 := zf 3; have zf4 := zf 4
          clear zf
          refine Until.wpU_ready (rs := [6]) (by kernel_rfl) (by simp) ?_
          refine (Until.AllU.cons (o := { dst := none, op := Op.store 25 (Operand.tmp 7) (Operand.tmp 19), type := 0, pos := "law.go:89", after := #[{ on := 4, ground := Ground.data }, { on := 1, ground := Ground.data }, { on := 3, ground := Ground.chain }, { on := 0, ground := Ground.phase }, { on := 1, ground := Ground.phase }, { on := 2, ground := Ground.textOnly Departure.lateStores }, { on := 3, ground := Ground.textOnly Departure.lateStoresUnsure }, { on := 4, ground := Ground.phase }, { on := 5, ground := Ground.phase }], guard := none }) rfl (fun K hK => ?_) Until.AllU.nil)
          go_simp
          have hT8 := hT.put l4 (.int .i64 kv) (.int .i64 xv) (.string sv) (.slice anv lnv cnv) (.slice aiv liv civ)
          refine hK.out _ _ hT8 (fun _ => trivial) ?_
          clear hK K
          try simp only [Act.put, List.setIfInBounds_toArray, List.set_cons_zero, List.set_cons_succ]
          clear z0 z1 z2 z3 z4 zf0 zf1 zf2 zf3 zf4
          obtain ⟨z0, z1, z2, z3, z4, zf⟩ := row_cells n5
          have hne2 := Ne.symm hne
          have zf0 := zf 0; have zf1 := zf 1; have zf2 := zf 2; have zf3 := zf 3; have zf4 := zf 4
          clear zf
          obtain ⟨b6, b7⟩ := two_end n4 n5 hne o1.out o3.out (by simp) (by simp)
          replace b6 := hid_f b6
          replace b7 := hid_f b7
          refine Until.wpU_ready (rs := [7]) (by kernel_rfl) (by simp) ?_
          refine (Until.AllU.cons (o := { dst := none, op := Op.store 25 (Operand.tmp 8) (Operand.tmp 21), type := 0, pos := "law.go:89", after := #[{ on := 5, ground := Ground.data }, { on := 3, ground := Ground.data }, { on := 6, ground := Ground.chain }, { on := 0, ground := Ground.phase }, { on := 1, ground := Ground.phase }, { on := 2, ground := Ground.phase }, { on := 3, ground := Ground.phase }, { on := 4, ground := Ground.phase }, { on := 5, ground := Ground.phase }, { on := 6, ground := Ground.phase }], guard := none }) rfl (fun K hK => ?_) Until.AllU.nil)
          go_simp
          have hT9 := hT8.put l5 (.int .i64 ky) (.int .i64 xy) (.string sy) (.slice any lny cny) (.slice aiy liy ciy)
          refine hK.out _ _ hT9 (fun _ => trivial) ?_
          clear hK K
          try simp only [Act.put, List.setIfInBounds_toArray, List.set_cons_zero, List.set_cons_succ]
          clear z0 z1 z2 z3 z4 zf0 zf1 zf2 zf3 zf4
          refine Until.wpU_done (by kernel_rfl) ?_ _
          refine NoPanic.normal ?_
          go_wp2_with fail
          go_meet
          exact ⟨_, _, _, _, _, _, _, _, _, _, _, _, _, _, _, _, _, _, _, _, rfl, rfl, hT9, b6, b7⟩
      · skip
        go_simp
        have n5 := heap_alloc_new A0 (.cells #[.int .i64 0, .int .i64 0, .string ⟨#[]⟩, .slice none 0 0, .slice none 0 0] 25)
        have l5 := hT.lt
        have hz : (A0.alloc (.cells #[.int .i64 0, .int .i64 0, .string ⟨#[]⟩, .slice none 0 0, .slice none 0 0] 25)).heap.size = A0.heap.size + 1 := World.size_alloc _ _
        replace hT := hT.keep ((Below.refl _ A0).alloc (Nat.le_refl _) (.cells #[.int .i64 0, .int .i64 0, .string ⟨#[]⟩, .slice none 0 0, .slice none 0 0] 25))
        refine hK.out _ _ hT (fun _ => trivial) ?_
        clear hK K
        try simp only [Act.put, List.setIfInBounds_toArray, List.set_cons_zero, List.set_cons_succ]
        generalize A0.alloc (.cells #[.int .i64 0, .int .i64 0, .string ⟨#[]⟩, .slice none 0 0, .slice none 0 0] 25) = A0d at hT n5 hz ⊢
        obtain ⟨g5, hq⟩ : ∃ g, A0.heap.size = g := ⟨_, rfl⟩
        rw [hq] at n5 l5 hz
        rw [hq]
        clear hq
        have s5 : g5 < A0d.heap.size := by omega
        clear hz
        refine Until.wpU_ready (rs := [1, 4]) (by kernel_rfl) (by simp) ?_
        refine (Until.AllU.cons (o := { dst := some 19, op := Op.call { callee := Callee.value (Operand.func 16), args := #[Operand.tmp 18], argTypes := #[25] }, type := 25, pos := "law.go:89", after := #[{ on := 0, ground := Ground.data }], guard := none }) rfl (fun K hK => ?_) (Until.AllU.cons (o := { dst := some 7, op := Op.alloc 25, type := 0, pos := "law.go:89", after := #[], guard := none }) rfl (fun K hK => ?_) Until.AllU.nil))
        · skip
          go_simp
          refine (copy_any V (five k1 x1 s1 (.slice an1 ln1 cn1) (.slice ai1 li1 ci1)) A0d (VRep.keep hT.below _ _ hV.out) hsV.out).mono ?_
          rintro e A0da ⟨kv, xv, sv, anv, lnv, cnv, aiv, liv, civ, rfl, hse, hb⟩
          replace hT := hT.keep hb
          replace n5 := block_keep n5 hb
          have o1 := hid_f (off_copy (l := [g5]) (by intro g hg; simp only [List.mem_cons, List.not_mem_nil, or_false] at hg; omega) hse)
          replace s5 := Nat.lt_of_lt_of_le s5 hb.size
          clear hse hb
          refine hK.out _ _ hT (fun _ => trivial) ?_
          clear hK K
          try simp only [Act.put, List.setIfInBounds_toArray, List.set_cons_zero, List.set_cons_succ]
          refine Until.wpU_ready (rs := [3, 4]) (by kernel_rfl) (by simp) ?_
          refine (Until.AllU.cons (o := { dst := some 21, op := Op.call { callee := Callee.value (Operand.func 16), args := #[Operand.tmp 20], argTypes := #[25] }, type := 25, pos := "law.go:89", after := #[{ on := 2, ground := Ground.data }, { on := 1, ground := Ground.chain }], guard := none }) rfl (fun K hK => ?_) (Until.AllU.cons (o := { dst := some 7, op := Op.alloc 25, type := 0, pos := "law.go:89", after := #[], guard := none }) rfl (fun K hK => ?_) Until.AllU.nil))
          · skip
            go_simp
            refine (copy_any X (five k2 x2 s2 (.slice an2 ln2 cn2) (.slice ai2 li2 ci2)) A0da (VRep.keep hT.below _ _ hX.out) hsX.out).mono ?_
            rintro e A0dab ⟨ky, xy, sy, any, lny, cny, aiy, liy, ciy, rfl, hse, hb⟩
            replace hT := hT.keep hb
            replace n5 := block_keep n5 hb
            replace o1 := hid_f (off_keep o1.out hb)
            have o3 := hid_f (off_copy (l := [g5]) (by intro g hg; simp only [List.mem_cons, List.not_mem_nil, or_false] at hg; omega) hse)
            replace s5 := Nat.lt_of_lt_of_le s5 hb.size
            clear hse hb
            refine hK.out _ _ hT (fun _ => trivial) ?_
            clear hK K
            try simp only [Act.put, List.setIfInBounds_toArray, List.set_cons_zero, List.set_cons_succ]
            refine Until.wpU_ready (rs := [4]) (by kernel_rfl) (by simp) ?_
            refine (Until.AllU.cons (o := { dst := some 7, op := Op.alloc 25, type := 0, pos := "law.go:89", after := #[], guard := none }) rfl (fun K hK => ?_) Until.AllU.nil)
            go_simp
            have n4 := heap_alloc_new A0dab (.cells #[.int .i64 0, .int .i64 0, .string ⟨#[]⟩, .slice none 0 0, .slice none 0 0] 25)
            have l4 := hT.lt
            have hz : (A0dab.alloc (.cells #[.int .i64 0, .int .i64 0, .string ⟨#[]⟩, .slice none 0 0, .slice none 0 0] 25)).heap.size = A0dab.heap.size + 1 := World.size_alloc _ _
            replace hT := hT.keep ((Below.refl _ A0dab).alloc (Nat.le_refl _) (.cells #[.int .i64 0, .int .i64 0, .string ⟨#[]⟩, .slice none 0 0, .slice none 0 0] 25))
            replace n5 := block_keep n5 ((Below.refl _ A0dab).alloc (Nat.le_refl _) (.cells #[.int .i64 0, .int .i64 0, .string ⟨#[]⟩, .slice none 0 0, .slice none 0 0] 25))
            replace o1 := hid_f (off_alloc o1.out (.cells #[.int .i64 0, .int .i64 0, .string ⟨#[]⟩, .slice none 0 0, .slice none 0 0] 25))
            replace o3 := hid_f (off_alloc o3.out (.cells #[.int .i64 0, .int .i64 0, .string ⟨#[]⟩, .slice none 0 0, .slice none 0 0] 25))
            refine hK.out _ _ hT (fun _ => trivial) ?_
            clear hK K
            try simp only [Act.put, List.setIfInBounds_toArray, List.set_cons_zero, List.set_cons_succ]
            generalize A0dab.alloc (.cells #[.int .i64 0, .int .i64 0, .string ⟨#[]⟩, .slice none 0 0, .slice none 0 0] 25) = A0dabc at hT n4 hz n5 o1 o3 ⊢
            obtain ⟨g4, hq⟩ : ∃ g, A0dab.heap.size = g := ⟨_, rfl⟩
            rw [hq] at n4 l4 hz o1 o3 s5
            rw [hq]
            clear hq
            have s4 : g4 < A0dabc.heap.size := by omega
            have hne : g4 ≠ g5 := by omega
            replace s5 : g5 < A0dabc.heap.size := by omega
            clear hz
            obtain ⟨z0, z1, z2, z3, z4, zf⟩ := row_cells n4
            have zf0 := zf 0; have zf1 := zf 1; have zf2 := zf 2; have zf3 := zf 3; have zf4 := zf 4
            clear zf
            refine Until.wpU_ready (rs := [6]) (by kernel_rfl) (by simp) ?_
            refine (Until.AllU.cons (o := { dst := none, op := Op.store 25 (Operand.tmp 7) (Operand.tmp 19), type := 0, pos := "law.go:89", after := #[{ on := 4, ground := Ground.data }, { on := 1, ground := Ground.data }, { on := 3, ground := Ground.chain }, { on := 0, ground := Ground.phase }, { on := 1, ground := Ground.phase }, { on := 2, ground := Ground.textOnly Departure.lateStores }, { on := 3, ground := Ground.textOnly Departure.lateStoresUnsure }, { on := 4, ground := Ground.phase }, { on := 5, ground := Ground.phase }], guard := none }) rfl (fun K hK => ?_) Until.AllU.nil)
            go_simp
            have hT8 := hT.put l4 (.int .i64 kv) (.int .i64 xv) (.string sv) (.slice anv lnv cnv) (.slice aiv liv civ)
            refine hK.out _ _ hT8 (fun _ => trivial) ?_
            clear hK K
            try simp only [Act.put, List.setIfInBounds_toArray, List.set_cons_zero, List.set_cons_succ]
            clear z0 z1 z2 z3 z4 zf0 zf1 zf2 zf3 zf4
            obtain ⟨z0, z1, z2, z3, z4, zf⟩ := row_cells n5
            have hne2 := Ne.symm hne
            have zf0 := zf 0; have zf1 := zf 1; have zf2 := zf 2; have zf3 := zf 3; have zf4 := zf 4
            clear zf
            obtain ⟨b6, b7⟩ := two_end n4 n5 hne o1.out o3.out (by simp) (by simp)
            replace b6 := hid_f b6
            replace b7 := hid_f b7
            refine Until.wpU_ready (rs := [7]) (by kernel_rfl) (by simp) ?_
            refine (Until.AllU.cons (o := { dst := none, op := Op.store 25 (Operand.tmp 8) (Operand.tmp 21), type := 0, pos := "law.go:89", after := #[{ on := 5, ground := Ground.data }, { on := 3, ground := Ground.data }, { on := 6, ground := Ground.chain }, { on := 0, ground := Ground.phase }, { on := 1, ground := Ground.phase }, { on := 2, ground := Ground.phase }, { on := 3, ground := Ground.phase }, { on := 4, ground := Ground.phase }, { on := 5, ground := Ground.phase }, { on := 6, ground := Ground.phase }], guard := none }) rfl (fun K hK => ?_) Until.AllU.nil)
            go_simp
            have hT9 := hT8.put l5 (.int .i64 ky) (.int .i64 xy) (.string sy) (.slice any lny cny) (.slice aiy liy ciy)
            refine hK.out _ _ hT9 (fun _ => trivial) ?_
            clear hK K
            try simp only [Act.put, List.setIfInBounds_toArray, List.set_cons_zero, List.set_cons_succ]
            clear z0 z1 z2 z3 z4 zf0 zf1 zf2 zf3 zf4
            refine Until.wpU_done (by kernel_rfl) ?_ _
            refine NoPanic.normal ?_
            go_wp2_with fail
            go_meet
            exact ⟨_, _, _, _, _, _, _, _, _, _, _, _, _, _, _, _, _, _, _, _, rfl, rfl, hT9, b6, b7⟩
          · skip
            go_simp
            have n4 := heap_alloc_new A0da (.cells #[.int .i64 0, .int .i64 0, .string ⟨#[]⟩, .slice none 0 0, .slice none 0 0] 25)
            have l4 := hT.lt
            have hz : (A0da.alloc (.cells #[.int .i64 0, .int .i64 0, .string ⟨#[]⟩, .slice none 0 0, .slice none 0 0] 25)).heap.size = A0da.heap.size + 1 := World.size_alloc _ _
            replace hT := hT.keep ((Below.refl _ A0da).alloc (Nat.le_refl _) (.cells #[.int .i64 0, .int .i64 0, .string ⟨#[]⟩, .slice none 0 0, .slice none 0 0] 25))
            replace n5 := block_keep n5 ((Below.refl _ A0da).alloc (Nat.le_refl _) (.cells #[.int .i64 0, .int .i64 0, .string ⟨#[]⟩, .slice none 0 0, .slice none 0 0] 25))
            replace o1 := hid_f (off_alloc o1.out (.cells #[.int .i64 0, .int .i64 0, .string ⟨#[]⟩, .slice none 0 0, .slice none 0 0] 25))
            refine hK.out _ _ hT (fun _ => trivial) ?_
            clear hK K
            try simp only [Act.put, List.setIfInBounds_toArray, List.set_cons_zero, List.set_cons_succ]
            generalize A0da.alloc (.cells #[.int .i64 0, .int .i64 0, .string ⟨#[]⟩, .slice none 0 0, .slice none 0 0] 25) = A0dac at hT n4 hz n5 o1 ⊢
            obtain ⟨g4, hq⟩ : ∃ g, A0da.heap.size = g := ⟨_, rfl⟩
            rw [hq] at n4 l4 hz o1 s5
            rw [hq]
            clear hq
            have s4 : g4 < A0dac.heap.size := by omega
            have hne : g4 ≠ g5 := by omega
            replace s5 : g5 < A0dac.heap.size := by omega
            clear hz
            refine Until.wpU_ready (rs := [3]) (by kernel_rfl) (by simp) ?_
            refine (Until.AllU.cons (o := { dst := some 21, op := Op.call { callee := Callee.value (Operand.func 16), args := #[Operand.tmp 20], argTypes := #[25] }, type := 25, pos := "law.go:89", after := #[{ on := 2, ground := Ground.data }, { on := 1, ground := Ground.chain }], guard := none }) rfl (fun K hK => ?_) Until.AllU.nil)
            go_simp
            refine (copy_any X (five k2 x2 s2 (.slice an2 ln2 cn2) (.slice ai2 li2 ci2)) A0dac (VRep.keep hT.below _ _ hX.out) hsX.out).mono ?_
            rintro e A0dacb ⟨ky, xy, sy, any, lny, cny, aiy, liy, ciy, rfl, hse, hb⟩
            replace hT := hT.keep hb
            replace n5 := block_keep n5 hb
            replace o1 := hid_f (off_keep o1.out hb)
            replace n4 := block_keep n4 hb
            have o3 := hid_f (off_copy (l := [g4, g5]) (by intro g hg; simp only [List.mem_cons, List.not_mem_nil, or_false] at hg; omega) hse)
            replace s5 := Nat.lt_of_lt_of_le s5 hb.size
            replace s4 := Nat.lt_of_lt_of_le s4 hb.size
            clear hse hb
            refine hK.out _ _ hT (fun _ => trivial) ?_
            clear hK K
            try simp only [Act.put, List.setIfInBounds_toArray, List.set_cons_zero, List.set_cons_succ]
            obtain ⟨z0, z1, z2, z3, z4, zf⟩ := row_cells n4
            have zf0 := zf 0; have zf1 := zf 1; have zf2 := zf 2; have zf3 := zf 3; have zf4 := zf 4
            clear zf
            refine Until.wpU_ready (rs := [6]) (by kernel_rfl) (by simp) ?_
            refine (Until.AllU.cons (o := { dst := none, op := Op.store 25 (Operand.tmp 7) (Operand.tmp 19), type := 0, pos := "law.go:89", after := #[{ on := 4, ground := Ground.data }, { on := 1, ground := Ground.data }, { on := 3, ground := Ground.chain }, { on := 0, ground := Ground.phase }, { on := 1, ground := Ground.phase }, { on := 2, ground := Ground.textOnly Departure.lateStores }, { on := 3, ground := Ground.textOnly Departure.lateStoresUnsure }, { on := 4, ground := Ground.phase }, { on := 5, ground := Ground.phase }], guard := none }) rfl (fun K hK => ?_) Until.AllU.nil)
            go_simp
            have hT8 := hT.put l4 (.int .i64 kv) (.int .i64 xv) (.string sv) (.slice anv lnv cnv) (.slice aiv liv civ)
            refine hK.out _ _ hT8 (fun _ => trivial) ?_
            clear hK K
            try simp only [Act.put, List.setIfInBounds_toArray, List.set_cons_zero, List.set_cons_succ]
            clear z0 z1 z2 z3 z4 zf0 zf1 zf2 zf3 zf4
            obtain ⟨z0, z1, z2, z3, z4, zf⟩ := row_cells n5
            have hne2 := Ne.symm hne
            have zf0 := zf 0; have zf1 := zf 1; have zf2 := zf 2; have zf3 := zf 3; have zf4 := zf 4
            clear zf
            obtain ⟨b6, b7⟩ := two_end n4 n5 hne o1.out o3.out (by simp) (by simp)
            replace b6 := hid_f b6
            replace b7 := hid_f b7
            refine Until.wpU_ready (rs := [7]) (by kernel_rfl) (by simp) ?_
            refine (Until.AllU.cons (o := { dst := none, op := Op.store 25 (Operand.tmp 8) (Operand.tmp 21), type := 0, pos := "law.go:89", after := #[{ on := 5, ground := Ground.data }, { on := 3, ground := Ground.data }, { on := 6, ground := Ground.chain }, { on := 0, ground := Ground.phase }, { on := 1, ground := Ground.phase }, { on := 2, ground := Ground.phase }, { on := 3, ground := Ground.phase }, { on := 4, ground := Ground.phase }, { on := 5, ground := Ground.phase }, { on := 6, ground := Ground.phase }], guard := none }) rfl (fun K hK => ?_) Until.AllU.nil)
            go_simp
            have hT9 := hT8.put l5 (.int .i64 ky) (.int .i64 xy) (.string sy) (.slice any lny cny) (.slice aiy liy ciy)
            refine hK.out _ _ hT9 (fun _ => trivial) ?_
            clear hK K
            try simp only [Act.put, List.setIfInBounds_toArray, List.set_cons_zero, List.set_cons_succ]
            clear z0 z1 z2 z3 z4 zf0 zf1 zf2 zf3 zf4
            refine Until.wpU_done (by kernel_rfl) ?_ _
            refine NoPanic.normal ?_
            go_wp2_with fail
            go_meet
            exact ⟨_, _, _, _, _, _, _, _, _, _, _, _, _, _, _, _, _, _, _, _, rfl, rfl, hT9, b6, b7⟩
        · skip
          go_simp
          have n4 := heap_alloc_new A0d (.cells #[.int .i64 0, .int .i64 0, .string ⟨#[]⟩, .slice none 0 0, .slice none 0 0] 25)
          have l4 := hT.lt
          have hz : (A0d.alloc (.cells #[.int .i64 0, .int .i64 0, .string ⟨#[]⟩, .slice none 0 0, .slice none 0 0] 25)).heap.size = A0d.heap.size + 1 := World.size_alloc _ _
          replace hT := hT.keep ((Below.refl _ A0d).alloc (Nat.le_refl _) (.cells #[.int .i64 0, .int .i64 0, .string ⟨#[]⟩, .slice none 0 0, .slice none 0 0] 25))
          replace n5 := block_keep n5 ((Below.refl _ A0d).alloc (Nat.le_refl _) (.cells #[.int .i64 0, .int .i64 0, .string ⟨#[]⟩, .slice none 0 0, .slice none 0 0] 25))
          refine hK.out _ _ hT (fun _ => trivial) ?_
          clear hK K
          try simp only [Act.put, List.setIfInBounds_toArray, List.set_cons_zero, List.set_cons_succ]
          generalize A0d.alloc (.cells #[.int .i64 0, .int .i64 0, .string ⟨#[]⟩, .slice none 0 0, .slice none 0 0] 25) = A0dc at hT n4 hz n5 ⊢
          obtain ⟨g4, hq⟩ : ∃ g, A0d.heap.size = g := ⟨_, rfl⟩
          rw [hq] at n4 l4 hz s5
          rw [hq]
          clear hq
          have s4 : g4 < A0dc.heap.size := by omega
          have hne : g4 ≠ g5 := by omega
          replace s5 : g5 < A0dc.heap.size := by omega
          clear hz
          refine Until.wpU_ready (rs := [1]) (by kernel_rfl) (by simp) ?_
          refine (Until.AllU.cons (o := { dst := some 19, op := Op.call { callee := Callee.value (Operand.func 16), args := #[Operand.tmp 18], argTypes := #[25] }, type := 25, pos := "law.go:89", after := #[{ on := 0, ground := Ground.data }], guard := none }) rfl (fun K hK => ?_) Until.AllU.nil)
          go_simp
          refine (copy_any V (five k1 x1 s1 (.slice an1 ln1 cn1) (.slice ai1 li1 ci1)) A0dc (VRep.keep hT.below _ _ hV.out) hsV.out).mono ?_
          rintro e A0dca ⟨kv, xv, sv, anv, lnv, cnv, aiv, liv, civ, rfl, hse, hb⟩
          replace hT := hT.keep hb
          replace n5 := block_keep n5 hb
          replace n4 := block_keep n4 hb
          have o1 := hid_f (off_copy (l := [g4, g5]) (by intro g hg; simp only [List.mem_cons, List.not_mem_nil, or_false] at hg; omega) hse)
          replace s5 := Nat.lt_of_lt_of_le s5 hb.size
          replace s4 := Nat.lt_of_lt_of_le s4 hb.size
          clear hse hb
          refine hK.out _ _ hT (fun _ => trivial) ?_
          clear hK K
          try simp only [Act.put, List.setIfInBounds_toArray, List.set_cons_zero, List.set_cons_succ]
          refine Until.wpU_ready (rs := [3]) (by kernel_rfl) (by simp) ?_
          refine (Until.AllU.cons (o := { dst := some 21, op := Op.call { callee := Callee.value (Operand.func 16), args := #[Operand.tmp 20], argTypes := #[25] }, type := 25, pos := "law.go:89", after := #[{ on := 2, ground := Ground.data }, { on := 1, ground := Ground.chain }], guard := none }) rfl (fun K hK => ?_) Until.AllU.nil)
          go_simp
          refine (copy_any X (five k2 x2 s2 (.slice an2 ln2 cn2) (.slice ai2 li2 ci2)) A0dca (VRep.keep hT.below _ _ hX.out) hsX.out).mono ?_
          rintro e A0dcab ⟨ky, xy, sy, any, lny, cny, aiy, liy, ciy, rfl, hse, hb⟩
          replace hT := hT.keep hb
          replace n5 := block_keep n5 hb
          replace n4 := block_keep n4 hb
          replace o1 := hid_f (off_keep o1.out hb)
          have o3 := hid_f (off_copy (l := [g4, g5]) (by intro g hg; simp only [List.mem_cons, List.not_mem_nil, or_false] at hg; omega) hse)
          replace s5 := Nat.lt_of_lt_of_le s5 hb.size
          replace s4 := Nat.lt_of_lt_of_le s4 hb.size
          clear hse hb
          refine hK.out _ _ hT (fun _ => trivial) ?_
          clear hK K
          try simp only [Act.put, List.setIfInBounds_toArray, List.set_cons_zero, List.set_cons_succ]
          obtain ⟨z0, z1, z2, z3, z4, zf⟩ := row_cells n4
          have zf0 := zf 0; have zf1 := zf 1; have zf2 := zf 2; have zf3 := zf 3; have zf4 := zf 4
          clear zf
          refine Until.wpU_ready (rs := [6]) (by kernel_rfl) (by simp) ?_
          refine (Until.AllU.cons (o := { dst := none, op := Op.store 25 (Operand.tmp 7) (Operand.tmp 19), type := 0, pos := "law.go:89", after := #[{ on := 4, ground := Ground.data }, { on := 1, ground := Ground.data }, { on := 3, ground := Ground.chain }, { on := 0, ground := Ground.phase }, { on := 1, ground := Ground.phase }, { on := 2, ground := Ground.textOnly Departure.lateStores }, { on := 3, ground := Ground.textOnly Departure.lateStoresUnsure }, { on := 4, ground := Ground.phase }, { on := 5, ground := Ground.phase }], guard := none }) rfl (fun K hK => ?_) Until.AllU.nil)
          go_simp
          have hT8 := hT.put l4 (.int .i64 kv) (.int .i64 xv) (.string sv) (.slice anv lnv cnv) (.slice aiv liv civ)
          refine hK.out _ _ hT8 (fun _ => trivial) ?_
          clear hK K
          try simp only [Act.put, List.setIfInBounds_toArray, List.set_cons_zero, List.set_cons_succ]
          clear z0 z1 z2 z3 z4 zf0 zf1 zf2 zf3 zf4
          obtain ⟨z0, z1, z2, z3, z4, zf⟩ := row_cells n5
          have hne2 := Ne.symm hne
          have zf0 := zf 0; have zf1 := zf 1; have zf2 := zf 2; have zf3 := zf 3; have zf4 := zf 4
          clear zf
          obtain ⟨b6, b7⟩ := two_end n4 n5 hne o1.out o3.out (by simp) (by simp)
          replace b6 := hid_f b6
          replace b7 := hid_f b7
          refine Until.wpU_ready (rs := [7]) (by kernel_rfl) (by simp) ?_
          refine (Until.AllU.cons (o := { dst := none, op := Op.store 25 (Operand.tmp 8) (Operand.tmp 21), type := 0, pos := "law.go:89", after := #[{ on := 5, ground := Ground.data }, { on := 3, ground := Ground.data }, { on := 6, ground := Ground.chain }, { on := 0, ground := Ground.phase }, { on := 1, ground := Ground.phase }, { on := 2, ground := Ground.phase }, { on := 3, ground := Ground.phase }, { on := 4, ground := Ground.phase }, { on := 5, ground := Ground.phase }, { on := 6, ground := Ground.phase }], guard := none }) rfl (fun K hK => ?_) Until.AllU.nil)
          go_simp
          have hT9 := hT8.put l5 (.int .i64 ky) (.int .i64 xy) (.string sy) (.slice any lny cny) (.slice aiy liy ciy)
          refine hK.out _ _ hT9 (fun _ => trivial) ?_
          clear hK K
          try simp only [Act.put, List.setIfInBounds_toArray, List.set_cons_zero, List.set_cons_succ]
          clear z0 z1 z2 z3 z4 zf0 zf1 zf2 zf3 zf4
          refine Until.wpU_done (by kernel_rfl) ?_ _
          refine NoPanic.normal ?_
          go_wp2_with fail
          go_meet
          exact ⟨_, _, _, _, _, _, _, _, _, _, _, _, _, _, _, _, _, _, _, _, rfl, rfl, hT9, b6, b7⟩
    case rest =>
      obtain ⟨g4, g5, kv, xv, sv, anv, lnv, cnv, aiv, liv, civ, ky, xy, sy, any, lny, cny, aiy, liy, ciy, rfl, rfl, hT, b4, b5⟩ := hcut
      obtain ⟨a0, a1, a2, a3, a4, -⟩ := row_cells b4.out.1
      have call := hid_e (psort_v V kv xv sv anv lnv cnv aiv liv civ _ b4.out.2 hsV.out)
      go_wp2_with fail
      refine call.out.mono ?_
      rintro e W4 ⟨hb, h4⟩
      clear call a0 a1 a2 a3 a4
      replace hT := hT.keep hb
      replace b4 := hid_e (b4.out.keep hb)
      replace b5 := hid_e (b5.out.keep hb)
      clear hb
      have call := hid_e (fun W (hW : Below W4.heap.size W4 W) => rpsort_v V k1 x1 s1 an1 ln1 cn1 ai1 li1 ci1 W (VRep.keep (hT.below.trans (hW.mono hT.below.size)) _ _ hV.out) hsV.out)
      have hpo := hid_e (parseS_ok hsV.out)
      obtain ⟨⟨rc, ts⟩, hR⟩ : ∃ R, Hid (parseS V = R) := ⟨_, rfl⟩
      rw [hR.out] at h4 call hpo
      clear hR
      simp only at h4 hpo
      rcases h4 with ⟨rfl, sb, rfl, hsort⟩ | ⟨hne, rfl⟩
      · skip
        obtain ⟨c0, c1, c2, c3, c4, -⟩ := row_cells hT.box1
        go_wp2_with fail
        refine (call.out _ (Below.refl _ _)).mono ?_
        rintro e W5 ⟨hb, h5⟩
        clear call c0 c1 c2 c3 c4
        simp only at h5
        obtain ⟨ka, kc, rfl, hkeys⟩ : ∃ a c, e = .returned (.tuple #[.slice a ts.length c, .int .i64 0]) ∧ KeysAt wayE W5 a ts := by rcases h5 with ⟨-, h⟩ | ⟨h, -⟩; exact h; exact absurd rfl h
        replace hsort := hid_e (hsort.keep hb)
        replace hkeys := hid_e hkeys
        clear h5
        replace hT := hT.keep hb
        replace b4 := hid_e (b4.out.keep hb)
        replace b5 := hid_e (b5.out.keep hb)
        clear hb
        obtain ⟨a0, a1, a2, a3, a4, -⟩ := row_cells b4.out.1
        obtain ⟨c0, c1, c2, c3, c4, -⟩ := row_cells hT.box1
        have eq1 := hid_e (equal_two V kv xv sv anv lnv cnv aiv liv civ k1 x1 s1 an1 ln1 cn1 ai1 li1 ci1 W5 b4.out.2 (VRep.keep hT.below _ _ hV.out))
        obtain ⟨tm, htm⟩ : ∃ tm, Hid (ts.length = tm) := ⟨_, rfl⟩
        rw [htm.out]
        go_wp2_with (first | (go_at_call 19; refine (num6 _ _).mono ?_; rintro e w9 ⟨rfl, rfl⟩) | fail)
        refine eq1.out.mono ?_
        rintro e W6 ⟨rfl, hb⟩
        clear eq1 a0 a1 a2 a3 a4 c0 c1 c2 c3 c4
        replace hT := hT.keep hb
        replace b4 := hid_e (b4.out.keep hb)
        replace b5 := hid_e (b5.out.keep hb)
        replace hsort := hid_e (hsort.out.keep hb)
        replace hkeys := hid_e (hkeys.out.keep hb)
        clear hb
        go_wp2_with fail
        refine (live_a _).mono ?_
        rintro e W7 ⟨rfl, hb⟩
        replace hT := hT.keep hb
        replace b4 := hid_e (b4.out.keep hb)
        replace b5 := hid_e (b5.out.keep hb)
        replace hsort := hid_e (hsort.out.keep hb)
        replace hkeys := hid_e (hkeys.out.keep hb)
        clear hb
        obtain ⟨e0, e1, e2, e3, e4, -⟩ := row_cells b5.out.1
        obtain ⟨e5, e6, e7, e8, e9, -⟩ := row_cells hT.box2
        replace e0 : W7.drew.cell? ⟨g5, 0, none⟩ = some (.int .i64 ky) := e0
        replace e1 : W7.drew.cell? ⟨g5, 1, none⟩ = some (.int .i64 xy) := e1
        replace e2 : W7.drew.cell? ⟨g5, 2, none⟩ = some (.string sy) := e2
        replace e3 : W7.drew.cell? ⟨g5, 3, none⟩ = some (.slice any lny cny) := e3
        replace e4 : W7.drew.cell? ⟨g5, 4, none⟩ = some (.slice aiy liy ciy) := e4
        replace e5 : W7.drew.cell? ⟨w.heap.size + 1, 0, none⟩ = some (.int .i64 k2) := e5
        replace e6 : W7.drew.cell? ⟨w.heap.size + 1, 1, none⟩ = some (.int .i64 x2) := e6
        replace e7 : W7.drew.cell? ⟨w.heap.size + 1, 2, none⟩ = some (.string s2) := e7
        replace e8 : W7.drew.cell? ⟨w.heap.size + 1, 3, none⟩ = some (.slice an2 ln2 cn2) := e8
        replace e9 : W7.drew.cell? ⟨w.heap.size + 1, 4, none⟩ = some (.slice ai2 li2 ci2) := e9
        have hbd : Below W7.heap.size W7 W7.drew := ⟨rfl, rfl, rfl, Nat.le_refl _, fun _ _ => rfl⟩
        replace hT := hid_e (hT.keep hbd)
        replace b5 := hid_e (b5.out.keep hbd)
        replace hsort := hid_e (hsort.out.keep hbd)
        replace hkeys := hid_e (hkeys.out.keep hbd)
        clear hbd b4
        obtain ⟨sa, sc, hs0, hsk⟩ := hsort.out.keys
        rw [htm.out] at hs0
        replace hs0 := hid_e hs0
        replace hsk := hid_e hsk
        clear hsort
        go_upto_region 10 with fail
        go_region_held3 (fun W => W.cell? ⟨g5, 0, none⟩ = some (.int .i64 ky) ∧ W.cell? ⟨g5, 1, none⟩ = some (.int .i64 xy) ∧ W.cell? ⟨g5, 2, none⟩ = some (.string sy) ∧ W.cell? ⟨g5, 3, none⟩ = some (.slice any lny cny) ∧ W.cell? ⟨g5, 4, none⟩ = some (.slice aiy liy ciy) ∧ W.cell? ⟨w.heap.size + 1, 0, none⟩ = some (.int .i64 k2) ∧ W.cell? ⟨w.heap.size + 1, 1, none⟩ = some (.int .i64 x2) ∧ W.cell? ⟨w.heap.size + 1, 2, none⟩ = some (.string s2) ∧ W.cell? ⟨w.heap.size + 1, 3, none⟩ = some (.slice an2 ln2 cn2) ∧ W.cell? ⟨w.heap.size + 1, 4, none⟩ = some (.slice ai2 li2 ci2)) (go_keep) (first
          | (go_at_call 12; refine (skey_any ts i sb tm sc sa X ky xy sy any lny cny aiy liy ciy _ htm.out hs0.out hsk.out hpo.out.1 b5.out.2 hpX.out hsX.out).mono ?_; rintro e Y1 ⟨kp, xp, sp, anp, lnp, cnp, aip, lip, cip, rfl, hv1, hy1⟩; have f0 := stay hy1 e0; have f1 := stay hy1 e1; have f2 := stay hy1 e2; have f3 := stay hy1 e3; have f4 := stay hy1 e4; have f5 := stay hy1 e5; have f6 := stay hy1 e6; have f7 := stay hy1 e7; have f8 := stay hy1 e8; have f9 := stay hy1 e9; have hT1 := hid_e (hT.out.keep hy1); have b51 := hid_e (b5.out.keep hy1); have hk1 := hid_e (hkeys.out.keep hy1); replace hv1 := hid_e hv1; clear hy1 hT b5 hkeys; clear e0 e1 e2 e3 e4 e5 e6 e7 e8 e9)
          | (go_at_call 20; refine (rof_any ts i tm kc ka X k2 x2 s2 an2 ln2 cn2 ai2 li2 ci2 Y1 htm.out hk1.out hpo.out.1 (VRep.keep hT1.out.below _ _ hX.out) hpX.out hsX.out).mono ?_; rintro e Y2 ⟨kq, xq, sq, anq, lnq, cnq, aiq, liq, ciq, rfl, hv2, hy2⟩; have g0 := stay hy2 f0; have g1 := stay hy2 f1; have g2 := stay hy2 f2; have g3 := stay hy2 f3; have g4 := stay hy2 f4; have g5 := stay hy2 f5; have g6 := stay hy2 f6; have g7 := stay hy2 f7; have g8 := stay hy2 f8; have g9 := stay hy2 f9; have hT2 := hid_e (hT1.out.keep hy2); have b52 := hid_e (b51.out.keep hy2); have hv1' := hid_e (VRep.keep hy2 _ _ hv1.out); replace hv2 := hid_e hv2; clear hy2 hT1 b51 hk1 hv1; clear f0 f1 f2 f3 f4 f5 f6 f7 f8 f9)
          | (go_at_call 10; refine (equal_two _ kp xp sp anp lnp cnp aip lip cip kq xq sq anq lnq cnq aiq liq ciq Y2 hv1'.out hv2.out).mono ?_; rintro e Y3 ⟨rfl, hy3⟩; have h0 := stay hy3 g0; have h1 := stay hy3 g1; have h2 := stay hy3 g2; have h3 := stay hy3 g3; have h4 := stay hy3 g4; have h5 := stay hy3 g5; have h6 := stay hy3 g6; have h7 := stay hy3 g7; have h8 := stay hy3 g8; have h9 := stay hy3 g9; have hT3 := hid_e (hT2.out.keep hy3); have b53 := hid_e (b52.out.keep hy3); clear hy3 hT2 b52 hv1' hv2; clear g0 g1 g2 g3 g4 g5 g6 g7 g8 g9)
          | (go_at_call 10; refine (equal_two X ky xy sy any lny cny aiy liy ciy k2 x2 s2 an2 ln2 cn2 ai2 li2 ci2 Y3 b53.out.2 (VRep.keep hT3.out.below _ _ hX.out)).mono ?_; rintro e Y4 ⟨rfl, hy4⟩; have j0 := stay hy4 h0; have j1 := stay hy4 h1; have j2 := stay hy4 h2; have j3 := stay hy4 h3; have j4 := stay hy4 h4; have j5 := stay hy4 h5; have j6 := stay hy4 h6; have j7 := stay hy4 h7; have j8 := stay hy4 h8; have j9 := stay hy4 h9; have hT4 := hid_e (hT3.out.keep hy4); clear hy4 hT3 b53; clear h0 h1 h2 h3 h4 h5 h6 h7 h8 h9))
        all_goals
          go_wp2_with fail
          go_ret
          exact ⟨rfl, hT4.out.below⟩
      · skip
        obtain ⟨c0, c1, c2, c3, c4, -⟩ := row_cells hT.box1
        go_wp2_with fail
        refine (call.out _ (Below.refl _ _)).mono ?_
        rintro e W5 ⟨hb, h5⟩
        clear call c0 c1 c2 c3 c4
        simp only at h5
        obtain rfl : e = .returned (.tuple #[.slice none 0 0, .int .i64 rc]) := by rcases h5 with ⟨h, -⟩ | ⟨-, h⟩; exact absurd h hne; exact h
        clear h5
        replace hT := hT.keep hb
        replace b4 := hid_e (b4.out.keep hb)
        replace b5 := hid_e (b5.out.keep hb)
        clear hb
        obtain ⟨a0, a1, a2, a3, a4, -⟩ := row_cells b4.out.1
        obtain ⟨c0, c1, c2, c3, c4, -⟩ := row_cells hT.box1
        have eq1 := hid_e (equal_two V kv xv sv anv lnv cnv aiv liv civ k1 x1 s1 an1 ln1 cn1 ai1 li1 ci1 W5 b4.out.2 (VRep.keep hT.below _ _ hV.out))
        have e1 : (rc != rc) = false := by simp
        have e2 : (rc != 0) = true := by simpa using hne
        clear hne
        go_wp2_with (first | (go_at_call 19; refine (num6 _ _).mono ?_; rintro e w9 ⟨rfl, rfl⟩) | fail)
        refine eq1.out.mono ?_
        rintro e W6 ⟨rfl, hb⟩
        clear eq1 a0 a1 a2 a3 a4 c0 c1 c2 c3 c4
        replace hT := hT.keep hb
        replace b4 := hid_e (b4.out.keep hb)
        replace b5 := hid_e (b5.out.keep hb)
        clear hb
        go_wp2_with fail
        refine (live_a _).mono ?_
        rintro e W7 ⟨rfl, hb⟩
        replace hT := hT.keep hb
        replace b4 := hid_e (b4.out.keep hb)
        replace b5 := hid_e (b5.out.keep hb)
        clear hb
        go_wp2_with fail
        go_ret
        exact ⟨rfl, hT.below⟩
end Go.Proofs.YtgigikcopedoeaaGreat.Tree
