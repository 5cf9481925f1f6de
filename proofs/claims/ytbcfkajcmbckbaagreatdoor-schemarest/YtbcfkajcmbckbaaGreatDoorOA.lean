import Derived.Test.YtbcfkajcmbckbaaGreatDoorLG
import Derived.Test.YtbcfkajcmbckbaaGreatDoorLJ
import Derived.Test.YtbcfkajcmbckbaaGreatDoorTJ
import Derived.Test.YtbcfkajcmbckbaaGreatDoorKV
import Derived.Test.YtbcfkajcmbckbaaGreatDoorKN
/-! The law's keeps, of every schema and every value. -/
namespace Go.Proofs.YtbcfkajcmbckbaaGreatDoor
open Go Go.RowKit

theorem good_of {t : Tr} (h : parseZ t = 0) : GoodD 0 t ∧ Good t ∧ NamesT t := by
  unfold parseZ at h
  by_cases hc : checkT 0 t = 0
  · rw [if_pos hc] at h
    exact ⟨⟨0, h⟩, ⟨0, 0, h⟩, names_of 0 t hc⟩
  · rw [if_neg hc] at h
    exact absurd h hc
/-- What the law's keeps answers. -/
def KLaw (t x : Tr) (e : Ending) : Prop := e = .returned (.tuple #[.bool (decide (parseZ t = 0) && keepsT t x), .bool (decide (parseZ t = 0))])
theorem KLaw.no {t x : Tr} (h : parseZ t ≠ 0) : KLaw t x (.returned (.tuple #[.bool false, .bool false])) := by
  unfold KLaw; rw [decide_eq_false h]; rfl
theorem KLaw.yes {t x : Tr} {k : Bool} (h : parseZ t = 0) (hk : keepsT t x = k) : KLaw t x (.returned (.tuple #[.bool k, .bool true])) := by
  unfold KLaw; rw [decide_eq_true h, hk]; rfl
set_option maxHeartbeats 4000000 in
set_option maxRecDepth 100000 in
theorem keeps_any (t x : Tr) (u v : V5) (w : World) (hIt : ItoaIn w) (hV : Hid (VRep w t u.cs)) (hS : Hid (SmallT t)) (hX : Hid (VRep w x v.cs)) (hSX : Hid (SmallT x)) (hE : Hid (EnvL w)) :
    Calls Tryz.prog 9 #[u.v, v.v] w fun e w' => KLaw t x e ∧ Below w.heap.size w w' := by
  have hnum := fun z W => hid_of (num_any z W)
  have hnb := fun z W => hid_of ((num_any z W).mono fun e w' h => (⟨h.1, by rw [h.2]; exact Below.refl _ _⟩ : e = .returned (.int .i64 z) ∧ Below W.heap.size W w'))
  have hb0 := hid_of ((Below.refl _ w).alloc (Nat.le_refl _) (u.obj 25))
  have hb1 := hid_of (hb0.out.alloc hb0.out.size (v.obj 25))
  have n1 := hid_of (new1 w (u.obj 25) (v.obj 25))
  have n2 := hid_of (new2 w (u.obj 25) (v.obj 25))
  have hE1 := hE.out.keep hb1.out
  have hps := hid_of (parse_any t u ((w.alloc (u.obj 25)).alloc (v.obj 25)) (hid_of (VRep.keep hb1.out _ _ hV.out)) hS (hid_of hE1.utf) (hid_of hE1.tys) hE1.big)
  have hX1 := hid_of (VRep.keep hb1.out _ _ hX.out)
  have hXb := hb1
  obtain ⟨x0, x1, x2, x3, x4, -⟩ := row_cells n1.out
  clear hE1 hb0
  unfold V5.obj at *
  unfold V5.v at *
  go_enter Tryz.func9, Tryz.ntmps9
  go_wp2_with fail
  generalize (w.alloc (.cells #[.int .i64 u.k, .int .i64 u.x, .string u.s, .slice u.an u.ln u.cn, .slice u.ai u.li u.ci] 25)).alloc (.cells #[.int .i64 v.k, .int .i64 v.x, .string v.s, .slice v.an v.ln v.cn, .slice v.ai v.li v.ci] 25) = X at *
  refine hps.out.mono ?_
  rintro e W3 hP
  obtain ⟨p, rfl, hp0, hp1⟩ := hP.ret
  have hB3 := hid_of (hb1.out.trans (hP.below.mono hb1.out.size))
  have m2 := hid_of (block_keep n2.out hP.below)
  have hX3 := hid_of (VRep.keep hP.below _ _ hX1.out)
  have hXW := hid_of hP.below
  replace hp0 := hid_of hp0; replace hp1 := hid_of hp1
  clear hP hps x0 x1 x2 x3 x4 n1 n2
  by_cases hz : parseZ t = 0
  rotate_left
  · obtain rfl := hp0.out hz
    have hd : Hid (KLaw t x (.returned (.tuple #[.bool false, .bool false]))) := KLaw.no hz
    obtain ⟨z, hzz⟩ : ∃ z, Hid (parseZ t = z) := ⟨_, rfl⟩
    have hb : (z != 0) = true := by rw [← hzz.out]; simpa using hz
    rw [hzz.out]
    clear hz hp0 hp1
    go_wp2_with fail
    refine (hnum _ _).out.mono ?_
    rintro e Z ⟨rfl, hZ⟩
    obtain rfl : W3 = Z := hZ.symm
    clear hZ
    go_wp2_with fail
    go_ret2
    exact ⟨hd.out, hB3.out⟩
  obtain ⟨hg0, hg, hnm⟩ := good_of hz
  obtain ⟨sb, a, c, rfl, hsz, hsc, hRow⟩ := hp1.out hz
  have s0 : W3.cell? ⟨sb, 0, none⟩ = some (.slice a t.items.length c) := cell_of hsc 0
  have hft := hid_of (fault_any X (hIt.later hXb.out) t hg0 hnm hS.out x sb a c _ v W3 s0 hRow hXW.out hX3.out hSX.out)
  have hcv := hid_of (fun W (hW : Below W3.heap.size W3 W) => check_every X t (keeps_all X t hg hnm hS.out) sb a c _ x v W (stay hW s0) (hRow.later hW) (hXW.out.trans (hW.mono hXW.out.size)) (VRep.keep hW _ _ hX3.out) hSX.out)
  have hd : Hid (∀ k, keepsT t x = k → KLaw t x (.returned (.tuple #[.bool k, .bool true]))) := fun k hk => KLaw.yes hz hk
  rw [hz]
  clear hz hp0 hp1 hsc hRow hXW hX3 hX1 s0 hsz
  unfold V5.v at hft hcv
  obtain ⟨y0, y1, y2, y3, y4, -⟩ := row_cells m2.out
  obtain ⟨kz, hkz⟩ : ∃ kz, Hid (keepsT t x = kz) := ⟨_, rfl⟩
  rw [hkz.out] at hft hcv
  replace hd := hid_of (hd.out kz hkz.out)
  go_wp2_with fail
  refine (hnum _ _).out.mono ?_
  rintro e Z ⟨rfl, hZ⟩
  obtain rfl : W3 = Z := hZ.symm
  clear hZ
  go_wp2_with fail
  refine hft.out.mono ?_
  rintro e W6 ⟨⟨fa, fl, fc, fs, rfl⟩, hb6⟩
  have hB6 := hid_of (hB3.out.trans (hb6.mono hB3.out.size))
  replace hcv := hid_of (fun W (hW : Below W6.heap.size W6 W) => hcv.out W (hb6.trans (hW.mono hb6.size)))
  replace y0 := stay hb6 y0; replace y1 := stay hb6 y1; replace y2 := stay hb6 y2; replace y3 := stay hb6 y3; replace y4 := stay hb6 y4
  clear hb6 hft hB3 m2 hkz
  cases kz
  · have hck : ∀ W, Below W6.heap.size W6 W → Hid _ := fun W hW => hid_of (hcv.out W hW)
    simp only [Bool.false_eq_true, if_false, Bool.not_false] at hck ⊢
    clear hcv
    go_upto_region 5 with fail
    refine wp_region_quiet (C := fun w' => Below W6.heap.size W6 w') (by kernel_rfl) (by kernel_rfl) (below_drewN (Below.refl _ _) 1) ?_
    with_reducible refine wpQuiet_step (fun K hK => ?_)
    refine ⟨.pointer (some ⟨sb, 0, none⟩), fun w' hw' => ?_, ?_⟩
    · first | (go_simp; done) | (go_simp; decide) | (go_simp; omega)
    with_reducible refine hK _ ?_
    clear hK K
    simp only [Act.put, List.setIfInBounds_toArray, List.set_cons_zero, List.set_cons_succ]
    with_reducible refine wpQuiet_step (fun K hK => ?_)
    refine ⟨.agg #[.int .i64 v.k, .int .i64 v.x, .string v.s, .slice v.an v.ln v.cn, .slice v.ai v.li v.ci], fun w' hw' => ?_, ?_⟩
    · have t0 := stay hw' y0; have t1 := stay hw' y1; have t2 := stay hw' y2; have t3 := stay hw' y3; have t4 := stay hw' y4; go_simp
    with_reducible refine hK _ ?_
    clear hK K
    simp only [Act.put, List.setIfInBounds_toArray, List.set_cons_zero, List.set_cons_succ]
    with_reducible refine wpQuiet_step (fun K hK => ?_)
    refine ⟨.int .i64 212, fun w' hw' => ?_, ?_⟩
    · go_simp
      refine ((hck w' hw').out).mono ?_
      rintro e w'' ⟨rfl, hb'⟩
      exact ⟨rfl, hw'.trans (hb'.mono hw'.size)⟩
    with_reducible refine hK _ ?_
    clear hK K
    simp only [Act.put, List.setIfInBounds_toArray, List.set_cons_zero, List.set_cons_succ]
    with_reducible refine wpQuiet_step (fun K hK => ?_)
    refine ⟨.int .i64 212, fun w' hw' => ?_, ?_⟩
    · go_simp
      refine ((hnb 212 w').out).mono ?_
      rintro e w'' ⟨rfl, hb'⟩
      exact ⟨rfl, hw'.trans (hb'.mono hw'.size)⟩
    with_reducible refine hK _ ?_
    clear hK K
    simp only [Act.put, List.setIfInBounds_toArray, List.set_cons_zero, List.set_cons_succ]
    with_reducible refine wpQuiet_step (fun K hK => ?_)
    refine ⟨.bool false, fun w' hw' => ?_, ?_⟩
    · first | (go_simp; done) | (go_simp; decide) | (go_simp; omega)
    with_reducible refine hK _ ?_
    clear hK K
    simp only [Act.put, List.setIfInBounds_toArray, List.set_cons_zero, List.set_cons_succ]
    with_reducible refine wpQuiet_step (fun K hK => ?_)
    refine ⟨.bool true, fun w' hw' => ?_, ?_⟩
    · first | (go_simp; done) | (go_simp; decide) | (go_simp; omega)
    with_reducible refine hK _ ?_
    clear hK K
    simp only [Act.put, List.setIfInBounds_toArray, List.set_cons_zero, List.set_cons_succ]
    with_reducible refine wpQuiet_step (fun K hK => ?_)
    refine ⟨.pointer (some ⟨sb, 0, none⟩), fun w' hw' => ?_, ?_⟩
    · first | (go_simp; done) | (go_simp; decide) | (go_simp; omega)
    with_reducible refine hK _ ?_
    clear hK K
    simp only [Act.put, List.setIfInBounds_toArray, List.set_cons_zero, List.set_cons_succ]
    with_reducible refine wpQuiet_step (fun K hK => ?_)
    refine ⟨.agg #[.int .i64 v.k, .int .i64 v.x, .string v.s, .slice v.an v.ln v.cn, .slice v.ai v.li v.ci], fun w' hw' => ?_, ?_⟩
    · have t0 := stay hw' y0; have t1 := stay hw' y1; have t2 := stay hw' y2; have t3 := stay hw' y3; have t4 := stay hw' y4; go_simp
    with_reducible refine hK _ ?_
    clear hK K
    simp only [Act.put, List.setIfInBounds_toArray, List.set_cons_zero, List.set_cons_succ]
    with_reducible refine wpQuiet_step (fun K hK => ?_)
    refine ⟨.int .i64 212, fun w' hw' => ?_, ?_⟩
    · go_simp
      refine ((hck w' hw').out).mono ?_
      rintro e w'' ⟨rfl, hb'⟩
      exact ⟨rfl, hw'.trans (hb'.mono hw'.size)⟩
    with_reducible refine hK _ ?_
    clear hK K
    simp only [Act.put, List.setIfInBounds_toArray, List.set_cons_zero, List.set_cons_succ]
    with_reducible refine wpQuiet_step (fun K hK => ?_)
    refine ⟨.int .i64 212, fun w' hw' => ?_, ?_⟩
    · go_simp
      refine ((hnb 212 w').out).mono ?_
      rintro e w'' ⟨rfl, hb'⟩
      exact ⟨rfl, hw'.trans (hb'.mono hw'.size)⟩
    with_reducible refine hK _ ?_
    clear hK K
    simp only [Act.put, List.setIfInBounds_toArray, List.set_cons_zero, List.set_cons_succ]
    with_reducible refine wpQuiet_step (fun K hK => ?_)
    refine ⟨.bool false, fun w' hw' => ?_, ?_⟩
    · first | (go_simp; done) | (go_simp; decide) | (go_simp; omega)
    with_reducible refine hK _ ?_
    clear hK K
    simp only [Act.put, List.setIfInBounds_toArray, List.set_cons_zero, List.set_cons_succ]
    with_reducible refine wpQuiet_step (fun K hK => ?_)
    refine ⟨.bool true, fun w' hw' => ?_, ?_⟩
    · first | (go_simp; done) | (go_simp; decide) | (go_simp; omega)
    with_reducible refine hK _ ?_
    clear hK K
    simp only [Act.put, List.setIfInBounds_toArray, List.set_cons_zero, List.set_cons_succ]
    with_reducible refine wpQuiet_step (fun K hK => ?_)
    refine ⟨.bool false, fun w' hw' => ?_, ?_⟩
    · first | (go_simp; done) | (go_simp; decide) | (go_simp; omega)
    with_reducible refine hK _ ?_
    clear hK K
    simp only [Act.put, List.setIfInBounds_toArray, List.set_cons_zero, List.set_cons_succ]
    with_reducible refine wpQuiet_step (fun K hK => ?_)
    refine ⟨.bool true, fun w' hw' => ?_, ?_⟩
    · first | (go_simp; done) | (go_simp; decide) | (go_simp; omega)
    with_reducible refine hK _ ?_
    clear hK K
    simp only [Act.put, List.setIfInBounds_toArray, List.set_cons_zero, List.set_cons_succ]
    refine wpQuiet_nil ?_
    intro X1 hX1
    have hB7 := hid_of (hB6.out.trans (hX1.mono hB6.out.size))
    clear hX1 y0 y1 y2 y3 y4 hck
    go_wp2_with fail
    go_ret2
    exact ⟨hd.out, hB7.out⟩
  · have hck : ∀ W, Below W6.heap.size W6 W → Hid _ := fun W hW => hid_of (hcv.out W hW)
    simp only [if_true, Bool.not_true] at hck ⊢
    clear hcv
    go_upto_region 5 with fail
    refine wp_region_quiet (C := fun w' => Below W6.heap.size W6 w') (by kernel_rfl) (by kernel_rfl) (below_drewN (Below.refl _ _) 1) ?_
    with_reducible refine wpQuiet_step (fun K hK => ?_)
    refine ⟨.pointer (some ⟨sb, 0, none⟩), fun w' hw' => ?_, ?_⟩
    · first | (go_simp; done) | (go_simp; decide) | (go_simp; omega)
    with_reducible refine hK _ ?_
    clear hK K
    simp only [Act.put, List.setIfInBounds_toArray, List.set_cons_zero, List.set_cons_succ]
    with_reducible refine wpQuiet_step (fun K hK => ?_)
    refine ⟨.agg #[.int .i64 v.k, .int .i64 v.x, .string v.s, .slice v.an v.ln v.cn, .slice v.ai v.li v.ci], fun w' hw' => ?_, ?_⟩
    · have t0 := stay hw' y0; have t1 := stay hw' y1; have t2 := stay hw' y2; have t3 := stay hw' y3; have t4 := stay hw' y4; go_simp
    with_reducible refine hK _ ?_
    clear hK K
    simp only [Act.put, List.setIfInBounds_toArray, List.set_cons_zero, List.set_cons_succ]
    with_reducible refine wpQuiet_step (fun K hK => ?_)
    refine ⟨.int .i64 0, fun w' hw' => ?_, ?_⟩
    · go_simp
      refine ((hck w' hw').out).mono ?_
      rintro e w'' ⟨rfl, hb'⟩
      exact ⟨rfl, hw'.trans (hb'.mono hw'.size)⟩
    with_reducible refine hK _ ?_
    clear hK K
    simp only [Act.put, List.setIfInBounds_toArray, List.set_cons_zero, List.set_cons_succ]
    with_reducible refine wpQuiet_step (fun K hK => ?_)
    refine ⟨.int .i64 0, fun w' hw' => ?_, ?_⟩
    · go_simp
      refine ((hnb 0 w').out).mono ?_
      rintro e w'' ⟨rfl, hb'⟩
      exact ⟨rfl, hw'.trans (hb'.mono hw'.size)⟩
    with_reducible refine hK _ ?_
    clear hK K
    simp only [Act.put, List.setIfInBounds_toArray, List.set_cons_zero, List.set_cons_succ]
    with_reducible refine wpQuiet_step (fun K hK => ?_)
    refine ⟨.bool true, fun w' hw' => ?_, ?_⟩
    · first | (go_simp; done) | (go_simp; decide) | (go_simp; omega)
    with_reducible refine hK _ ?_
    clear hK K
    simp only [Act.put, List.setIfInBounds_toArray, List.set_cons_zero, List.set_cons_succ]
    with_reducible refine wpQuiet_step (fun K hK => ?_)
    refine ⟨.bool false, fun w' hw' => ?_, ?_⟩
    · first | (go_simp; done) | (go_simp; decide) | (go_simp; omega)
    with_reducible refine hK _ ?_
    clear hK K
    simp only [Act.put, List.setIfInBounds_toArray, List.set_cons_zero, List.set_cons_succ]
    with_reducible refine wpQuiet_step (fun K hK => ?_)
    refine ⟨.pointer (some ⟨sb, 0, none⟩), fun w' hw' => ?_, ?_⟩
    · first | (go_simp; done) | (go_simp; decide) | (go_simp; omega)
    with_reducible refine hK _ ?_
    clear hK K
    simp only [Act.put, List.setIfInBounds_toArray, List.set_cons_zero, List.set_cons_succ]
    with_reducible refine wpQuiet_step (fun K hK => ?_)
    refine ⟨.agg #[.int .i64 v.k, .int .i64 v.x, .string v.s, .slice v.an v.ln v.cn, .slice v.ai v.li v.ci], fun w' hw' => ?_, ?_⟩
    · have t0 := stay hw' y0; have t1 := stay hw' y1; have t2 := stay hw' y2; have t3 := stay hw' y3; have t4 := stay hw' y4; go_simp
    with_reducible refine hK _ ?_
    clear hK K
    simp only [Act.put, List.setIfInBounds_toArray, List.set_cons_zero, List.set_cons_succ]
    with_reducible refine wpQuiet_step (fun K hK => ?_)
    refine ⟨.int .i64 0, fun w' hw' => ?_, ?_⟩
    · go_simp
      refine ((hck w' hw').out).mono ?_
      rintro e w'' ⟨rfl, hb'⟩
      exact ⟨rfl, hw'.trans (hb'.mono hw'.size)⟩
    with_reducible refine hK _ ?_
    clear hK K
    simp only [Act.put, List.setIfInBounds_toArray, List.set_cons_zero, List.set_cons_succ]
    with_reducible refine wpQuiet_step (fun K hK => ?_)
    refine ⟨.int .i64 0, fun w' hw' => ?_, ?_⟩
    · go_simp
      refine ((hnb 0 w').out).mono ?_
      rintro e w'' ⟨rfl, hb'⟩
      exact ⟨rfl, hw'.trans (hb'.mono hw'.size)⟩
    with_reducible refine hK _ ?_
    clear hK K
    simp only [Act.put, List.setIfInBounds_toArray, List.set_cons_zero, List.set_cons_succ]
    with_reducible refine wpQuiet_step (fun K hK => ?_)
    refine ⟨.bool true, fun w' hw' => ?_, ?_⟩
    · first | (go_simp; done) | (go_simp; decide) | (go_simp; omega)
    with_reducible refine hK _ ?_
    clear hK K
    simp only [Act.put, List.setIfInBounds_toArray, List.set_cons_zero, List.set_cons_succ]
    with_reducible refine wpQuiet_step (fun K hK => ?_)
    refine ⟨.bool true, fun w' hw' => ?_, ?_⟩
    · first | (go_simp; done) | (go_simp; decide) | (go_simp; omega)
    with_reducible refine hK _ ?_
    clear hK K
    simp only [Act.put, List.setIfInBounds_toArray, List.set_cons_zero, List.set_cons_succ]
    with_reducible refine wpQuiet_step (fun K hK => ?_)
    refine ⟨.bool true, fun w' hw' => ?_, ?_⟩
    · first | (go_simp; done) | (go_simp; decide) | (go_simp; omega)
    with_reducible refine hK _ ?_
    clear hK K
    simp only [Act.put, List.setIfInBounds_toArray, List.set_cons_zero, List.set_cons_succ]
    with_reducible refine wpQuiet_step (fun K hK => ?_)
    refine ⟨.bool true, fun w' hw' => ?_, ?_⟩
    · first | (go_simp; done) | (go_simp; decide) | (go_simp; omega)
    with_reducible refine hK _ ?_
    clear hK K
    simp only [Act.put, List.setIfInBounds_toArray, List.set_cons_zero, List.set_cons_succ]
    refine wpQuiet_nil ?_
    intro X1 hX1
    have hB7 := hid_of (hB6.out.trans (hX1.mono hB6.out.size))
    clear hX1 y0 y1 y2 y3 y4 hck
    go_wp2_with fail
    go_ret2
    exact ⟨hd.out, hB7.out⟩
theorem keeps_good {t x : Tr} {k : Bool} {u v : V5} {w : World} (hIt : ItoaIn w) (hV : VRep w t u.cs) (hS : SmallT t) (hX : VRep w x v.cs) (hSX : SmallT x) (hE : EnvL w) (hp : parseZ t = 0) (hk : keepsT t x = k) :
    Calls Tryz.prog 9 #[u.v, v.v] w fun e w' => e = .returned (.tuple #[.bool k, .bool true]) ∧ Below w.heap.size w w' :=
  (keeps_any t x u v w hIt (hid_of hV) (hid_of hS) (hid_of hX) (hid_of hSX) (hid_of hE)).mono fun e w' ⟨h, hb⟩ => ⟨by unfold KLaw at h; rw [h, decide_eq_true hp, hk]; rfl, hb⟩
theorem keeps_bad {t x : Tr} {u v : V5} {w : World} (hIt : ItoaIn w) (hV : VRep w t u.cs) (hS : SmallT t) (hX : VRep w x v.cs) (hSX : SmallT x) (hE : EnvL w) (hp : parseZ t ≠ 0) :
    Calls Tryz.prog 9 #[u.v, v.v] w fun e w' => e = .returned (.tuple #[.bool false, .bool false]) ∧ Below w.heap.size w w' :=
  (keeps_any t x u v w hIt (hid_of hV) (hid_of hS) (hid_of hX) (hid_of hSX) (hid_of hE)).mono fun e w' ⟨h, hb⟩ => ⟨by unfold KLaw at h; rw [h, decide_eq_false hp]; rfl, hb⟩
/-- Some answer. -/
def SomeTwo (e : Ending) : Prop := ∃ a b, e = .returned (.tuple #[.bool a, .bool b])
theorem keeps_some {t x : Tr} {u v : V5} {w : World} (hIt : ItoaIn w) (hV : VRep w t u.cs) (hS : SmallT t) (hX : VRep w x v.cs) (hSX : SmallT x) (hE : EnvL w) :
    Calls Tryz.prog 9 #[u.v, v.v] w fun e w' => SomeTwo e ∧ Below w.heap.size w w' :=
  (keeps_any t x u v w hIt (hid_of hV) (hid_of hS) (hid_of hX) (hid_of hSX) (hid_of hE)).mono fun _ _ ⟨h, hb⟩ => ⟨⟨_, _, h⟩, hb⟩
end Go.Proofs.YtbcfkajcmbckbaaGreatDoor
/-! A schema's rules turned round in memory: a Value whose lists grow. -/
namespace Go.Proofs.YtbcfkajcmbckbaaGreatDoor
open Go Go.RowKit

/-- The cells of several Values. -/
def flatV (vs : List V5) : List Value := vs.flatMap fun v => v.cs
theorem flatV_snoc (vs : List V5) (v : V5) : flatV (vs ++ [v]) = flatV vs ++ v.cs := by unfold flatV; simp
theorem flatV_len : (vs : List V5) → (flatV vs).length = vs.length * 5
  | [] => rfl
  | v :: vs => by
    have := flatV_len vs
    unfold flatV at *
    rw [List.flatMap_cons, List.length_append, this, List.length_cons]
    show 5 + vs.length * 5 = _
    omega
structure RevSt (X0 W : World) (wb : Nat) (na : Option Addr) (nc : Nat) (ia : Option Addr) (ic : Nat) (ns : List ByteArray) (vs : List V5) : Prop where
  bel : Below X0.heap.size X0 W
  lo : X0.heap.size ≤ wb
  box : W.heap[wb]? = some (.cells #[.int .i64 6, .int .i64 0, .string ⟨#[]⟩, .slice na ns.length nc, .slice ia vs.length ic] 25 (0, 0))
  rn : Rw W X0.heap.size 1 na ns.length nc (strs ns)
  ri : Rw W X0.heap.size 5 ia vs.length ic (flatV vs)
  dn : ∀ b, blkOf na b → (X0.heap.size ≤ b ∧ b ≠ wb ∧ b < W.heap.size) ∧ ¬ blkOf ia b
  di : ∀ b, blkOf ia b → X0.heap.size ≤ b ∧ b ≠ wb ∧ b < W.heap.size
theorem no_blk (b : Nat) : ¬ blkOf none b := fun ⟨_, _, e⟩ => by cases e
theorem blk_some {g o b : Nat} (h : blkOf (some ⟨g, o, none⟩) b) : b = g := by
  obtain ⟨o', s, e⟩ := h
  injection e with e
  injection e with e1 e2 e3
  exact e1.symm
theorem RevSt.start (X0 : World) (o : Obj) (h : o = .cells #[.int .i64 6, .int .i64 0, .string ⟨#[]⟩, .slice none 0 0, .slice none 0 0] 25) : RevSt X0 (X0.alloc o) X0.heap.size none 0 none 0 [] [] := by
  subst h
  exact ⟨(Below.refl _ X0).alloc (Nat.le_refl _) _, Nat.le_refl _, heap_alloc_new X0 _, Rw.nil _ _ _ _, Rw.nil _ _ _ _, fun b h => absurd h (no_blk b), fun b h => absurd h (no_blk b)⟩
theorem RevSt.alloc {X0 W : World} {wb : Nat} {na : Option Addr} {nc : Nat} {ia : Option Addr} {ic : Nat} {ns : List ByteArray} {vs : List V5} (h : RevSt X0 W wb na nc ia ic ns vs) (o : Obj) : RevSt X0 (W.alloc o) wb na nc ia ic ns vs := by
  have hb := (Below.refl W.heap.size W).alloc (Nat.le_refl _) o
  exact ⟨h.bel.trans (hb.mono h.bel.size), h.lo, block_keep h.box hb, h.rn.below hb, h.ri.below hb, fun b hb' => ⟨⟨(h.dn b hb').1.1, (h.dn b hb').1.2.1, Nat.lt_of_lt_of_le (h.dn b hb').1.2.2 hb.size⟩, (h.dn b hb').2⟩, fun b hb' => ⟨(h.di b hb').1, (h.di b hb').2.1, Nat.lt_of_lt_of_le (h.di b hb').2.2 hb.size⟩⟩
theorem RevSt.drew {X0 W : World} {wb : Nat} {na : Option Addr} {nc : Nat} {ia : Option Addr} {ic : Nat} {ns : List ByteArray} {vs : List V5} (h : RevSt X0 W wb na nc ia ic ns vs) : RevSt X0 W.drew wb na nc ia ic ns vs :=
  ⟨below_drew h.bel, h.lo, h.box, h.rn.below (below_drew (Below.refl _ _)), h.ri.below (below_drew (Below.refl _ _)), h.dn, h.di⟩
theorem blk_lt {W : World} {lo size : Nat} {a : Option Addr} {n cap : Nat} {xs : List Value} {b : Nat} (h : Rw W lo size a n cap xs) (hc : 0 < cap) (hb : blkOf a b) : b < W.heap.size := by
  rcases h.pt with h0 | ⟨b', o, rfl, h1, h2, h3, h4⟩
  · omega
  · rw [blk_some hb]; exact h2
/-- A name more. -/
theorem RevSt.name {X0 W W2 : World} {wb : Nat} {na : Option Addr} {nc : Nat} {ia : Option Addr} {ic : Nat} {ns : List ByteArray} {vs : List V5} (h : RevSt X0 W wb na nc ia ic ns vs) {s : ByteArray} {xs : List Value} (hx : xs = [.string s]) {g o2 c2 : Nat} (hA : Appd W X0.heap.size 1 na ns.length 1 nc (strs ns ++ xs) g o2 c2 W2) :
    RevSt X0 (W2.setCell ⟨wb, 3, none⟩ (.slice (some ⟨g, o2, none⟩) (ns.length + 1) c2)) wb (some ⟨g, o2, none⟩) c2 ia ic (ns ++ [s]) vs := by
  subst hx
  have hwl : wb < W.heap.size := (Array.getElem?_eq_some_iff.1 h.box).1
  have hwn : ¬ (blkOf na wb ∧ ns.length + 1 ≤ nc) := fun e => (h.dn wb e.1).1.2.1 rfl
  have hbox : W2.heap[wb]? = _ := (hA.fr.block wb hwl hwn).trans h.box
  have hB2 : Below X0.heap.size X0 W2 := h.bel.trans (hA.fr.below h.bel.size (fun i hi => (h.dn i hi.1).1.1))
  have hgw : g ≠ wb ∧ X0.heap.size ≤ g ∧ ¬ blkOf ia g := by
    rcases hA.at' with ⟨e, -, -⟩ | ⟨e, -, -⟩
    · have hd := h.dn g ⟨_, _, e⟩
      exact ⟨hd.1.2.1, hd.1.1, hd.2⟩
    · refine ⟨by omega, by rw [e]; exact h.bel.size, fun hi => ?_⟩
      have := (h.di g hi).2.2
      omega
  have hset : ∀ k, k ≠ wb → (W2.setCell ⟨wb, 3, none⟩ (.slice (some ⟨g, o2, none⟩) (ns.length + 1) c2)).heap[k]? = W2.heap[k]? := fun k hk => Below.heap_setCell _ _ _ _ hk
  have hsz : (W2.setCell ⟨wb, 3, none⟩ (.slice (some ⟨g, o2, none⟩) (ns.length + 1) c2)).heap.size = W2.heap.size := by simp [World.setCell]
  refine ⟨Below.setCell hB2 h.lo _, h.lo, ?_, ?_, ?_, fun b hb => ?_, fun b hb => ?_⟩
  · rw [List.length_append]
    simp [World.setCell, Array.getElem?_modify, hbox]
  · have hr : Rw W2 X0.heap.size 1 (some ⟨g, o2, none⟩) (ns ++ [s]).length c2 (strs (ns ++ [s])) := by
      rw [show strs (ns ++ [s]) = strs ns ++ [.string s] by unfold strs; simp, List.length_append]; exact hA.row
    exact hr.keep (by rw [hsz]; exact Nat.le_refl _) (fun b hb _ => hset b (by rw [blk_some hb]; exact hgw.1))
  · refine (h.ri.keep (w' := W2) hA.fr.size (fun b hb hl => hA.fr.block b hl (fun e => (h.dn b e.1).2 hb))).keep (by rw [hsz]; exact Nat.le_refl _) (fun b hb _ => hset b (h.di b hb).2.1)
  · have e := blk_some hb
    subst e
    exact ⟨⟨hgw.2.1, hgw.1, by rw [hsz]; exact hA.lt⟩, hgw.2.2⟩
  · obtain ⟨h1, h2, h3⟩ := h.di b hb
    exact ⟨h1, h2, by rw [hsz]; exact Nat.lt_of_lt_of_le h3 hA.fr.size⟩
theorem RevSt.mid1 {X0 W W2 : World} {wb : Nat} {na : Option Addr} {nc : Nat} {ia : Option Addr} {ic : Nat} {ns : List ByteArray} {vs : List V5} (h : RevSt X0 W wb na nc ia ic ns vs) {xs : List Value} {g o2 c2 : Nat} (hA : Appd W X0.heap.size 1 na ns.length 1 nc (strs ns ++ xs) g o2 c2 W2) :
    Below X0.heap.size X0 W2 ∧ W2.heap[wb]? = some (.cells #[.int .i64 6, .int .i64 0, .string ⟨#[]⟩, .slice na ns.length nc, .slice ia vs.length ic] 25 (0, 0)) :=
  ⟨h.bel.trans (hA.fr.below h.bel.size (fun i hi => (h.dn i hi.1).1.1)), (hA.fr.block wb (Array.getElem?_eq_some_iff.1 h.box).1 (fun e => (h.dn wb e.1).1.2.1 rfl)).trans h.box⟩
theorem RevSt.mid2 {X0 W W2 : World} {wb : Nat} {na : Option Addr} {nc : Nat} {ia : Option Addr} {ic : Nat} {ns : List ByteArray} {vs : List V5} (h : RevSt X0 W wb na nc ia ic ns vs) {xs : List Value} {g o2 c2 : Nat} (hA : Appd W X0.heap.size 5 ia vs.length 1 ic (flatV vs ++ xs) g o2 c2 W2) :
    Below X0.heap.size X0 W2 ∧ W2.heap[wb]? = some (.cells #[.int .i64 6, .int .i64 0, .string ⟨#[]⟩, .slice na ns.length nc, .slice ia vs.length ic] 25 (0, 0)) :=
  ⟨h.bel.trans (hA.fr.below h.bel.size (fun i hi => (h.di i hi.1).1)), (hA.fr.block wb (Array.getElem?_eq_some_iff.1 h.box).1 (fun e => (h.di wb e.1).2.1 rfl)).trans h.box⟩
/-- An item more. -/
theorem RevSt.item {X0 W W2 : World} {wb : Nat} {na : Option Addr} {nc : Nat} {ia : Option Addr} {ic : Nat} {ns : List ByteArray} {vs : List V5} (h : RevSt X0 W wb na nc ia ic ns vs) {v : V5} {xs : List Value} (hx : xs = v.cs) {g o2 c2 : Nat} (hA : Appd W X0.heap.size 5 ia vs.length 1 ic (flatV vs ++ xs) g o2 c2 W2) :
    RevSt X0 (W2.setCell ⟨wb, 4, none⟩ (.slice (some ⟨g, o2, none⟩) (vs.length + 1) c2)) wb na nc (some ⟨g, o2, none⟩) c2 ns (vs ++ [v]) := by
  subst hx
  have hwl : wb < W.heap.size := (Array.getElem?_eq_some_iff.1 h.box).1
  have hwn : ¬ (blkOf ia wb ∧ vs.length + 1 ≤ ic) := fun e => (h.di wb e.1).2.1 rfl
  have hbox : W2.heap[wb]? = _ := (hA.fr.block wb hwl hwn).trans h.box
  have hB2 : Below X0.heap.size X0 W2 := h.bel.trans (hA.fr.below h.bel.size (fun i hi => (h.di i hi.1).1))
  have hgw : g ≠ wb ∧ X0.heap.size ≤ g ∧ ¬ blkOf na g := by
    rcases hA.at' with ⟨e, -, -⟩ | ⟨e, -, -⟩
    · have hd := h.di g ⟨_, _, e⟩
      exact ⟨hd.2.1, hd.1, fun hn => (h.dn g hn).2 ⟨_, _, e⟩⟩
    · refine ⟨by omega, by rw [e]; exact h.bel.size, fun hn => ?_⟩
      have := (h.dn g hn).1.2.2
      omega
  have hset : ∀ k, k ≠ wb → (W2.setCell ⟨wb, 4, none⟩ (.slice (some ⟨g, o2, none⟩) (vs.length + 1) c2)).heap[k]? = W2.heap[k]? := fun k hk => Below.heap_setCell _ _ _ _ hk
  have hsz : (W2.setCell ⟨wb, 4, none⟩ (.slice (some ⟨g, o2, none⟩) (vs.length + 1) c2)).heap.size = W2.heap.size := by simp [World.setCell]
  refine ⟨Below.setCell hB2 h.lo _, h.lo, ?_, ?_, ?_, fun b hb => ?_, fun b hb => ?_⟩
  · rw [List.length_append]
    simp [World.setCell, Array.getElem?_modify, hbox]
  · refine (h.rn.keep (w' := W2) hA.fr.size (fun b hb hl => hA.fr.block b hl (fun e => (h.dn b hb).2 e.1))).keep (by rw [hsz]; exact Nat.le_refl _) (fun b hb _ => hset b (h.dn b hb).1.2.1)
  · have hr : Rw W2 X0.heap.size 5 (some ⟨g, o2, none⟩) (vs ++ [v]).length c2 (flatV (vs ++ [v])) := by
      rw [flatV_snoc, List.length_append]; exact hA.row
    exact hr.keep (by rw [hsz]; exact Nat.le_refl _) (fun b hb _ => hset b (by rw [blk_some hb]; exact hgw.1))
  · obtain ⟨⟨h1, h2, h3⟩, h4⟩ := h.dn b hb
    refine ⟨⟨h1, h2, by rw [hsz]; exact Nat.lt_of_lt_of_le h3 hA.fr.size⟩, fun e => ?_⟩
    have := blk_some e
    subst this
    exact hgw.2.2 hb
  · have e := blk_some hb
    subst e
    exact ⟨hgw.2.1, hgw.1, by rw [hsz]; exact hA.lt⟩
/-- The Values of a row. -/
def ValsAt (w : World) (ts : List Tr) (vs : List V5) : Prop := vs.length = ts.length ∧ ∀ (q : Nat) (t : Tr) (v : V5), ts[q]? = some t → vs[q]? = some v → VRep w t v.cs
theorem vals_of {w : World} : (ts : List Tr) → {b o : Nat} → VRepL w b o ts → ∃ vs, ValsAt w ts vs ∧ ∀ q v, vs[q]? = some v → CellsAt w b (o + q * 5) v.cs
  | [], _, _, _ => ⟨[], ⟨rfl, fun q t v h => by simp at h⟩, fun q v h => by simp at h⟩
  | t :: ts, b, o, h => by
    unfold VRepL at h
    obtain ⟨cs, h1, h2, h3⟩ := h
    obtain ⟨v, rfl⟩ := vrep_v5 h2
    obtain ⟨vs, ⟨g1, g2⟩, g3⟩ := vals_of ts h3
    refine ⟨v :: vs, ⟨by simp [g1], fun q t' v' ht hv => ?_⟩, fun q v' hv => ?_⟩
    · cases q with
      | zero =>
        have e1 : t = t' := by simpa using ht
        have e2 : v = v' := by simpa using hv
        rw [← e1, ← e2]; exact h2
      | succ q => exact g2 q t' v' (by simpa using ht) (by simpa using hv)
    · cases q with
      | zero =>
        have e2 : v = v' := by simpa using hv
        rw [← e2, Nat.zero_mul, Nat.add_zero]; exact h1
      | succ q =>
        have := g3 q v' (by simpa using hv)
        rw [show o + (q + 1) * 5 = o + 5 + q * 5 by omega]; exact this
theorem ValsAt.keep {w w' : World} {ts : List Tr} {vs : List V5} (h : ValsAt w ts vs) (hb : Below w.heap.size w w') : ValsAt w' ts vs := ⟨h.1, fun q t v ht hv => VRep.keep hb _ _ (h.2 q t v ht hv)⟩
theorem flat_at : (vs : List V5) → (q : Nat) → (v : V5) → (j : Nat) → (u : Value) → vs[q]? = some v → v.cs[j]? = some u → (flatV vs)[q * 5 + j]? = some u
  | [], q, v, j, u, h, _ => by simp at h
  | x :: vs, q, v, j, u, h, hu => by
    have hl : x.cs.length = 5 := rfl
    unfold flatV
    rw [List.flatMap_cons]
    cases q with
    | zero =>
      have e : x = v := by simpa using h
      subst e
      have := (List.getElem?_eq_some_iff.1 hu).1
      rw [Nat.zero_mul, Nat.zero_add, List.getElem?_append_left this]; exact hu
    | succ q =>
      rw [List.getElem?_append_right (by omega), show (q + 1) * 5 + j - x.cs.length = q * 5 + j by omega]
      exact flat_at vs q v j u (by simpa using h) hu
/-- A row of cells reads as these trees. -/
theorem rep_flat {w : World} (b : Nat) : (ts : List Tr) → (vs : List V5) → (o : Nat) → ValsAt w ts vs → (∀ j u, (flatV vs)[j]? = some u → w.cell? ⟨b, o + j, none⟩ = some u) → VRepL w b o ts
  | [], _, _, _, _ => by unfold VRepL; trivial
  | t :: ts, [], _, h, _ => by have := h.1; simp at this
  | t :: ts, v :: vs, o, h, hc => by
    unfold VRepL
    have hl : v.cs.length = 5 := rfl
    refine ⟨v.cs, fun j u hj => hc j u ?_, h.2 0 t v rfl rfl, rep_flat b ts vs (o + 5) ⟨by have := h.1; simpa using this, fun q t' v' ht hv => h.2 (q + 1) t' v' (by simpa using ht) (by simpa using hv)⟩ (fun j u hj => ?_)⟩
    · unfold flatV
      rw [List.flatMap_cons, List.getElem?_append_left (List.getElem?_eq_some_iff.1 hj).1]; exact hj
    · rw [show o + 5 + j = o + (5 + j) by omega]
      refine hc (5 + j) u ?_
      unfold flatV at hj ⊢
      rw [List.flatMap_cons, List.getElem?_append_right (by omega), show 5 + j - v.cs.length = j by omega]; exact hj
/-- The Value that was made reads as the tree. -/
theorem RevSt.rep {X0 W : World} {wb : Nat} {na : Option Addr} {nc : Nat} {ia : Option Addr} {ic : Nat} {ns : List ByteArray} {vs : List V5} (h : RevSt X0 W wb na nc ia ic ns vs) {ts : List Tr} (hv : ValsAt W ts vs) :
    VRep W (.node 6 0 ⟨#[]⟩ ns ts) (⟨6, 0, ⟨#[]⟩, na, ns.length, nc, ia, vs.length, ic⟩ : V5).cs := by
  have hm := h.rn.mx
  have hm2 := h.ri.mx
  unfold maxLen at hm hm2
  unfold VRep V5.cs
  refine ⟨_, ia, ic, by simp only [hv.1], ⟨na, nc, rfl, ⟨h.rn.le, by omega⟩, ?_⟩, ⟨by rw [← hv.1]; exact h.ri.le, by omega⟩, ?_⟩
  · by_cases hn : ns = []
    · exact .inl hn
    · rcases h.rn.pt with h0 | ⟨b, o, e, h1, h2, h3, h4⟩
      · have := h.rn.le
        have : ns.length = 0 := by omega
        exact absurd (List.eq_nil_of_length_eq_zero this) hn
      · exact .inr ⟨b, o, e, h2, fun j s hj => h4 j _ (by unfold strs; rw [List.getElem?_map, hj]; rfl)⟩
  · by_cases hn : ts = []
    · exact .inl hn
    · rcases h.ri.pt with h0 | ⟨b, o, e, h1, h2, h3, h4⟩
      · have := h.ri.le
        have : ts.length = 0 := by have := hv.1; omega
        exact absurd (List.eq_nil_of_length_eq_zero this) hn
      · exact .inr ⟨b, o, e, h2, rep_flat b ts vs o hv h4⟩
end Go.Proofs.YtbcfkajcmbckbaaGreatDoor
