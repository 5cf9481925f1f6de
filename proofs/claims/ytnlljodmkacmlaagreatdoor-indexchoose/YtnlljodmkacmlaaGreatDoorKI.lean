import Derived.Test.YtnlljodmkacmlaaGreatDoorKH
import Derived.Test.YtnlljodmkacmlaaGreatDoorRA3
/-! Serves: the document's. -/
namespace Go.Proofs.YtnlljodmkacmlaaGreatDoor.Chk
open Go Go.RowKit

def nullT : Tr := .node 0 0 ⟨#[]⟩ [] []
noncomputable def hasNullR (l : List Tr) : Bool := l.any fun t => eqT t nullT
theorem null_rep (w : World) : VRep w nullT (five 0 0 ⟨#[]⟩ (.slice none 0 0) (.slice none 0 0)) := by
  unfold nullT VRep
  exact ⟨_, none, 0, rfl, ⟨none, 0, rfl, ⟨Nat.le_refl _, by decide⟩, .inl rfl⟩, ⟨Nat.le_refl _, by decide⟩, .inl rfl⟩
set_option maxHeartbeats 2000000 in
set_option maxRecDepth 100000 in
theorem rhas_any (a : Option Addr) (c : Nat) (its : List Tr) (w : World) (hI : ItemsAt' w a its) (hl : its.length ≤ 4611686018427387904) (hS : SmallL its) : Calls Tryz.prog 70 #[.slice a its.length c, .agg #[.int .i64 0, .int .i64 0, .string ⟨#[]⟩, .slice none 0 0, .slice none 0 0]] w fun e w' => e = .returned (.bool (hasNullR its)) ∧ Below w.heap.size w w' := by
  have HB := (Below.refl _ w).alloc (Nat.le_refl _) (.cells #[.int .i64 0, .int .i64 0, .string ⟨#[]⟩, .slice none 0 0, .slice none 0 0] 28)
  have hn := heap_alloc_new w (.cells #[.int .i64 0, .int .i64 0, .string ⟨#[]⟩, .slice none 0 0, .slice none 0 0] 28)
  obtain ⟨W1, hW1⟩ : ∃ W1, Hid (w.alloc (.cells #[.int .i64 0, .int .i64 0, .string ⟨#[]⟩, .slice none 0 0, .slice none 0 0] 28) = W1) := ⟨_, hid_e rfl⟩
  rw [hW1.out] at HB hn
  obtain ⟨nb, hnb⟩ : ∃ n, Hid (w.heap.size = n) := ⟨_, hid_e rfl⟩
  rw [hnb.out] at hn
  obtain ⟨m0, m1, m2, m3, m4, -⟩ := row_cells hn
  replace hI := hid_e (items_keep hI HB)
  replace HB := hid_e HB
  replace hS := hid_e hS
  clear hn
  go_enter Tryz.func70, Tryz.ntmps70
  go_wp2_with (rw [hW1.out])
  rw [hnb.out]
  go_loopw [5] (fun i wr => ∃ q : Nat, q ≤ its.length ∧ i = .int .i64 q ∧ Below W1.heap.size W1 wr ∧ Hid (hasNullR (its.take q) = false)) (fun i _ => its.length - (intOf i).toNat)
  case atStart => exact ⟨0, Nat.zero_le _, rfl, Below.refl _ _, hid_e (by simp [hasNullR])⟩
  case round =>
    rename_i wr
    obtain ⟨q, hq, rfl, hB, hN⟩ := hrel
    by_cases hlt : q < its.length
    · have hd : decide ((q : Int) < (its.length : Int)) = true := by simp; omega
      have hq1 : (q : Int) < (its.length : Int) := by omega
      have hq2 : (q : Int) ≤ 4611686018427387904 := by omega
      obtain ⟨u, hu⟩ : ∃ u, Hid (its[q]? = some u) := ⟨_, hid_e (List.getElem?_eq_getElem hlt)⟩
      obtain ⟨b, o, rfl, hb, hV⟩ := hI.out.resolve_left (by intro e; subst e; simp at hlt)
      obtain ⟨cs, hC, hr⟩ := VRepL.at its o q u hV hu.out
      obtain ⟨k2, x2, s2, an2, ln2, cn2, ai2, li2, ci2, rfl⟩ := vrep_five hr
      have heq := fun W (hW : Below wr.heap.size wr W) => hid_e (equal_any u nullT _ _ W (VRep.keep (hB.trans (hW.mono hB.size)) _ _ hr) (null_rep W) (SmallL.at hS.out hu.out))
      unfold five at heq
      have z := hC.keep hB hb
      have z0 := z 0 _ rfl
      have z1 := z 1 _ rfl
      have z2 := z 2 _ rfl
      have z3 := z 3 _ rfl
      have z4 := z 4 _ rfl
      rw [Nat.add_zero] at z0
      have y0 := Chk.stay hB m0
      have y1 := Chk.stay hB m1
      have y2 := Chk.stay hB m2
      have y3 := Chk.stay hB m3
      have y4 := Chk.stay hB m4
      have htk : Hid (its.take (q + 1) = its.take q ++ [u]) := hid_e (by rw [List.take_add_one, hu.out]; rfl)
      replace hB := hid_e hB
      clear z hV hC hr
      by_cases hz : u = nullT
      · rw [eqT_true hz] at heq
        have hall : Hid (hasNullR its = true) := hid_e (by
          unfold hasNullR
          rw [List.any_eq_true]
          exact ⟨u, List.mem_of_getElem? hu.out, eqT_true hz⟩)
        replace hz := hid_e hz
        go_wp2_with fail
        refine wp_region_quiet (C := fun w' => Below wr.heap.size wr w') (by kernel_rfl) (by kernel_rfl) (below_drewN (Below.refl _ _) 1) ?_
        with_reducible refine wpQuiet_step (fun K hK => ?_)
        refine ⟨.slice (some ⟨b, o, none⟩) its.length c, fun w' hw' => ?_, ?_⟩
        · first | (go_simp; done) | (go_simp; decide) | (go_simp; omega)
        with_reducible refine hK _ ?_
        clear hK K
        simp only [Act.put, List.setIfInBounds_toArray, List.set_cons_zero, List.set_cons_succ]
        with_reducible refine wpQuiet_step (fun K hK => ?_)
        refine ⟨.int .i64 q, fun w' hw' => ?_, ?_⟩
        · first | (go_simp; done) | (go_simp; decide) | (go_simp; omega)
        with_reducible refine hK _ ?_
        clear hK K
        simp only [Act.put, List.setIfInBounds_toArray, List.set_cons_zero, List.set_cons_succ]
        with_reducible refine wpQuiet_step (fun K hK => ?_)
        refine ⟨.pointer (some ⟨b, o + q * 5, none⟩), fun w' hw' => ?_, ?_⟩
        · first | (go_simp; done) | (go_simp; decide) | (go_simp; omega)
        with_reducible refine hK _ ?_
        clear hK K
        simp only [Act.put, List.setIfInBounds_toArray, List.set_cons_zero, List.set_cons_succ]
        with_reducible refine wpQuiet_step (fun K hK => ?_)
        refine ⟨.agg #[.int .i64 k2, .int .i64 x2, .string s2, .slice an2 ln2 cn2, .slice ai2 li2 ci2], fun w' hw' => ?_, ?_⟩
        · have t0 := stay hw' z0; have t1 := stay hw' z1; have t2 := stay hw' z2; have t3 := stay hw' z3; have t4 := stay hw' z4; go_simp
        with_reducible refine hK _ ?_
        clear hK K
        simp only [Act.put, List.setIfInBounds_toArray, List.set_cons_zero, List.set_cons_succ]
        with_reducible refine wpQuiet_step (fun K hK => ?_)
        refine ⟨.agg #[.int .i64 0, .int .i64 0, .string ⟨#[]⟩, .slice none 0 0, .slice none 0 0], fun w' hw' => ?_, ?_⟩
        · have t0 := stay hw' y0; have t1 := stay hw' y1; have t2 := stay hw' y2; have t3 := stay hw' y3; have t4 := stay hw' y4; go_simp
        with_reducible refine hK _ ?_
        clear hK K
        simp only [Act.put, List.setIfInBounds_toArray, List.set_cons_zero, List.set_cons_succ]
        with_reducible refine wpQuiet_step (fun K hK => ?_)
        refine ⟨.bool true, fun w' hw' => ?_, ?_⟩
        · go_simp
          refine ((heq w' hw').out).mono ?_
          rintro e w'' ⟨rfl, hb'⟩
          exact ⟨rfl, hw'.trans (hb'.mono hw'.size)⟩
        with_reducible refine hK _ ?_
        clear hK K
        simp only [Act.put, List.setIfInBounds_toArray, List.set_cons_zero, List.set_cons_succ]
        refine wpQuiet_nil ?_
        intro X1 hX1
        replace hB := hid_e (HB.out.trans ((hB.out.trans (hX1.mono hB.out.size)).mono HB.out.size))
        clear hX1 z0 z1 z2 z3 z4 y0 y1 y2 y3 y4 heq
        go_wp2_with fail
        go_ret
        exact ⟨by rw [hall.out]; rfl, hB.out⟩
      · rw [eqT_false hz] at heq
        have hall : Hid (hasNullR (its.take (q + 1)) = false) := hid_e (by
          rw [htk.out]
          have := hN.out
          unfold hasNullR at *
          rw [List.any_append, this]
          simp [eqT_false hz])
        replace hz := hid_e hz
        go_wp2_with fail
        refine wp_region_quiet (C := fun w' => Below wr.heap.size wr w') (by kernel_rfl) (by kernel_rfl) (below_drewN (Below.refl _ _) 1) ?_
        with_reducible refine wpQuiet_step (fun K hK => ?_)
        refine ⟨.slice (some ⟨b, o, none⟩) its.length c, fun w' hw' => ?_, ?_⟩
        · first | (go_simp; done) | (go_simp; decide) | (go_simp; omega)
        with_reducible refine hK _ ?_
        clear hK K
        simp only [Act.put, List.setIfInBounds_toArray, List.set_cons_zero, List.set_cons_succ]
        with_reducible refine wpQuiet_step (fun K hK => ?_)
        refine ⟨.int .i64 q, fun w' hw' => ?_, ?_⟩
        · first | (go_simp; done) | (go_simp; decide) | (go_simp; omega)
        with_reducible refine hK _ ?_
        clear hK K
        simp only [Act.put, List.setIfInBounds_toArray, List.set_cons_zero, List.set_cons_succ]
        with_reducible refine wpQuiet_step (fun K hK => ?_)
        refine ⟨.pointer (some ⟨b, o + q * 5, none⟩), fun w' hw' => ?_, ?_⟩
        · first | (go_simp; done) | (go_simp; decide) | (go_simp; omega)
        with_reducible refine hK _ ?_
        clear hK K
        simp only [Act.put, List.setIfInBounds_toArray, List.set_cons_zero, List.set_cons_succ]
        with_reducible refine wpQuiet_step (fun K hK => ?_)
        refine ⟨.agg #[.int .i64 k2, .int .i64 x2, .string s2, .slice an2 ln2 cn2, .slice ai2 li2 ci2], fun w' hw' => ?_, ?_⟩
        · have t0 := stay hw' z0; have t1 := stay hw' z1; have t2 := stay hw' z2; have t3 := stay hw' z3; have t4 := stay hw' z4; go_simp
        with_reducible refine hK _ ?_
        clear hK K
        simp only [Act.put, List.setIfInBounds_toArray, List.set_cons_zero, List.set_cons_succ]
        with_reducible refine wpQuiet_step (fun K hK => ?_)
        refine ⟨.agg #[.int .i64 0, .int .i64 0, .string ⟨#[]⟩, .slice none 0 0, .slice none 0 0], fun w' hw' => ?_, ?_⟩
        · have t0 := stay hw' y0; have t1 := stay hw' y1; have t2 := stay hw' y2; have t3 := stay hw' y3; have t4 := stay hw' y4; go_simp
        with_reducible refine hK _ ?_
        clear hK K
        simp only [Act.put, List.setIfInBounds_toArray, List.set_cons_zero, List.set_cons_succ]
        with_reducible refine wpQuiet_step (fun K hK => ?_)
        refine ⟨.bool false, fun w' hw' => ?_, ?_⟩
        · go_simp
          refine ((heq w' hw').out).mono ?_
          rintro e w'' ⟨rfl, hb'⟩
          exact ⟨rfl, hw'.trans (hb'.mono hw'.size)⟩
        with_reducible refine hK _ ?_
        clear hK K
        simp only [Act.put, List.setIfInBounds_toArray, List.set_cons_zero, List.set_cons_succ]
        refine wpQuiet_nil ?_
        intro X1 hX1
        replace hB := hid_e (hB.out.trans (hX1.mono hB.out.size))
        clear hX1 z0 z1 z2 z3 z4 y0 y1 y2 y3 y4 heq
        go_wp2_with fail
        go_roundw
        case rel => exact ⟨q + 1, by omega, by simp, hB.out, hall⟩
        case measure => simp [intOf]; omega
    · obtain rfl : q = its.length := by omega
      have hd : decide ((its.length : Int) < (its.length : Int)) = false := by simp
      rw [List.take_length] at hN
      replace hB := hid_e (HB.out.trans (hB.mono HB.out.size))
      go_wp2_with fail
      go_ret
      exact ⟨by rw [hN.out]; rfl, hB.out⟩
end Go.Proofs.YtnlljodmkacmlaaGreatDoor.Chk
