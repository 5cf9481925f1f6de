import Derived.Test.YtgjemghfejaifaaGreatDoorUD
/-! The document's reader of schemas: the words that hold schemas. -/
namespace Go.Proofs.YtgjemghfejaifaaGreatDoor
open Go Go.RowKit

theorem listS_from {d n q : Nat} {its : List Tr} {t : Tr} (ht : its[q]? = some t) : listS d n (its.drop q) = if (schemaS d n t).2 = 0 then listS d (schemaS d n t).1 (its.drop (q + 1)) else schemaS d n t := by
  have hlt := (List.getElem?_eq_some_iff.1 ht).1
  rw [List.drop_eq_getElem_cons hlt, (List.getElem?_eq_some_iff.1 ht).2, listS_cons]
set_option maxHeartbeats 8000000 in
set_option maxRecDepth 100000 in
theorem rd_properties (w0 : World) (cb d n : Nat) (t : Tr) (u : V5) (w : World) (h : Gd w0 w cb d n t u) (hO : Hid (∀ t' ∈ t.items, RdOk w0 t')) :
    Calls Tryz.prog 46 #[.pointer (some ⟨cb, 0, none⟩), .string wProperties, u.v, .int .i64 (d : Int)] w (RdPost w cb (ruleS d n 3 t)) := by
  have hb0 := hid_of ((Below.refl _ w).alloc (Nat.le_refl _) (u.obj 25))
  have hF0 := hid_of (Fr.of_below (S := fun b => b = cb) hb0.out)
  have hck := hid_of (h.ck.keep hb0.out)
  have hn0 := heap_alloc_new w (u.obj 25)
  obtain ⟨x0, x1, x2, x3, x4, -⟩ := row_cells hn0
  have hkd := hid_of (vrep_head h.rep)
  have hle := hid_of h.le
  obtain ⟨hrow, hli⟩ := rep_row h.rep
  replace hrow := hid_of (RowT.keep hrow h.env.old)
  replace hli := hid_of hli
  have hrow0 := hid_of (RowT.keep hrow.out hb0.out)
  have hsm := hid_of (small_parts h.small)
  have hrep := hid_of (VRep.keep h.env.old _ _ h.rep)
  have hbb : Hid (¬ w.heap.size = cb) := by have := h.ck.lt; show ¬ w.heap.size = cb; omega
  have hnp := hid_of (names_parts h.names).2
  have hrg := hid_of (range_parts h.range).2
  have hd1 : (d : Int) + 1 ≤ 100 := by have := h.d8; omega
  have hd9 : Hid (d + 1 ≤ 9) := by have := h.d8; show d + 1 ≤ 9; omega
  have hc1 : (((d + 1 : Nat) : Int)) = (d : Int) + 1 := by omega
  have hroww := hid_of (rep_row h.rep).1
  have hE0 := hid_of (h.env.fr hF0.out)
  obtain ⟨N, hNN⟩ : ∃ N, Hid (ruleS d n 3 t = N) := ⟨_, rfl⟩
  unfold V5.obj at *
  unfold V5.v wProperties
  clear h hn0
  go_enter Tryz.func46, Tryz.ntmps46
  by_cases hk : u.k = 6
  · have e6 : (u.k == 6) = true := by simp [hk]
    have hM0 : Hid ((if (0 : Int) = 0 then listS (d + 1) n (t.items.drop 0) else (n, 0)) = N) := by
      rw [Hid, if_pos rfl, ← hNN.out, rule_pos]; simp [hkd.out.1, hk]
    clear hk
    go_wp2_with fail
    generalize w.alloc (.cells #[.int .i64 u.k, .int .i64 u.x, .string u.s, .slice u.an u.ln u.cn, .slice u.ai u.li u.ci] 25) = X at *
    replace x0 := hid_of x0; replace x4 := hid_of x4
    have hFX := hF0
    clear x1 x2 x3
    go_loopw [9] (fun i wr => ∃ (q n' : Nat) (z : Int), q ≤ t.items.length ∧ i = .int .i64 q ∧ Hid (CkAt wr cb n' z) ∧ Hid (Fr (fun b => b = cb) X wr) ∧ Hid (n' ≤ 128) ∧ Hid ((if z = 0 then listS (d + 1) n' (t.items.drop q) else (n', z)) = N)) (fun i _ => t.items.length - (intOf i).toNat)
    case atStart => exact ⟨0, n, 0, Nat.zero_le _, rfl, hck.out, Fr.refl _ _, hle, hM0⟩
    case round =>
      obtain ⟨q, n', z, hq, rfl, hC, hF, hn', hM⟩ := hrel
      have b0 := hF.out.cell x0.out hbb.out; have b4 := hF.out.cell x4.out hbb.out
      obtain ⟨c0, c1, f0, f1⟩ := hC.out.cells
      have hqb : (q : Int) ≤ 1759218604390 := by have := hsm.out.1; omega
      by_cases hlt : q < t.items.length
      · have hi : (q : Int) < (u.li : Int) := by have := hli.out; omega
        by_cases hz : z = 0
        · subst hz
          obtain ⟨t', ht⟩ : ∃ t', Hid (t.items[q]? = some t') := ⟨_, hid_e (List.getElem?_eq_getElem hlt)⟩
          obtain ⟨g, o, hai, hg, hVL⟩ := hroww.out.resolve_left (by intro e; rw [e] at hlt; simp at hlt)
          obtain ⟨cs, hCs, hr⟩ := VRepL.at t.items o q t' hVL ht.out
          obtain ⟨v, rfl⟩ := vrep_v5 hr
          have hEr := hid_of (hE0.out.fr hF.out)
          unfold V5.cs five at hCs
          have z0 : wr.cell? ⟨g, o + q * 5 + 0, none⟩ = some (.int .i64 v.k) := (hEr.out.old.cell (p := ⟨g, o + q * 5 + 0, none⟩) hg).trans (hCs 0 _ rfl)
          have z1 : wr.cell? ⟨g, o + q * 5 + 1, none⟩ = some (.int .i64 v.x) := (hEr.out.old.cell (p := ⟨g, o + q * 5 + 1, none⟩) hg).trans (hCs 1 _ rfl)
          have z2 : wr.cell? ⟨g, o + q * 5 + 2, none⟩ = some (.string v.s) := (hEr.out.old.cell (p := ⟨g, o + q * 5 + 2, none⟩) hg).trans (hCs 2 _ rfl)
          have z3 : wr.cell? ⟨g, o + q * 5 + 3, none⟩ = some (.slice v.an v.ln v.cn) := (hEr.out.old.cell (p := ⟨g, o + q * 5 + 3, none⟩) hg).trans (hCs 3 _ rfl)
          have z4 : wr.cell? ⟨g, o + q * 5 + 4, none⟩ = some (.slice v.ai v.li v.ci) := (hEr.out.old.cell (p := ⟨g, o + q * 5 + 4, none⟩) hg).trans (hCs 4 _ rfl)
          simp only [Nat.add_zero] at z0
          have hcall := hid_of (hO.out t' (List.mem_of_getElem? ht.out) (d + 1) n' cb v wr hd9.out hn'.out hr (SmallL.at hsm.out.2.2.2.1 ht.out) (NamesL.at hnp.out ht.out) (RangeL.at hrg.out ht.out) hEr.out hC.out)
          have hst := hid_of (listS_from (d := d + 1) (n := n') ht.out)
          rw [hc1] at hcall
          generalize schemaS (d + 1) n' t' = R at hcall hst
          obtain ⟨n1, z1'⟩ := R
          have hM2 : Hid ((if z1' = 0 then listS (d + 1) n1 (t.items.drop (q + 1)) else (n1, z1')) = N) := by
            have h1 := hM.out
            rw [if_pos rfl, hst.out] at h1
            exact h1
          rw [hai] at b4
          unfold V5.v at hcall
          clear hVL hCs hr hg hst hM hai
          go_wp2_with fail
          refine hcall.out.mono ?_
          rintro e W1 ⟨rfl, hc9, hF9, hle9⟩
          have hF2 := hid_of (hF.out.trans hF9)
          replace hc9 := hid_of hc9
          clear hF9 hcall b0 b4 c0 c1 f0 f1 z0 z1 z2 z3 z4
          go_wp2_with fail
          go_roundw
          case rel => exact ⟨q + 1, n1, z1', by omega, by go_num, hc9, hF2, hle9, hM2⟩
          case measure => simp [intOf]; omega
        · have ez : (z == 0) = false := by simp [hz]
          have hfin : Hid (N = (n', z)) := by rw [Hid, ← hM.out, if_neg hz]
          clear hz hM
          go_wp2_with fail
          go_end0
          rw [hNN.out, hfin.out]
          exact ⟨rfl, hC.out, hFX.out.trans hF.out, hn'.out⟩
      · have hi : ¬ (q : Int) < (u.li : Int) := by have := hli.out; omega
        have hfin : Hid (N = (n', z)) := by
          rw [Hid, ← hM.out, List.drop_eq_nil_of_le (by omega), listS]
          by_cases hz : z = 0
          · rw [if_pos hz, hz]
          · rw [if_neg hz]
        clear hlt hM
        go_wp2_with fail
        go_end0
        rw [hNN.out, hfin.out]
        exact ⟨rfl, hC.out, hFX.out.trans hF.out, hn'.out⟩
  · have e6 : (u.k == 6) = false := by simp [hk]
    have hr : Hid (ruleS d n 3 t = (n, 210)) := by rw [Hid, rule_pos]; simp [hkd.out.1, hk]
    clear hk
    go_wp2_with fail
    generalize w.alloc (.cells #[.int .i64 u.k, .int .i64 u.x, .string u.s, .slice u.an u.ln u.cn, .slice u.ai u.li u.ci] 25) = X at *
    go_loopw [9] (fun i wr => i = .int .i64 0 ∧ wr = X) (fun _ _ => 0)
    case atStart => exact ⟨rfl, rfl⟩
    case round =>
      obtain ⟨rfl, hwr⟩ := hrel
      replace hwr := hwr.symm
      subst hwr
      go_wp2_with fail
      refine (fails_any cb n 210 _ hck.out).mono ?_
      rintro e W9 ⟨rfl, hc9, hF9⟩
      have hfin := hid_of (rd_plain (e := .returned (.tuple #[])) hF0.out hle.out (hr.out) ⟨rfl, hc9, hF9⟩)
      clear hc9 hF9
      go_wp2_with fail
      go_end0
      exact hfin.out
set_option maxHeartbeats 8000000 in
set_option maxRecDepth 100000 in
theorem rd_anyOf (w0 : World) (cb d n : Nat) (t : Tr) (u : V5) (w : World) (h : Gd w0 w cb d n t u) (hO : Hid (∀ t' ∈ t.items, RdOk w0 t')) :
    Calls Tryz.prog 46 #[.pointer (some ⟨cb, 0, none⟩), .string wAnyOf, u.v, .int .i64 (d : Int)] w (RdPost w cb (ruleS d n 13 t)) := by
  have hb0 := hid_of ((Below.refl _ w).alloc (Nat.le_refl _) (u.obj 25))
  have hF0 := hid_of (Fr.of_below (S := fun b => b = cb) hb0.out)
  have hck := hid_of (h.ck.keep hb0.out)
  have hn0 := heap_alloc_new w (u.obj 25)
  obtain ⟨x0, x1, x2, x3, x4, -⟩ := row_cells hn0
  have hkd := hid_of (vrep_head h.rep)
  have hle := hid_of h.le
  obtain ⟨hrow, hli⟩ := rep_row h.rep
  replace hrow := hid_of (RowT.keep hrow h.env.old)
  replace hli := hid_of hli
  have hrow0 := hid_of (RowT.keep hrow.out hb0.out)
  have hsm := hid_of (small_parts h.small)
  have hrep := hid_of (VRep.keep h.env.old _ _ h.rep)
  have hbb : Hid (¬ w.heap.size = cb) := by have := h.ck.lt; show ¬ w.heap.size = cb; omega
  have hnp := hid_of (names_parts h.names).2
  have hrg := hid_of (range_parts h.range).2
  have hd1 : (d : Int) + 1 ≤ 100 := by have := h.d8; omega
  have hd9 : Hid (d + 1 ≤ 9) := by have := h.d8; show d + 1 ≤ 9; omega
  have hc1 : (((d + 1 : Nat) : Int)) = (d : Int) + 1 := by omega
  have hroww := hid_of (rep_row h.rep).1
  have hE0 := hid_of (h.env.fr hF0.out)
  obtain ⟨N, hNN⟩ : ∃ N, Hid (ruleS d n 13 t = N) := ⟨_, rfl⟩
  have hl := hid_of (rlist_any u t.items 1 false _ hli hrow0 hsm.out.1)
  obtain ⟨R, hR⟩ : ∃ R, Hid (listB u.k t.items 1 false = R) := ⟨_, rfl⟩
  rw [hR.out] at hl
  have hr0 : Hid (ruleS d n 13 t = if R = true then listS (d + 1) n t.items else (n, 210)) := by
    rw [Hid, rule_pos]
    simp only [Nat.reduceEqDiff, if_false, if_true, true_or, or_self]
    rw [← hR.out, hkd.out.1]
    by_cases hc : u.k = 5 ∧ t.items ≠ []
    · rw [if_pos hc, if_pos ((listB_enum _ _).2 hc)]
    · rw [if_neg hc, if_neg (fun h => hc ((listB_enum _ _).1 h))]
  unfold V5.obj at *
  unfold V5.v at *
  unfold wAnyOf
  clear h hn0
  go_enter Tryz.func46, Tryz.ntmps46
  go_wp2_with fail
  refine hl.out.mono ?_
  rintro e W ⟨rfl, hbW⟩
  have y0 := stay hbW x0; have y4 := stay hbW x4
  have hFX := hid_of (Fr.of_below (S := fun b => b = cb) (hb0.out.trans (hbW.mono hb0.out.size)))
  replace hck := hid_of (hck.out.keep hbW)
  replace hE0 := hid_of (hE0.out.fr (Fr.of_below hbW))
  clear x0 x1 x2 x3 x4 hbW hl
  cases R with
  | true =>
    have hM0 : Hid ((if (0 : Int) = 0 then listS (d + 1) n (t.items.drop 0) else (n, 0)) = N) := by
      rw [Hid, if_pos rfl, ← hNN.out, hr0.out]; rfl
    go_wp2_with fail
    have x0 := hid_of y0; have x4 := hid_of y4
    clear y0 y4
    go_loopw [10] (fun i wr => ∃ (q n' : Nat) (z : Int), q ≤ t.items.length ∧ i = .int .i64 q ∧ Hid (CkAt wr cb n' z) ∧ Hid (Fr (fun b => b = cb) W wr) ∧ Hid (n' ≤ 128) ∧ Hid ((if z = 0 then listS (d + 1) n' (t.items.drop q) else (n', z)) = N)) (fun i _ => t.items.length - (intOf i).toNat)
    case atStart => exact ⟨0, n, 0, Nat.zero_le _, rfl, hck.out, Fr.refl _ _, hle, hM0⟩
    case round =>
      obtain ⟨q, n', z, hq, rfl, hC, hF, hn', hM⟩ := hrel
      have b0 := hF.out.cell x0.out hbb.out; have b4 := hF.out.cell x4.out hbb.out
      obtain ⟨c0, c1, f0, f1⟩ := hC.out.cells
      have hqb : (q : Int) ≤ 1759218604390 := by have := hsm.out.1; omega
      by_cases hlt : q < t.items.length
      · have hi : (q : Int) < (u.li : Int) := by have := hli.out; omega
        by_cases hz : z = 0
        · subst hz
          obtain ⟨t', ht⟩ : ∃ t', Hid (t.items[q]? = some t') := ⟨_, hid_e (List.getElem?_eq_getElem hlt)⟩
          obtain ⟨g, o, hai, hg, hVL⟩ := hroww.out.resolve_left (by intro e; rw [e] at hlt; simp at hlt)
          obtain ⟨cs, hCs, hr⟩ := VRepL.at t.items o q t' hVL ht.out
          obtain ⟨v, rfl⟩ := vrep_v5 hr
          have hEr := hid_of (hE0.out.fr hF.out)
          unfold V5.cs five at hCs
          have z0 : wr.cell? ⟨g, o + q * 5 + 0, none⟩ = some (.int .i64 v.k) := (hEr.out.old.cell (p := ⟨g, o + q * 5 + 0, none⟩) hg).trans (hCs 0 _ rfl)
          have z1 : wr.cell? ⟨g, o + q * 5 + 1, none⟩ = some (.int .i64 v.x) := (hEr.out.old.cell (p := ⟨g, o + q * 5 + 1, none⟩) hg).trans (hCs 1 _ rfl)
          have z2 : wr.cell? ⟨g, o + q * 5 + 2, none⟩ = some (.string v.s) := (hEr.out.old.cell (p := ⟨g, o + q * 5 + 2, none⟩) hg).trans (hCs 2 _ rfl)
          have z3 : wr.cell? ⟨g, o + q * 5 + 3, none⟩ = some (.slice v.an v.ln v.cn) := (hEr.out.old.cell (p := ⟨g, o + q * 5 + 3, none⟩) hg).trans (hCs 3 _ rfl)
          have z4 : wr.cell? ⟨g, o + q * 5 + 4, none⟩ = some (.slice v.ai v.li v.ci) := (hEr.out.old.cell (p := ⟨g, o + q * 5 + 4, none⟩) hg).trans (hCs 4 _ rfl)
          simp only [Nat.add_zero] at z0
          have hcall := hid_of (hO.out t' (List.mem_of_getElem? ht.out) (d + 1) n' cb v wr hd9.out hn'.out hr (SmallL.at hsm.out.2.2.2.1 ht.out) (NamesL.at hnp.out ht.out) (RangeL.at hrg.out ht.out) hEr.out hC.out)
          have hst := hid_of (listS_from (d := d + 1) (n := n') ht.out)
          rw [hc1] at hcall
          generalize schemaS (d + 1) n' t' = R at hcall hst
          obtain ⟨n1, z1'⟩ := R
          have hM2 : Hid ((if z1' = 0 then listS (d + 1) n1 (t.items.drop (q + 1)) else (n1, z1')) = N) := by
            have h1 := hM.out
            rw [if_pos rfl, hst.out] at h1
            exact h1
          rw [hai] at b4
          unfold V5.v at hcall
          clear hVL hCs hr hg hst hM hai
          go_wp2_with fail
          refine hcall.out.mono ?_
          rintro e W1 ⟨rfl, hc9, hF9, hle9⟩
          have hF2 := hid_of (hF.out.trans hF9)
          replace hc9 := hid_of hc9
          clear hF9 hcall b0 b4 c0 c1 f0 f1 z0 z1 z2 z3 z4
          go_wp2_with fail
          go_roundw
          case rel => exact ⟨q + 1, n1, z1', by omega, by go_num, hc9, hF2, hle9, hM2⟩
          case measure => simp [intOf]; omega
        · have ez : (z == 0) = false := by simp [hz]
          have hfin : Hid (N = (n', z)) := by rw [Hid, ← hM.out, if_neg hz]
          clear hz hM
          go_wp2_with fail
          go_end0
          rw [hNN.out, hfin.out]
          exact ⟨rfl, hC.out, hFX.out.trans hF.out, hn'.out⟩
      · have hi : ¬ (q : Int) < (u.li : Int) := by have := hli.out; omega
        have hfin : Hid (N = (n', z)) := by
          rw [Hid, ← hM.out, List.drop_eq_nil_of_le (by omega), listS]
          by_cases hz : z = 0
          · rw [if_pos hz, hz]
          · rw [if_neg hz]
        clear hlt hM
        go_wp2_with fail
        go_end0
        rw [hNN.out, hfin.out]
        exact ⟨rfl, hC.out, hFX.out.trans hF.out, hn'.out⟩
  | false =>
    have hr : Hid (ruleS d n 13 t = (n, 210)) := by rw [Hid, hr0.out]; rfl
    go_wp2_with fail
    go_loopw [10] (fun i wr => i = .int .i64 0 ∧ wr = W) (fun _ _ => 0)
    case atStart => exact ⟨rfl, rfl⟩
    case round =>
      obtain ⟨rfl, hwr⟩ := hrel
      replace hwr := hwr.symm
      subst hwr
      go_wp2_with fail
      refine (fails_any cb n 210 _ hck.out).mono ?_
      rintro e W9 ⟨rfl, hc9, hF9⟩
      have hfin := hid_of (rd_plain (e := .returned (.tuple #[])) hFX.out hle.out (hr.out) ⟨rfl, hc9, hF9⟩)
      clear hc9 hF9
      go_wp2_with fail
      go_end0
      exact hfin.out
set_option maxHeartbeats 8000000 in
set_option maxRecDepth 100000 in
theorem rd_allOf (w0 : World) (cb d n : Nat) (t : Tr) (u : V5) (w : World) (h : Gd w0 w cb d n t u) (hO : Hid (∀ t' ∈ t.items, RdOk w0 t')) :
    Calls Tryz.prog 46 #[.pointer (some ⟨cb, 0, none⟩), .string wAllOf, u.v, .int .i64 (d : Int)] w (RdPost w cb (ruleS d n 14 t)) := by
  have hb0 := hid_of ((Below.refl _ w).alloc (Nat.le_refl _) (u.obj 25))
  have hF0 := hid_of (Fr.of_below (S := fun b => b = cb) hb0.out)
  have hck := hid_of (h.ck.keep hb0.out)
  have hn0 := heap_alloc_new w (u.obj 25)
  obtain ⟨x0, x1, x2, x3, x4, -⟩ := row_cells hn0
  have hkd := hid_of (vrep_head h.rep)
  have hle := hid_of h.le
  obtain ⟨hrow, hli⟩ := rep_row h.rep
  replace hrow := hid_of (RowT.keep hrow h.env.old)
  replace hli := hid_of hli
  have hrow0 := hid_of (RowT.keep hrow.out hb0.out)
  have hsm := hid_of (small_parts h.small)
  have hrep := hid_of (VRep.keep h.env.old _ _ h.rep)
  have hbb : Hid (¬ w.heap.size = cb) := by have := h.ck.lt; show ¬ w.heap.size = cb; omega
  have hnp := hid_of (names_parts h.names).2
  have hrg := hid_of (range_parts h.range).2
  have hd1 : (d : Int) + 1 ≤ 100 := by have := h.d8; omega
  have hd9 : Hid (d + 1 ≤ 9) := by have := h.d8; show d + 1 ≤ 9; omega
  have hc1 : (((d + 1 : Nat) : Int)) = (d : Int) + 1 := by omega
  have hroww := hid_of (rep_row h.rep).1
  have hE0 := hid_of (h.env.fr hF0.out)
  obtain ⟨N, hNN⟩ : ∃ N, Hid (ruleS d n 14 t = N) := ⟨_, rfl⟩
  have hl := hid_of (rlist_any u t.items 1 false _ hli hrow0 hsm.out.1)
  obtain ⟨R, hR⟩ : ∃ R, Hid (listB u.k t.items 1 false = R) := ⟨_, rfl⟩
  rw [hR.out] at hl
  have hr0 : Hid (ruleS d n 14 t = if R = true then listS (d + 1) n t.items else (n, 210)) := by
    rw [Hid, rule_pos]
    simp only [Nat.reduceEqDiff, if_false, if_true, or_true, or_self]
    rw [← hR.out, hkd.out.1]
    by_cases hc : u.k = 5 ∧ t.items ≠ []
    · rw [if_pos hc, if_pos ((listB_enum _ _).2 hc)]
    · rw [if_neg hc, if_neg (fun h => hc ((listB_enum _ _).1 h))]
  unfold V5.obj at *
  unfold V5.v at *
  unfold wAllOf
  clear h hn0
  go_enter Tryz.func46, Tryz.ntmps46
  go_wp2_with fail
  refine hl.out.mono ?_
  rintro e W ⟨rfl, hbW⟩
  have y0 := stay hbW x0; have y4 := stay hbW x4
  have hFX := hid_of (Fr.of_below (S := fun b => b = cb) (hb0.out.trans (hbW.mono hb0.out.size)))
  replace hck := hid_of (hck.out.keep hbW)
  replace hE0 := hid_of (hE0.out.fr (Fr.of_below hbW))
  clear x0 x1 x2 x3 x4 hbW hl
  cases R with
  | true =>
    have hM0 : Hid ((if (0 : Int) = 0 then listS (d + 1) n (t.items.drop 0) else (n, 0)) = N) := by
      rw [Hid, if_pos rfl, ← hNN.out, hr0.out]; rfl
    go_wp2_with fail
    have x0 := hid_of y0; have x4 := hid_of y4
    clear y0 y4
    go_loopw [10] (fun i wr => ∃ (q n' : Nat) (z : Int), q ≤ t.items.length ∧ i = .int .i64 q ∧ Hid (CkAt wr cb n' z) ∧ Hid (Fr (fun b => b = cb) W wr) ∧ Hid (n' ≤ 128) ∧ Hid ((if z = 0 then listS (d + 1) n' (t.items.drop q) else (n', z)) = N)) (fun i _ => t.items.length - (intOf i).toNat)
    case atStart => exact ⟨0, n, 0, Nat.zero_le _, rfl, hck.out, Fr.refl _ _, hle, hM0⟩
    case round =>
      obtain ⟨q, n', z, hq, rfl, hC, hF, hn', hM⟩ := hrel
      have b0 := hF.out.cell x0.out hbb.out; have b4 := hF.out.cell x4.out hbb.out
      obtain ⟨c0, c1, f0, f1⟩ := hC.out.cells
      have hqb : (q : Int) ≤ 1759218604390 := by have := hsm.out.1; omega
      by_cases hlt : q < t.items.length
      · have hi : (q : Int) < (u.li : Int) := by have := hli.out; omega
        by_cases hz : z = 0
        · subst hz
          obtain ⟨t', ht⟩ : ∃ t', Hid (t.items[q]? = some t') := ⟨_, hid_e (List.getElem?_eq_getElem hlt)⟩
          obtain ⟨g, o, hai, hg, hVL⟩ := hroww.out.resolve_left (by intro e; rw [e] at hlt; simp at hlt)
          obtain ⟨cs, hCs, hr⟩ := VRepL.at t.items o q t' hVL ht.out
          obtain ⟨v, rfl⟩ := vrep_v5 hr
          have hEr := hid_of (hE0.out.fr hF.out)
          unfold V5.cs five at hCs
          have z0 : wr.cell? ⟨g, o + q * 5 + 0, none⟩ = some (.int .i64 v.k) := (hEr.out.old.cell (p := ⟨g, o + q * 5 + 0, none⟩) hg).trans (hCs 0 _ rfl)
          have z1 : wr.cell? ⟨g, o + q * 5 + 1, none⟩ = some (.int .i64 v.x) := (hEr.out.old.cell (p := ⟨g, o + q * 5 + 1, none⟩) hg).trans (hCs 1 _ rfl)
          have z2 : wr.cell? ⟨g, o + q * 5 + 2, none⟩ = some (.string v.s) := (hEr.out.old.cell (p := ⟨g, o + q * 5 + 2, none⟩) hg).trans (hCs 2 _ rfl)
          have z3 : wr.cell? ⟨g, o + q * 5 + 3, none⟩ = some (.slice v.an v.ln v.cn) := (hEr.out.old.cell (p := ⟨g, o + q * 5 + 3, none⟩) hg).trans (hCs 3 _ rfl)
          have z4 : wr.cell? ⟨g, o + q * 5 + 4, none⟩ = some (.slice v.ai v.li v.ci) := (hEr.out.old.cell (p := ⟨g, o + q * 5 + 4, none⟩) hg).trans (hCs 4 _ rfl)
          simp only [Nat.add_zero] at z0
          have hcall := hid_of (hO.out t' (List.mem_of_getElem? ht.out) (d + 1) n' cb v wr hd9.out hn'.out hr (SmallL.at hsm.out.2.2.2.1 ht.out) (NamesL.at hnp.out ht.out) (RangeL.at hrg.out ht.out) hEr.out hC.out)
          have hst := hid_of (listS_from (d := d + 1) (n := n') ht.out)
          rw [hc1] at hcall
          generalize schemaS (d + 1) n' t' = R at hcall hst
          obtain ⟨n1, z1'⟩ := R
          have hM2 : Hid ((if z1' = 0 then listS (d + 1) n1 (t.items.drop (q + 1)) else (n1, z1')) = N) := by
            have h1 := hM.out
            rw [if_pos rfl, hst.out] at h1
            exact h1
          rw [hai] at b4
          unfold V5.v at hcall
          clear hVL hCs hr hg hst hM hai
          go_wp2_with fail
          refine hcall.out.mono ?_
          rintro e W1 ⟨rfl, hc9, hF9, hle9⟩
          have hF2 := hid_of (hF.out.trans hF9)
          replace hc9 := hid_of hc9
          clear hF9 hcall b0 b4 c0 c1 f0 f1 z0 z1 z2 z3 z4
          go_wp2_with fail
          go_roundw
          case rel => exact ⟨q + 1, n1, z1', by omega, by go_num, hc9, hF2, hle9, hM2⟩
          case measure => simp [intOf]; omega
        · have ez : (z == 0) = false := by simp [hz]
          have hfin : Hid (N = (n', z)) := by rw [Hid, ← hM.out, if_neg hz]
          clear hz hM
          go_wp2_with fail
          go_end0
          rw [hNN.out, hfin.out]
          exact ⟨rfl, hC.out, hFX.out.trans hF.out, hn'.out⟩
      · have hi : ¬ (q : Int) < (u.li : Int) := by have := hli.out; omega
        have hfin : Hid (N = (n', z)) := by
          rw [Hid, ← hM.out, List.drop_eq_nil_of_le (by omega), listS]
          by_cases hz : z = 0
          · rw [if_pos hz, hz]
          · rw [if_neg hz]
        clear hlt hM
        go_wp2_with fail
        go_end0
        rw [hNN.out, hfin.out]
        exact ⟨rfl, hC.out, hFX.out.trans hF.out, hn'.out⟩
  | false =>
    have hr : Hid (ruleS d n 14 t = (n, 210)) := by rw [Hid, hr0.out]; rfl
    go_wp2_with fail
    go_loopw [10] (fun i wr => i = .int .i64 0 ∧ wr = W) (fun _ _ => 0)
    case atStart => exact ⟨rfl, rfl⟩
    case round =>
      obtain ⟨rfl, hwr⟩ := hrel
      replace hwr := hwr.symm
      subst hwr
      go_wp2_with fail
      refine (fails_any cb n 210 _ hck.out).mono ?_
      rintro e W9 ⟨rfl, hc9, hF9⟩
      have hfin := hid_of (rd_plain (e := .returned (.tuple #[])) hFX.out hle.out (hr.out) ⟨rfl, hc9, hF9⟩)
      clear hc9 hF9
      go_wp2_with fail
      go_end0
      exact hfin.out
set_option maxHeartbeats 8000000 in
set_option maxRecDepth 100000 in
theorem rd_items (w0 : World) (cb d n : Nat) (t : Tr) (u : V5) (w : World) (h : Gd w0 w cb d n t u) (hO : RdOk w0 t) :
    Calls Tryz.prog 46 #[.pointer (some ⟨cb, 0, none⟩), .string wItems, u.v, .int .i64 (d : Int)] w (RdPost w cb (ruleS d n 5 t)) := by
  have hb0 := hid_of ((Below.refl _ w).alloc (Nat.le_refl _) (u.obj 25))
  have hF0 := hid_of (Fr.of_below (S := fun b => b = cb) hb0.out)
  have hck := hid_of (h.ck.keep hb0.out)
  have hn0 := heap_alloc_new w (u.obj 25)
  obtain ⟨x0, x1, x2, x3, x4, -⟩ := row_cells hn0
  have hkd := hid_of (vrep_head h.rep)
  have hle := hid_of h.le
  obtain ⟨hrow, hli⟩ := rep_row h.rep
  replace hrow := hid_of (RowT.keep hrow h.env.old)
  replace hli := hid_of hli
  have hrow0 := hid_of (RowT.keep hrow.out hb0.out)
  have hsm := hid_of (small_parts h.small)
  have hrep := hid_of (VRep.keep h.env.old _ _ h.rep)
  have hd1 : (d : Int) + 1 ≤ 100 := by have := h.d8; omega
  have hc1 : (((d + 1 : Nat) : Int)) = (d : Int) + 1 := by omega
  have hcall := hid_of (hO (d + 1) n cb u _ (by have := h.d8; omega) h.le h.rep h.small h.names h.range (h.env.fr hF0.out) hck.out)
  have hr : Hid (ruleS d n 5 t = schemaS (d + 1) n t) := by rw [Hid, rule_pos]; simp
  rw [hc1] at hcall
  unfold V5.obj at *
  unfold V5.v at *
  unfold wItems
  clear h hn0 hc1
  go_enter Tryz.func46, Tryz.ntmps46
  go_wp2_with fail
  refine hcall.out.mono ?_
  rintro e W ⟨rfl, hc9, hF9, hle9⟩
  have hfin : Hid (RdPost w cb (ruleS d n 5 t) (.returned (.tuple #[])) W) := by
    rw [hr.out]; exact ⟨rfl, hc9, hF0.out.trans hF9, hle9⟩
  clear hcall hc9 hF9 x0 x1 x2 x3 x4
  go_wp2_with fail
  go_end0
  exact hfin.out
set_option maxHeartbeats 8000000 in
set_option maxRecDepth 100000 in
theorem rd_not (w0 : World) (cb d n : Nat) (t : Tr) (u : V5) (w : World) (h : Gd w0 w cb d n t u) (hO : RdOk w0 t) :
    Calls Tryz.prog 46 #[.pointer (some ⟨cb, 0, none⟩), .string wNot, u.v, .int .i64 (d : Int)] w (RdPost w cb (ruleS d n 15 t)) := by
  have hb0 := hid_of ((Below.refl _ w).alloc (Nat.le_refl _) (u.obj 25))
  have hF0 := hid_of (Fr.of_below (S := fun b => b = cb) hb0.out)
  have hck := hid_of (h.ck.keep hb0.out)
  have hn0 := heap_alloc_new w (u.obj 25)
  obtain ⟨x0, x1, x2, x3, x4, -⟩ := row_cells hn0
  have hkd := hid_of (vrep_head h.rep)
  have hle := hid_of h.le
  obtain ⟨hrow, hli⟩ := rep_row h.rep
  replace hrow := hid_of (RowT.keep hrow h.env.old)
  replace hli := hid_of hli
  have hrow0 := hid_of (RowT.keep hrow.out hb0.out)
  have hsm := hid_of (small_parts h.small)
  have hrep := hid_of (VRep.keep h.env.old _ _ h.rep)
  have hd1 : (d : Int) + 1 ≤ 100 := by have := h.d8; omega
  have hc1 : (((d + 1 : Nat) : Int)) = (d : Int) + 1 := by omega
  have hcall := hid_of (hO (d + 1) n cb u _ (by have := h.d8; omega) h.le h.rep h.small h.names h.range (h.env.fr hF0.out) hck.out)
  have hr : Hid (ruleS d n 15 t = schemaS (d + 1) n t) := by rw [Hid, rule_pos]; simp
  rw [hc1] at hcall
  unfold V5.obj at *
  unfold V5.v at *
  unfold wNot
  clear h hn0 hc1
  go_enter Tryz.func46, Tryz.ntmps46
  go_wp2_with fail
  refine hcall.out.mono ?_
  rintro e W ⟨rfl, hc9, hF9, hle9⟩
  have hfin : Hid (RdPost w cb (ruleS d n 15 t) (.returned (.tuple #[])) W) := by
    rw [hr.out]; exact ⟨rfl, hc9, hF0.out.trans hF9, hle9⟩
  clear hcall hc9 hF9 x0 x1 x2 x3 x4
  go_wp2_with fail
  go_end0
  exact hfin.out
end Go.Proofs.YtgjemghfejaifaaGreatDoor
