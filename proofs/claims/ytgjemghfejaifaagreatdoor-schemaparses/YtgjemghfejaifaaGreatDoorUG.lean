import Derived.Test.YtgjemghfejaifaaGreatDoorUE
import Derived.Deep.RegionHeld3
/-! The document's reader of schemas: the rule by its word. -/
namespace Go.Proofs.YtgjemghfejaifaaGreatDoor
open Go Go.RowKit

theorem rd_rule (w0 : World) (cb d n : Nat) (s : ByteArray) (t : Tr) (u : V5) (w : World) (h : Gd w0 w cb d n t u) (hO : RdOk w0 t) (hOs : ∀ t' ∈ t.items, RdOk w0 t') :
    Calls Tryz.prog 46 #[.pointer (some ⟨cb, 0, none⟩), .string s, u.v, .int .i64 (d : Int)] w (RdPost w cb (ruleS d n (wordNo s) t)) := by
  by_cases h0 : s = wType
  · subst h0; rw [no_0]; exact rd_type w0 cb d n t u w h
  by_cases h1 : s = wEnum
  · subst h1; rw [no_1]; exact rd_enum w0 cb d n t u w h
  by_cases h2 : s = wRequired
  · subst h2; rw [no_2]; exact rd_required w0 cb d n t u w h
  by_cases h3 : s = wProperties
  · subst h3; rw [no_3]; exact rd_properties w0 cb d n t u w h (hid_of hOs)
  by_cases h4 : s = wAdditional
  · subst h4; rw [no_4]; exact rd_additional w0 cb d n t u w h
  by_cases h5 : s = wItems
  · subst h5; rw [no_5]; exact rd_items w0 cb d n t u w h hO
  by_cases h6 : s = wMinItems
  · subst h6; rw [no_6]; exact rd_minItems w0 cb d n t u w h
  by_cases h7 : s = wMaxItems
  · subst h7; rw [no_7]; exact rd_maxItems w0 cb d n t u w h
  by_cases h8 : s = wMinLength
  · subst h8; rw [no_8]; exact rd_minLength w0 cb d n t u w h
  by_cases h9 : s = wMaxLength
  · subst h9; rw [no_9]; exact rd_maxLength w0 cb d n t u w h
  by_cases h10 : s = wMinimum
  · subst h10; rw [no_10]; exact rd_minimum w0 cb d n t u w h
  by_cases h11 : s = wMaximum
  · subst h11; rw [no_11]; exact rd_maximum w0 cb d n t u w h
  by_cases h12 : s = wDivisible
  · subst h12; rw [no_12]; exact rd_divisible w0 cb d n t u w h
  by_cases h13 : s = wAnyOf
  · subst h13; rw [no_13]; exact rd_anyOf w0 cb d n t u w h (hid_of hOs)
  by_cases h14 : s = wAllOf
  · subst h14; rw [no_14]; exact rd_allOf w0 cb d n t u w h (hid_of hOs)
  by_cases h15 : s = wNot
  · subst h15; rw [no_15]; exact rd_not w0 cb d n t u w h hO
  rw [no_16 ⟨h0, h1, h2, h3, h4, h5, h6, h7, h8, h9, h10, h11, h12, h13, h14, h15⟩]
  exact rd_none w0 cb d n t u s w h ⟨h0, h1, h2, h3, h4, h5, h6, h7, h8, h9, h10, h11, h12, h13, h14, h15⟩
end Go.Proofs.YtgjemghfejaifaaGreatDoor
/-! The document's reader of schemas: a schema. -/
namespace Go.Proofs.YtgjemghfejaifaaGreatDoor
open Go Go.RowKit

set_option maxHeartbeats 8000000 in
set_option maxRecDepth 100000 in
theorem rd_schema (w0 : World) (t : Tr) (hO : Hid (∀ t' ∈ t.items, RdOk w0 t' ∧ ∀ t'' ∈ t'.items, RdOk w0 t'')) (d n cb : Nat) (u : V5) (w : World) (hd : d ≤ 9) (hn : Hid (n ≤ 128)) (hV : VRep w0 t u.cs) (hS : Hid (SmallT t)) (hN : Hid (NamesT t)) (hR : Hid (RangeT t)) (hE : Hid (EnvD w0 w cb)) (hC : Hid (CkAt w cb n 0)) :
    Calls Tryz.prog 21 #[.pointer (some ⟨cb, 0, none⟩), u.v, .int .i64 (d : Int)] w (RdPost w cb (schemaS d n t)) := by
  have hbb : Hid (¬ w.heap.size = cb) := by have := hC.out.lt; show ¬ w.heap.size = cb; omega
  have hb0 := hid_of ((Below.refl _ w).alloc (Nat.le_refl _) (u.obj 25))
  have hF0 := hid_of (Fr.of_below (S := fun b => b = cb) hb0.out)
  have hck := hid_of (hC.out.keep hb0.out)
  have hn0 := heap_alloc_new w (u.obj 25)
  obtain ⟨x0, x1, x2, x3, x4, -⟩ := row_cells hn0
  obtain ⟨hrow, hli⟩ := rep_row hV
  obtain ⟨hnam, hnl⟩ := rep_names hV
  have hkd := hid_of (vrep_head hV).1
  have hsm := hid_of (small_parts hS.out)
  have hnp := hid_of (names_parts hN.out)
  have hrg := hid_of (range_parts hR.out).2
  have hE0 := hid_of (hE.out.fr hF0.out)
  obtain ⟨N, hNN⟩ : ∃ N, Hid (schemaS d n t = N) := ⟨_, rfl⟩
  replace hrow := hid_of hrow; replace hnam := hid_of hnam; replace hli := hid_of hli; replace hnl := hid_of hnl; replace hV := hid_of hV
  unfold V5.obj at *
  unfold V5.v
  clear hn0
  go_enter Tryz.func21, Tryz.ntmps21
  by_cases hk : u.k = 6
  · have hb6 : (u.k != 6) = false := by simp [hk]
    have hk6 : Hid (t.kind = 6) := by rw [Hid, hkd.out]; exact hk
    clear hk hkd
    by_cases hd8 : 8 < d
    · have hb8 : decide ((d : Int) > 8) = true := by simp; omega
      have hr : Hid (schemaS d n t = (n, 211)) := by rw [Hid]; unfold schemaS; rw [if_pos hk6.out, if_pos hd8]
      clear hd8
      go_wp2_with fail
      refine (fails_any cb n 211 _ hck.out).mono ?_
      rintro e W9 ⟨rfl, hc9, hF9⟩
      have hfin := hid_of (rd_plain (e := .returned (.tuple #[])) hF0.out hn.out (hr.out) ⟨rfl, hc9, hF9⟩)
      clear hc9 hF9
      go_wp2_with fail
      go_end0
      exact hfin.out
    · have hb8 : decide ((d : Int) > 8) = false := by simp; omega
      have hd8' : Hid (d ≤ 8) := by show d ≤ 8; omega
      have hM0 : Hid ((if (0 : Int) = 0 then membersS d n (t.names.drop 0) (t.items.drop 0) else (n, 0)) = N) := by
        rw [Hid, if_pos rfl, ← hNN.out]; unfold schemaS; rw [if_pos hk6.out, if_neg hd8]; rfl
      have hlN : Hid (t.names.length = t.items.length) := hnp.out.1 hk6.out
      clear hd8
      go_wp2_with fail
      generalize w.alloc (.cells #[.int .i64 u.k, .int .i64 u.x, .string u.s, .slice u.an u.ln u.cn, .slice u.ai u.li u.ci] 25) = X at *
      replace x3 := hid_of x3; replace x4 := hid_of x4
      clear x0 x1 x2
      go_loopw [6] (fun i wr => ∃ (q n' : Nat) (z : Int), q ≤ t.items.length ∧ i = .int .i64 q ∧ Hid (CkAt wr cb n' z) ∧ Hid (Fr (fun b => b = cb) X wr) ∧ Hid (n' ≤ 128) ∧ Hid ((if z = 0 then membersS d n' (t.names.drop q) (t.items.drop q) else (n', z)) = N)) (fun i _ => t.items.length - (intOf i).toNat)
      case atStart => exact ⟨0, n, 0, Nat.zero_le _, rfl, hck.out, Fr.refl _ _, hn, hM0⟩
      case round =>
        obtain ⟨q, n', z, hq, rfl, hCr, hF, hn', hM⟩ := hrel
        have b3 := hF.out.cell x3.out hbb.out; have b4 := hF.out.cell x4.out hbb.out
        obtain ⟨c0, c1, f0, f1⟩ := hCr.out.cells
        have hqb : (q : Int) ≤ 1759218604390 := by have := hsm.out.1; omega
        by_cases hlt : q < t.items.length
        · have hi : (q : Int) < (u.li : Int) := by have := hli.out; omega
          by_cases hz : z = 0
          · subst hz
            obtain ⟨t', ht⟩ : ∃ t', Hid (t.items[q]? = some t') := ⟨_, hid_e (List.getElem?_eq_getElem hlt)⟩
            obtain ⟨s, hs⟩ : ∃ s, Hid (t.names[q]? = some s) := ⟨_, hid_e (List.getElem?_eq_getElem (by rw [hlN.out]; exact hlt))⟩
            have hst := hid_of (membersS_at (d := d) (n := n') hs.out ht.out)
            unfold ruleN at hst
            have hEr := hid_of (hE0.out.fr hF.out)
            by_cases h128 : n' = 128
            · subst h128
              have hge : decide ((((128 : Nat)) : Int) ≥ 128) = true := by decide
              have hfin0 : Hid (N = (128, 211)) := by
                rw [Hid, ← hM.out, if_pos rfl, hst.out]; simp
              clear hM hst
              go_wp2_with fail
              refine (fails_any cb 128 211 _ hCr.out).mono ?_
              rintro e W9 ⟨rfl, hc9, hF9⟩
              have hfin : Hid (RdPost w cb (schemaS d n t) (.returned (.tuple #[])) W9) := by
                rw [hNN.out, hfin0.out]; exact ⟨rfl, hc9, (hF0.out.trans hF.out).trans hF9, by decide⟩
              clear hc9 hF9
              go_wp2_with fail
              go_end0
              exact hfin.out
            · have hge : decide ((n' : Int) ≥ 128) = false := by have := hn'.out; simp; omega
              have hnb : (n' : Int) ≤ 128 := by have := hn'.out; omega
              have hFY := hid_of (hF.out.set ⟨cb, 0, none⟩ (.int .i64 ((n' : Int) + 1)) (.inl rfl))
              have hCY := hid_of (hCr.out.set0 ((n' : Int) + 1) (n' + 1) (by omega))
              obtain ⟨g, o, hai, hg, hVL⟩ := hrow.out.resolve_left (by intro e; rw [e] at hlt; simp at hlt)
              obtain ⟨cs, hCs, hr⟩ := VRepL.at t.items o q t' hVL ht.out
              obtain ⟨v, rfl⟩ := vrep_v5 hr
              obtain ⟨an', cn', e2, hc, h0⟩ := hnam.out
              simp only [Value.slice.injEq] at e2
              obtain ⟨e3, -, e4⟩ := e2
              obtain ⟨gn, on, e5, hgn, hA⟩ := h0.resolve_left (by intro e; have := hlN.out; rw [e] at this; simp at this; omega)
              rw [← e3] at e5
              have hi2 : (q : Int) < (u.ln : Int) := by have h1 := hnl.out; have h2 := hlN.out; omega
              have hot := hO.out t' (List.mem_of_getElem? ht.out)
              have hst2 : Hid (membersS d n' (t.names.drop q) (t.items.drop q) = if (ruleS d (n' + 1) (wordNo s) t').2 = 0 then membersS d (ruleS d (n' + 1) (wordNo s) t').1 (t.names.drop (q + 1)) (t.items.drop (q + 1)) else ruleS d (n' + 1) (wordNo s) t') := by
                have := hst.out
                rw [if_neg h128] at this
                exact this
              have hn9 : Hid (n' + 1 ≤ 128) := by have := hn'.out; show n' + 1 ≤ 128; omega
              clear hst h128
              rw [hai] at b4
              rw [e5] at b3
              rw [e5, hai]
              go_upto_region 11 with fail
              generalize wr.setCell ⟨cb, 0, none⟩ (.int .i64 ((n' : Int) + 1)) = Y at *
              have hEY := hid_of (hE0.out.fr hFY.out)
              have b3 : Y.drew.cell? ⟨w.heap.size, 3, none⟩ = some (.slice (some ⟨gn, on, none⟩) u.ln u.cn) := by rw [← e5]; exact hFY.out.cell x3.out hbb.out
              have b4 : Y.drew.cell? ⟨w.heap.size, 4, none⟩ = some (.slice (some ⟨g, o, none⟩) u.li u.ci) := by rw [← hai]; exact hFY.out.cell x4.out hbb.out
              have nm0 : Y.drew.cell? ⟨gn, on + q, none⟩ = some (.string s) := (hEY.out.old.cell (p := ⟨gn, on + q, none⟩) hgn).trans (hA q s hs.out)
              unfold V5.cs five at hCs
              have z0 : Y.drew.cell? ⟨g, o + q * 5 + 0, none⟩ = some (.int .i64 v.k) := (hEY.out.old.cell (p := ⟨g, o + q * 5 + 0, none⟩) hg).trans (hCs 0 _ rfl)
              have z1 : Y.drew.cell? ⟨g, o + q * 5 + 1, none⟩ = some (.int .i64 v.x) := (hEY.out.old.cell (p := ⟨g, o + q * 5 + 1, none⟩) hg).trans (hCs 1 _ rfl)
              have z2 : Y.drew.cell? ⟨g, o + q * 5 + 2, none⟩ = some (.string v.s) := (hEY.out.old.cell (p := ⟨g, o + q * 5 + 2, none⟩) hg).trans (hCs 2 _ rfl)
              have z3 : Y.drew.cell? ⟨g, o + q * 5 + 3, none⟩ = some (.slice v.an v.ln v.cn) := (hEY.out.old.cell (p := ⟨g, o + q * 5 + 3, none⟩) hg).trans (hCs 3 _ rfl)
              have z4 : Y.drew.cell? ⟨g, o + q * 5 + 4, none⟩ = some (.slice v.ai v.li v.ci) := (hEY.out.old.cell (p := ⟨g, o + q * 5 + 4, none⟩) hg).trans (hCs 4 _ rfl)
              simp only [Nat.add_zero] at z0
              have hgb : Hid (¬ g = cb) := by have := hEr.out.base; show ¬ g = cb; omega
              have hgnb : Hid (¬ gn = cb) := by have := hEr.out.base; show ¬ gn = cb; omega
              have hrule := hid_of (rd_rule w0 cb d (n' + 1) s t' v Y.drew ⟨hd8'.out, hn9.out, hr, SmallL.at hsm.out.2.2.2.1 ht.out, NamesL.at hnp.out.2 ht.out, RangeL.at hrg.out ht.out, ⟨hEY.out.base, hEY.out.old.trans (((Fr.refl (fun _ => False) Y).drew).below hEY.out.old.size (fun _ h => h.elim))⟩, hCY.out⟩ hot.1 hot.2)
              have hFd : Hid (Fr (fun b => b = cb) X Y.drew) := hFY.out.drew
              generalize ruleS d (n' + 1) (wordNo s) t' = R at hrule hst2
              unfold V5.v at hrule
              clear hVL hCs hr h0 hA hc hot hgn hg e3 e4 e5 hai c0 c1 f0 f1
              go_region_held3 (fun W => W.cell? ⟨w.heap.size, 3, none⟩ = some (.slice (some ⟨gn, on, none⟩) u.ln u.cn) ∧ W.cell? ⟨w.heap.size, 4, none⟩ = some (.slice (some ⟨g, o, none⟩) u.li u.ci) ∧ W.cell? ⟨gn, on + q, none⟩ = some (.string s) ∧ W.cell? ⟨g, o + q * 5, none⟩ = some (.int .i64 v.k) ∧ W.cell? ⟨g, o + q * 5 + 1, none⟩ = some (.int .i64 v.x) ∧ W.cell? ⟨g, o + q * 5 + 2, none⟩ = some (.string v.s) ∧ W.cell? ⟨g, o + q * 5 + 3, none⟩ = some (.slice v.an v.ln v.cn) ∧ W.cell? ⟨g, o + q * 5 + 4, none⟩ = some (.slice v.ai v.li v.ci)) (go_keep) (first
                | (go_at_call 46; refine hrule.out.mono ?_; rintro e W1 ⟨rfl, hc9, hF1, hle9⟩; have b3' : W1.cell? ⟨w.heap.size, 3, none⟩ = some (.slice (some ⟨gn, on, none⟩) u.ln u.cn) := hF1.cell b3 hbb.out; have b4' : W1.cell? ⟨w.heap.size, 4, none⟩ = some (.slice (some ⟨g, o, none⟩) u.li u.ci) := hF1.cell b4 hbb.out; have nm0' : W1.cell? ⟨gn, on + q, none⟩ = some (.string s) := hF1.cell nm0 hgnb.out; have z0' : W1.cell? ⟨g, o + q * 5, none⟩ = some (.int .i64 v.k) := hF1.cell z0 hgb.out; have z1' : W1.cell? ⟨g, o + q * 5 + 1, none⟩ = some (.int .i64 v.x) := hF1.cell z1 hgb.out; have z2' : W1.cell? ⟨g, o + q * 5 + 2, none⟩ = some (.string v.s) := hF1.cell z2 hgb.out; have z3' : W1.cell? ⟨g, o + q * 5 + 3, none⟩ = some (.slice v.an v.ln v.cn) := hF1.cell z3 hgb.out; have z4' : W1.cell? ⟨g, o + q * 5 + 4, none⟩ = some (.slice v.ai v.li v.ci) := hF1.cell z4 hgb.out; replace hF1 := hid_of hF1; replace hc9 := hid_of hc9; replace hle9 := hid_of hle9; clear b3 b4 nm0 z0 z1 z2 z3 z4))
              have hF2 : Hid (Fr (fun b => b = cb) X W1) := hFd.out.trans hF1.out
              clear b3' b4' nm0' z0' z1' z2' z3' z4' hrule
              obtain ⟨n1, z1'⟩ := R
              have hM2 : Hid ((if z1' = 0 then membersS d n1 (t.names.drop (q + 1)) (t.items.drop (q + 1)) else (n1, z1')) = N) := by
                have h1 := hM.out
                rw [if_pos trivial, hst2.out] at h1
                exact h1
              clear hst2 hM
              go_wp2_with fail
              go_roundw
              case rel => exact ⟨q + 1, n1, z1', by omega, by go_num, hc9, hF2, hle9, hM2⟩
              case measure => simp [intOf]; omega
          · have ez : (z == 0) = false := by simp [hz]
            have hfin : Hid (N = (n', z)) := by rw [Hid, ← hM.out, if_neg hz]
            clear hz hM
            go_wp2_with fail
            go_end0
            rw [hNN.out, hfin.out]
            exact ⟨rfl, hCr.out, hF0.out.trans hF.out, hn'.out⟩
        · have hi : ¬ (q : Int) < (u.li : Int) := by have := hli.out; omega
          have hfin : Hid (N = (n', z)) := by
            rw [Hid, ← hM.out, List.drop_eq_nil_of_le (by omega : t.items.length ≤ q), membersS]
            by_cases hz : z = 0
            · rw [if_pos hz, hz]
            · rw [if_neg hz]
          clear hlt hM
          go_wp2_with fail
          go_end0
          rw [hNN.out, hfin.out]
          exact ⟨rfl, hCr.out, hF0.out.trans hF.out, hn'.out⟩
  · have hb6 : (u.k != 6) = true := by simp [hk]
    have hr : Hid (schemaS d n t = (n, 210)) := by rw [Hid]; unfold schemaS; rw [if_neg (by rw [hkd.out]; exact hk)]
    clear hk
    go_wp2_with fail
    refine (fails_any cb n 210 _ hck.out).mono ?_
    rintro e W9 ⟨rfl, hc9, hF9⟩
    have hfin := hid_of (rd_plain (e := .returned (.tuple #[])) hF0.out hn.out (hr.out) ⟨rfl, hc9, hF9⟩)
    clear hc9 hF9
    go_wp2_with fail
    go_end0
    exact hfin.out
theorem rdOk (w0 : World) (t : Tr) : RdOk w0 t := by
  intro d n cb u w hd hn hV hS hN hR hE hC
  refine rd_schema w0 t (hid_of fun t' ht' => ⟨?_, fun t'' ht'' => ?_⟩) d n cb u w hd (hid_of hn) hV (hid_of hS) (hid_of hN) (hid_of hR) (hid_of hE) (hid_of hC)
  · have h1 : SizeOf.sizeOf t' < SizeOf.sizeOf t.items := List.sizeOf_lt_of_mem ht'
    have h2 : SizeOf.sizeOf t.items < SizeOf.sizeOf t := by obtain ⟨k, x, s, ns, its⟩ := t; simp only [Tr.items, Tr.node.sizeOf_spec]; omega
    exact rdOk w0 t'
  · have h1 : SizeOf.sizeOf t' < SizeOf.sizeOf t.items := List.sizeOf_lt_of_mem ht'
    have h2 : SizeOf.sizeOf t.items < SizeOf.sizeOf t := by obtain ⟨k, x, s, ns, its⟩ := t; simp only [Tr.items, Tr.node.sizeOf_spec]; omega
    have h3 : SizeOf.sizeOf t'' < SizeOf.sizeOf t'.items := List.sizeOf_lt_of_mem ht''
    have h4 : SizeOf.sizeOf t'.items < SizeOf.sizeOf t' := by obtain ⟨k, x, s, ns, its⟩ := t'; simp only [Tr.items, Tr.node.sizeOf_spec]; omega
    exact rdOk w0 t''
termination_by SizeOf.sizeOf t
decreasing_by all_goals omega
end Go.Proofs.YtgjemghfejaifaaGreatDoor
