import Derived.Test.YtgjemghfejaifaaGreatDoorUC
/-! The document's reader of schemas: type, enum, required. -/
namespace Go.Proofs.YtgjemghfejaifaaGreatDoor
open Go Go.RowKit

theorem listB_enum (k : Int) (its : List Tr) : listB k its 1 false = true ↔ (k = 5 ∧ its ≠ []) := by
  unfold listB
  cases its with
  | nil => simp
  | cons a l =>
    have h : (1 : Int) ≤ ((a :: l).length : Int) := by rw [List.length_cons]; omega
    rw [decide_eq_true h]
    simp
theorem listB_required (k : Int) (its : List Tr) : listB k its 0 true = true ↔ (k = 5 ∧ its.all (fun t => t.kind == 4) = true) := by
  unfold listB
  have h : (0 : Int) ≤ (its.length : Int) := by omega
  rw [decide_eq_true h]
  simp only [Bool.not_true, Bool.false_or, Bool.and_true, Bool.and_eq_true, beq_iff_eq]
  exact And.comm

set_option maxHeartbeats 8000000 in
set_option maxRecDepth 100000 in
theorem rd_type (w0 : World) (cb d n : Nat) (t : Tr) (u : V5) (w : World) (h : Gd w0 w cb d n t u) :
    Calls Tryz.prog 46 #[.pointer (some ⟨cb, 0, none⟩), .string wType, u.v, .int .i64 (d : Int)] w (RdPost w cb (ruleS d n 0 t)) := by
  have hb0 := hid_of ((Below.refl _ w).alloc (Nat.le_refl _) (u.obj 25))
  have hF0 := hid_of (Fr.of_below (S := fun b => b = cb) hb0.out)
  have hck := hid_of (h.ck.keep hb0.out)
  have hn0 := heap_alloc_new w (u.obj 25)
  obtain ⟨x0, x1, x2, x3, x4, -⟩ := row_cells hn0
  have hkd := hid_of (vrep_head h.rep)
  have hle := hid_of h.le
  obtain ⟨hrow, hli⟩ := rep_row h.rep
  replace hrow := hid_of (RowT.keep hrow h.env.old)
  replace hli := hid_of hli
  have hrow0 := hid_of (RowT.keep hrow.out hb0.out)
  have hsm := hid_of (small_parts h.small)
  have hrep := hid_of (VRep.keep h.env.old _ _ h.rep)
  have hb1 := hid_of (hb0.out.alloc hb0.out.size (.cells #[.int .i64 u.k, .int .i64 u.x, .string u.s, .slice u.an u.ln u.cn, .slice u.ai u.li u.ci] 25))
  have hrow1 := hid_of (row_one (v := u) (VRep.keep hb1.out _ _ hrep.out) (new2 w (.cells #[.int .i64 u.k, .int .i64 u.x, .string u.s, .slice u.an u.ln u.cn, .slice u.ai u.li u.ci] 25) (.cells #[.int .i64 u.k, .int .i64 u.x, .string u.s, .slice u.an u.ln u.cn, .slice u.ai u.li u.ci] 25)))
  have hrt := fun c => hid_of (rtypes_any u.ai c t.items _ hrow0 hsm.out.1)
  have hrt1 := fun c => hid_of (rtypes_any _ c [t] _ hrow1 (by simp))
  have hsz : Hid ((w.alloc (u.obj 25)).heap.size = w.heap.size + 1) := World.size_alloc _ _
  have h1l : Hid ((decide ([t] ≠ []) && [t].all isTy) = isTy t) := by rw [Hid]; simp
  obtain ⟨R, hR⟩ : ∃ R, Hid ((decide (t.items ≠ []) && t.items.all isTy) = R) := ⟨_, rfl⟩
  obtain ⟨T, hT⟩ : ∃ T, Hid (isTy t = T) := ⟨_, rfl⟩
  rw [hR.out] at hrt
  rw [h1l.out, hT.out] at hrt1
  have hr0 : Hid (ruleS d n 0 t = (n, if (if u.k = 5 then R else ((u.k == 4) && tyName u.s)) = true then 0 else 210)) := by
    rw [Hid, rule_pos]
    simp only [if_true]
    unfold typeOk
    rw [hkd.out.1, hR.out]
    by_cases h4 : u.k = 4
    · rw [hkd.out.2]
    · simp [h4]
  have hT4 : u.k = 4 → Hid (T = tyName u.s) := fun h4 => by
    rw [Hid, ← hT.out]; unfold isTy; rw [hkd.out.1, hkd.out.2, h4]; simp
  rw [← hli.out] at hrt
  unfold V5.obj at *
  unfold V5.v wType
  rw [show [t].length = 1 from rfl] at hrt1
  clear h hn0
  go_enter Tryz.func46, Tryz.ntmps46
  by_cases hk4 : u.k = 4
  · have e4 : (u.k == 4) = true := by simp [hk4]
    have e5 : (u.k == 5) = false := by simp [hk4]
    have hTT := (hT4 hk4)
    have hr1 : Hid (ruleS d n 0 t = (n, if T = true then 0 else 210)) := by rw [Hid, hr0.out, hTT.out]; simp [hk4]
    clear hk4 hT4 hr0 hTT hT
    go_wp2_with fail
    refine (hrt1 _).out.mono ?_
    rintro e W ⟨rfl, hbW⟩
    have y0 := stay hbW (stay ((Below.refl _ _).alloc (Nat.le_refl _) (.cells #[.int .i64 u.k, .int .i64 u.x, .string u.s, .slice u.an u.ln u.cn, .slice u.ai u.li u.ci] 25)) x0)
    have hFW := hid_of (Fr.of_below (S := fun b => b = cb) (hb1.out.trans (hbW.mono hb1.out.size)))
    have hcW := hid_of ((hck.out.keep ((Below.refl _ _).alloc (Nat.le_refl _) (.cells #[.int .i64 u.k, .int .i64 u.x, .string u.s, .slice u.an u.ln u.cn, .slice u.ai u.li u.ci] 25))).keep hbW)
    clear x0 x1 x2 x3 x4 hbW hrt hrt1
    cases T with
    | true =>
      have hr : Hid (ruleS d n 0 t = (n, 0)) := by rw [Hid, hr1.out]; rfl
      go_wp2_with fail
      go_end0
      exact rd_plain hFW.out hle.out (hr.out) ⟨rfl, hcW.out, Fr.refl _ _⟩
    | false =>
      have hr : Hid (ruleS d n 0 t = (n, 210)) := by rw [Hid, hr1.out]; rfl
      go_wp2_with fail
      refine (fails_any cb n 210 _ hcW.out).mono ?_
      rintro e W9 ⟨rfl, hc9, hF9⟩
      have hfin := hid_of (rd_plain (e := .returned (.tuple #[])) hFW.out hle.out (hr.out) ⟨rfl, hc9, hF9⟩)
      clear hc9 hF9
      go_wp2_with fail
      go_end0
      exact hfin.out
  have e4 : (u.k == 4) = false := by simp [hk4]
  by_cases hk5 : u.k = 5
  · have e5 : (u.k == 5) = true := by simp [hk5]
    have hr1 : Hid (ruleS d n 0 t = (n, if R = true then 0 else 210)) := by rw [Hid, hr0.out]; simp [hk5]
    clear hk4 hk5 hT4 hr0
    go_wp2_with fail
    refine (hrt _).out.mono ?_
    rintro e W ⟨rfl, hbW⟩
    have hFW := hid_of (Fr.of_below (S := fun b => b = cb) (hb0.out.trans (hbW.mono hb0.out.size)))
    have hcW := hid_of (hck.out.keep hbW)
    clear x0 x1 x2 x3 x4 hbW hrt hrt1
    cases R with
    | true =>
      have hr : Hid (ruleS d n 0 t = (n, 0)) := by rw [Hid, hr1.out]; rfl
      go_wp2_with fail
      go_end0
      exact rd_plain hFW.out hle.out (hr.out) ⟨rfl, hcW.out, Fr.refl _ _⟩
    | false =>
      have hr : Hid (ruleS d n 0 t = (n, 210)) := by rw [Hid, hr1.out]; rfl
      go_wp2_with fail
      refine (fails_any cb n 210 _ hcW.out).mono ?_
      rintro e W9 ⟨rfl, hc9, hF9⟩
      have hfin := hid_of (rd_plain (e := .returned (.tuple #[])) hFW.out hle.out (hr.out) ⟨rfl, hc9, hF9⟩)
      clear hc9 hF9
      go_wp2_with fail
      go_end0
      exact hfin.out
  · have e5 : (u.k == 5) = false := by simp [hk5]
    have hr : Hid (ruleS d n 0 t = (n, 210)) := by rw [Hid, hr0.out]; simp [hk5, hk4]
    clear hk4 hk5 hT4 hr0
    go_wp2_with fail
    refine (fails_any cb n 210 _ hck.out).mono ?_
    rintro e W9 ⟨rfl, hc9, hF9⟩
    have hfin := hid_of (rd_plain (e := .returned (.tuple #[])) hF0.out hle.out (hr.out) ⟨rfl, hc9, hF9⟩)
    clear hc9 hF9
    go_wp2_with fail
    go_end0
    exact hfin.out
set_option maxHeartbeats 8000000 in
set_option maxRecDepth 100000 in
theorem rd_enum (w0 : World) (cb d n : Nat) (t : Tr) (u : V5) (w : World) (h : Gd w0 w cb d n t u) :
    Calls Tryz.prog 46 #[.pointer (some ⟨cb, 0, none⟩), .string wEnum, u.v, .int .i64 (d : Int)] w (RdPost w cb (ruleS d n 1 t)) := by
  have hb0 := hid_of ((Below.refl _ w).alloc (Nat.le_refl _) (u.obj 25))
  have hF0 := hid_of (Fr.of_below (S := fun b => b = cb) hb0.out)
  have hck := hid_of (h.ck.keep hb0.out)
  have hn0 := heap_alloc_new w (u.obj 25)
  obtain ⟨x0, x1, x2, x3, x4, -⟩ := row_cells hn0
  have hkd := hid_of (vrep_head h.rep)
  have hle := hid_of h.le
  obtain ⟨hrow, hli⟩ := rep_row h.rep
  replace hrow := hid_of (RowT.keep hrow h.env.old)
  replace hli := hid_of hli
  have hrow0 := hid_of (RowT.keep hrow.out hb0.out)
  have hsm := hid_of (small_parts h.small)
  have hrep := hid_of (VRep.keep h.env.old _ _ h.rep)
  have hl := hid_of (rlist_any u t.items 1 false _ hli hrow0 hsm.out.1)
  obtain ⟨R, hR⟩ : ∃ R, Hid (listB u.k t.items 1 false = R) := ⟨_, rfl⟩
  rw [hR.out] at hl
  have hr0 : Hid (ruleS d n 1 t = (n, if R = true then 0 else 210)) := by
    rw [Hid, rule_pos]
    simp only [Nat.reduceEqDiff, if_false, if_true]
    rw [← hR.out, hkd.out.1]
    by_cases hc : u.k = 5 ∧ t.items ≠ []
    · rw [if_pos hc, if_pos ((listB_enum _ _).2 hc)]
    · rw [if_neg hc, if_neg (fun h => hc ((listB_enum _ _).1 h))]
  unfold V5.obj at *
  unfold V5.v at *
  unfold wEnum
  clear h hn0
  go_enter Tryz.func46, Tryz.ntmps46
  go_wp2_with fail
  refine hl.out.mono ?_
  rintro e W ⟨rfl, hbW⟩
  have hFW := hid_of (Fr.of_below (S := fun b => b = cb) (hb0.out.trans (hbW.mono hb0.out.size)))
  have hcW := hid_of (hck.out.keep hbW)
  clear x0 x1 x2 x3 x4 hbW hl
  cases R with
  | true =>
    have hr : Hid (ruleS d n 1 t = (n, 0)) := by rw [Hid, hr0.out]; rfl
    go_wp2_with fail
    go_end0
    exact rd_plain hFW.out hle.out (hr.out) ⟨rfl, hcW.out, Fr.refl _ _⟩
  | false =>
    have hr : Hid (ruleS d n 1 t = (n, 210)) := by rw [Hid, hr0.out]; rfl
    go_wp2_with fail
    refine (fails_any cb n 210 _ hcW.out).mono ?_
    rintro e W9 ⟨rfl, hc9, hF9⟩
    have hfin := hid_of (rd_plain (e := .returned (.tuple #[])) hFW.out hle.out (hr.out) ⟨rfl, hc9, hF9⟩)
    clear hc9 hF9
    go_wp2_with fail
    go_end0
    exact hfin.out
set_option maxHeartbeats 8000000 in
set_option maxRecDepth 100000 in
theorem rd_required (w0 : World) (cb d n : Nat) (t : Tr) (u : V5) (w : World) (h : Gd w0 w cb d n t u) :
    Calls Tryz.prog 46 #[.pointer (some ⟨cb, 0, none⟩), .string wRequired, u.v, .int .i64 (d : Int)] w (RdPost w cb (ruleS d n 2 t)) := by
  have hb0 := hid_of ((Below.refl _ w).alloc (Nat.le_refl _) (u.obj 25))
  have hF0 := hid_of (Fr.of_below (S := fun b => b = cb) hb0.out)
  have hck := hid_of (h.ck.keep hb0.out)
  have hn0 := heap_alloc_new w (u.obj 25)
  obtain ⟨x0, x1, x2, x3, x4, -⟩ := row_cells hn0
  have hkd := hid_of (vrep_head h.rep)
  have hle := hid_of h.le
  obtain ⟨hrow, hli⟩ := rep_row h.rep
  replace hrow := hid_of (RowT.keep hrow h.env.old)
  replace hli := hid_of hli
  have hrow0 := hid_of (RowT.keep hrow.out hb0.out)
  have hsm := hid_of (small_parts h.small)
  have hrep := hid_of (VRep.keep h.env.old _ _ h.rep)
  have hl := hid_of (rlist_any u t.items 0 true _ hli hrow0 hsm.out.1)
  obtain ⟨R, hR⟩ : ∃ R, Hid (listB u.k t.items 0 true = R) := ⟨_, rfl⟩
  rw [hR.out] at hl
  have hr0 : Hid (ruleS d n 2 t = (n, if R = true then 0 else 210)) := by
    rw [Hid, rule_pos]
    simp only [Nat.reduceEqDiff, if_false, if_true]
    rw [← hR.out, hkd.out.1]
    by_cases hc : u.k = 5 ∧ t.items.all (fun t => t.kind == 4) = true
    · rw [if_pos hc, if_pos ((listB_required _ _).2 hc)]
    · rw [if_neg hc, if_neg (fun h => hc ((listB_required _ _).1 h))]
  unfold V5.obj at *
  unfold V5.v at *
  unfold wRequired
  clear h hn0
  go_enter Tryz.func46, Tryz.ntmps46
  go_wp2_with fail
  refine hl.out.mono ?_
  rintro e W ⟨rfl, hbW⟩
  have hFW := hid_of (Fr.of_below (S := fun b => b = cb) (hb0.out.trans (hbW.mono hb0.out.size)))
  have hcW := hid_of (hck.out.keep hbW)
  clear x0 x1 x2 x3 x4 hbW hl
  cases R with
  | true =>
    have hr : Hid (ruleS d n 2 t = (n, 0)) := by rw [Hid, hr0.out]; rfl
    go_wp2_with fail
    go_end0
    exact rd_plain hFW.out hle.out (hr.out) ⟨rfl, hcW.out, Fr.refl _ _⟩
  | false =>
    have hr : Hid (ruleS d n 2 t = (n, 210)) := by rw [Hid, hr0.out]; rfl
    go_wp2_with fail
    refine (fails_any cb n 210 _ hcW.out).mono ?_
    rintro e W9 ⟨rfl, hc9, hF9⟩
    have hfin := hid_of (rd_plain (e := .returned (.tuple #[])) hFW.out hle.out (hr.out) ⟨rfl, hc9, hF9⟩)
    clear hc9 hF9
    go_wp2_with fail
    go_end0
    exact hfin.out
end Go.Proofs.YtgjemghfejaifaaGreatDoor
