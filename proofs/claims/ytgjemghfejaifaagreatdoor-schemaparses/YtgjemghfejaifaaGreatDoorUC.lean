import Derived.Test.YtgjemghfejaifaaGreatDoorUB
import Derived.Test.YtgjemghfejaifaaGreatDoorVR
/-! The document's reader of schemas: one rule. -/
namespace Go.Proofs.YtgjemghfejaifaaGreatDoor
open Go Go.RowKit

structure EnvD (w0 w : World) (cb : Nat) : Prop where
  base : w0.heap.size ≤ cb
  old : Below w0.heap.size w0 w
theorem EnvD.fr {w0 w w' : World} {cb : Nat} (h : EnvD w0 w cb) (hF : Fr (fun b => b = cb) w w') : EnvD w0 w' cb :=
  ⟨h.base, h.old.trans (hF.below h.old.size (fun i e => by subst e; exact h.base))⟩
structure RdPost (w : World) (cb : Nat) (res : Nat × Int) (e : Ending) (w' : World) : Prop where
  ret : e = .returned (.tuple #[])
  ck : CkAt w' cb res.1 res.2
  fr : Fr (fun b => b = cb) w w'
  le : res.1 ≤ 128
/-- The document reads a schema. -/
def RdOk (w0 : World) (t : Tr) : Prop := ∀ (d n cb : Nat) (u : V5) (w : World), d ≤ 9 → n ≤ 128 → VRep w0 t u.cs → SmallT t → NamesT t → RangeT t → EnvD w0 w cb → CkAt w cb n 0 →
  Calls Tryz.prog 21 #[.pointer (some ⟨cb, 0, none⟩), u.v, .int .i64 (d : Int)] w (RdPost w cb (schemaS d n t))
structure Gd (w0 w : World) (cb d n : Nat) (t : Tr) (u : V5) : Prop where
  d8 : d ≤ 8
  le : n ≤ 128
  rep : VRep w0 t u.cs
  small : SmallT t
  names : NamesT t
  range : RangeT t
  env : EnvD w0 w cb
  ck : CkAt w cb n 0
/-- No loop, no call: the given is tested, and told. -/
theorem rd_plain {w W w' : World} {cb n : Nat} {e : Ending} (hF : Fr (fun b => b = cb) w W) (hn : n ≤ 128) {z : Int} {res : Nat × Int} (hr : res = (n, z)) (h : e = .returned (.tuple #[]) ∧ CkAt w' cb n z ∧ Fr (fun b => b = cb) W w') : RdPost w cb res e w' := by
  subst hr
  exact ⟨h.1, h.2.1, hF.trans h.2.2, hn⟩
theorem range_parts {t : Tr} (h : RangeT t) : -9223372036854775808 ≤ t.int ∧ RangeL t.items := by
  obtain ⟨k, x, s, ns, its⟩ := t
  unfold RangeT at h
  exact ⟨h.1.1, h.2⟩
theorem RangeL.at : {its : List Tr} → {i : Nat} → {u : Tr} → RangeL its → its[i]? = some u → RangeT u
  | [], _, _, _, h => by simp at h
  | v :: vs, 0, u, hr, h => by
    unfold RangeL at hr
    have : v = u := by simpa using h
    exact this ▸ hr.1
  | v :: vs, i + 1, u, hr, h => by
    unfold RangeL at hr
    exact RangeL.at hr.2 (by simpa using h)
theorem bytes_lit {s : ByteArray} {a : Array UInt8} (h : s ≠ ⟨a⟩) : (s.toList == a.toList) = false := by
  have := bytes_ne h
  rwa [ByteArray.toList_eq ⟨a⟩] at this
set_option maxHeartbeats 8000000 in
set_option maxRecDepth 100000 in
theorem rd_additional (w0 : World) (cb d n : Nat) (t : Tr) (u : V5) (w : World) (h : Gd w0 w cb d n t u) :
    Calls Tryz.prog 46 #[.pointer (some ⟨cb, 0, none⟩), .string wAdditional, u.v, .int .i64 (d : Int)] w (RdPost w cb (ruleS d n 4 t)) := by
  have hb0 := (Below.refl _ w).alloc (Nat.le_refl _) (u.obj 25)
  have hF0 := hid_of (Fr.of_below (S := fun b => b = cb) hb0)
  have hck := hid_of (h.ck.keep hb0)
  obtain ⟨x0, x1, x2, x3, x4, -⟩ := row_cells (heap_alloc_new w (u.obj 25))
  have hkd := hid_of (vrep_head h.rep).1
  have hki := hid_of (vrep_int h.rep)
  have hle := hid_of h.le
  have hlow := hid_of (range_parts h.range).1
  unfold V5.obj at *
  unfold V5.v wAdditional
  clear h hb0
  go_enter Tryz.func46, Tryz.ntmps46
  by_cases h2 : u.k = 2
  · have e2 : (u.k == 2) = true := by simp [h2]
    have hr : Hid (ruleS d n 4 t = (n, 0)) := by rw [Hid, rule_pos]; simp [hkd.out, h2]
    clear h2
    go_wp2_with fail
    go_end0
    exact rd_plain hF0.out hle.out (hr.out) ⟨rfl, hck.out, Fr.refl _ _⟩
  have e2 : (u.k == 2) = false := by simp [h2]
  by_cases h1 : u.k = 1
  · have e1 : (u.k == 1) = true := by simp [h1]
    have hr : Hid (ruleS d n 4 t = (n, 0)) := by rw [Hid, rule_pos]; simp [hkd.out, h1]
    clear h2 h1
    go_wp2_with fail
    go_end0
    exact rd_plain hF0.out hle.out (hr.out) ⟨rfl, hck.out, Fr.refl _ _⟩
  · have e1 : (u.k == 1) = false := by simp [h1]
    have hr : Hid (ruleS d n 4 t = (n, 210)) := by rw [Hid, rule_pos]; simp [hkd.out, h1, h2]
    clear h2 h1
    go_wp2_with fail
    refine (fails_any cb n 210 _ hck.out).mono ?_
    rintro e W9 ⟨rfl, hc9, hF9⟩
    have hfin := hid_of (rd_plain (e := .returned (.tuple #[])) hF0.out hle.out (hr.out) ⟨rfl, hc9, hF9⟩)
    clear hc9 hF9
    go_wp2_with fail
    go_end0
    exact hfin.out
set_option maxHeartbeats 8000000 in
set_option maxRecDepth 100000 in
theorem rd_minItems (w0 : World) (cb d n : Nat) (t : Tr) (u : V5) (w : World) (h : Gd w0 w cb d n t u) :
    Calls Tryz.prog 46 #[.pointer (some ⟨cb, 0, none⟩), .string wMinItems, u.v, .int .i64 (d : Int)] w (RdPost w cb (ruleS d n 6 t)) := by
  have hb0 := (Below.refl _ w).alloc (Nat.le_refl _) (u.obj 25)
  have hF0 := hid_of (Fr.of_below (S := fun b => b = cb) hb0)
  have hck := hid_of (h.ck.keep hb0)
  obtain ⟨x0, x1, x2, x3, x4, -⟩ := row_cells (heap_alloc_new w (u.obj 25))
  have hkd := hid_of (vrep_head h.rep).1
  have hki := hid_of (vrep_int h.rep)
  have hle := hid_of h.le
  have hlow := hid_of (range_parts h.range).1
  unfold V5.obj at *
  unfold V5.v wMinItems
  clear h hb0
  go_enter Tryz.func46, Tryz.ntmps46
  have hr0 : Hid (ruleS d n 6 t = (n, if u.k = 3 ∧ 0 ≤ u.x then 0 else 210)) := by
    rw [Hid, rule_pos]
    simp only [Nat.reduceEqDiff, if_false, or_self]
    have hlo : leastOf 6 = 0 := by decide
    rw [hlo, hkd.out, hki.out]
  by_cases hk : u.k = 3
  · have e3 : (u.k == 3) = true := by simp [hk]
    by_cases hx : 0 ≤ u.x
    · have ex : decide (u.x ≥ 0) = true := by simpa using hx
      have hr : Hid (ruleS d n 6 t = (n, 0)) := by rw [Hid, hr0.out, if_pos ⟨hk, hx⟩]
      clear hk hx
      go_wp2_with fail
      go_end0
      exact rd_plain hF0.out hle.out (hr.out) ⟨rfl, hck.out, Fr.refl _ _⟩
    · have ex : decide (u.x ≥ 0) = false := by simpa using hx
      have hr : Hid (ruleS d n 6 t = (n, 210)) := by rw [Hid, hr0.out, if_neg (fun h => hx h.2)]
      clear hk hx
      go_wp2_with fail
      refine (fails_any cb n 210 _ hck.out).mono ?_
      rintro e W9 ⟨rfl, hc9, hF9⟩
      have hfin := hid_of (rd_plain (e := .returned (.tuple #[])) hF0.out hle.out (hr.out) ⟨rfl, hc9, hF9⟩)
      clear hc9 hF9
      go_wp2_with fail
      go_end0
      exact hfin.out
  · have e3 : (u.k == 3) = false := by simp [hk]
    have hr : Hid (ruleS d n 6 t = (n, 210)) := by rw [Hid, hr0.out, if_neg (fun h => hk h.1)]
    clear hk
    go_wp2_with fail
    refine (fails_any cb n 210 _ hck.out).mono ?_
    rintro e W9 ⟨rfl, hc9, hF9⟩
    have hfin := hid_of (rd_plain (e := .returned (.tuple #[])) hF0.out hle.out (hr.out) ⟨rfl, hc9, hF9⟩)
    clear hc9 hF9
    go_wp2_with fail
    go_end0
    exact hfin.out
set_option maxHeartbeats 8000000 in
set_option maxRecDepth 100000 in
theorem rd_maxItems (w0 : World) (cb d n : Nat) (t : Tr) (u : V5) (w : World) (h : Gd w0 w cb d n t u) :
    Calls Tryz.prog 46 #[.pointer (some ⟨cb, 0, none⟩), .string wMaxItems, u.v, .int .i64 (d : Int)] w (RdPost w cb (ruleS d n 7 t)) := by
  have hb0 := (Below.refl _ w).alloc (Nat.le_refl _) (u.obj 25)
  have hF0 := hid_of (Fr.of_below (S := fun b => b = cb) hb0)
  have hck := hid_of (h.ck.keep hb0)
  obtain ⟨x0, x1, x2, x3, x4, -⟩ := row_cells (heap_alloc_new w (u.obj 25))
  have hkd := hid_of (vrep_head h.rep).1
  have hki := hid_of (vrep_int h.rep)
  have hle := hid_of h.le
  have hlow := hid_of (range_parts h.range).1
  unfold V5.obj at *
  unfold V5.v wMaxItems
  clear h hb0
  go_enter Tryz.func46, Tryz.ntmps46
  have hr0 : Hid (ruleS d n 7 t = (n, if u.k = 3 ∧ 0 ≤ u.x then 0 else 210)) := by
    rw [Hid, rule_pos]
    simp only [Nat.reduceEqDiff, if_false, or_self]
    have hlo : leastOf 7 = 0 := by decide
    rw [hlo, hkd.out, hki.out]
  by_cases hk : u.k = 3
  · have e3 : (u.k == 3) = true := by simp [hk]
    by_cases hx : 0 ≤ u.x
    · have ex : decide (u.x ≥ 0) = true := by simpa using hx
      have hr : Hid (ruleS d n 7 t = (n, 0)) := by rw [Hid, hr0.out, if_pos ⟨hk, hx⟩]
      clear hk hx
      go_wp2_with fail
      go_end0
      exact rd_plain hF0.out hle.out (hr.out) ⟨rfl, hck.out, Fr.refl _ _⟩
    · have ex : decide (u.x ≥ 0) = false := by simpa using hx
      have hr : Hid (ruleS d n 7 t = (n, 210)) := by rw [Hid, hr0.out, if_neg (fun h => hx h.2)]
      clear hk hx
      go_wp2_with fail
      refine (fails_any cb n 210 _ hck.out).mono ?_
      rintro e W9 ⟨rfl, hc9, hF9⟩
      have hfin := hid_of (rd_plain (e := .returned (.tuple #[])) hF0.out hle.out (hr.out) ⟨rfl, hc9, hF9⟩)
      clear hc9 hF9
      go_wp2_with fail
      go_end0
      exact hfin.out
  · have e3 : (u.k == 3) = false := by simp [hk]
    have hr : Hid (ruleS d n 7 t = (n, 210)) := by rw [Hid, hr0.out, if_neg (fun h => hk h.1)]
    clear hk
    go_wp2_with fail
    refine (fails_any cb n 210 _ hck.out).mono ?_
    rintro e W9 ⟨rfl, hc9, hF9⟩
    have hfin := hid_of (rd_plain (e := .returned (.tuple #[])) hF0.out hle.out (hr.out) ⟨rfl, hc9, hF9⟩)
    clear hc9 hF9
    go_wp2_with fail
    go_end0
    exact hfin.out
set_option maxHeartbeats 8000000 in
set_option maxRecDepth 100000 in
theorem rd_minLength (w0 : World) (cb d n : Nat) (t : Tr) (u : V5) (w : World) (h : Gd w0 w cb d n t u) :
    Calls Tryz.prog 46 #[.pointer (some ⟨cb, 0, none⟩), .string wMinLength, u.v, .int .i64 (d : Int)] w (RdPost w cb (ruleS d n 8 t)) := by
  have hb0 := (Below.refl _ w).alloc (Nat.le_refl _) (u.obj 25)
  have hF0 := hid_of (Fr.of_below (S := fun b => b = cb) hb0)
  have hck := hid_of (h.ck.keep hb0)
  obtain ⟨x0, x1, x2, x3, x4, -⟩ := row_cells (heap_alloc_new w (u.obj 25))
  have hkd := hid_of (vrep_head h.rep).1
  have hki := hid_of (vrep_int h.rep)
  have hle := hid_of h.le
  have hlow := hid_of (range_parts h.range).1
  unfold V5.obj at *
  unfold V5.v wMinLength
  clear h hb0
  go_enter Tryz.func46, Tryz.ntmps46
  have hr0 : Hid (ruleS d n 8 t = (n, if u.k = 3 ∧ 0 ≤ u.x then 0 else 210)) := by
    rw [Hid, rule_pos]
    simp only [Nat.reduceEqDiff, if_false, or_self]
    have hlo : leastOf 8 = 0 := by decide
    rw [hlo, hkd.out, hki.out]
  by_cases hk : u.k = 3
  · have e3 : (u.k == 3) = true := by simp [hk]
    by_cases hx : 0 ≤ u.x
    · have ex : decide (u.x ≥ 0) = true := by simpa using hx
      have hr : Hid (ruleS d n 8 t = (n, 0)) := by rw [Hid, hr0.out, if_pos ⟨hk, hx⟩]
      clear hk hx
      go_wp2_with fail
      go_end0
      exact rd_plain hF0.out hle.out (hr.out) ⟨rfl, hck.out, Fr.refl _ _⟩
    · have ex : decide (u.x ≥ 0) = false := by simpa using hx
      have hr : Hid (ruleS d n 8 t = (n, 210)) := by rw [Hid, hr0.out, if_neg (fun h => hx h.2)]
      clear hk hx
      go_wp2_with fail
      refine (fails_any cb n 210 _ hck.out).mono ?_
      rintro e W9 ⟨rfl, hc9, hF9⟩
      have hfin := hid_of (rd_plain (e := .returned (.tuple #[])) hF0.out hle.out (hr.out) ⟨rfl, hc9, hF9⟩)
      clear hc9 hF9
      go_wp2_with fail
      go_end0
      exact hfin.out
  · have e3 : (u.k == 3) = false := by simp [hk]
    have hr : Hid (ruleS d n 8 t = (n, 210)) := by rw [Hid, hr0.out, if_neg (fun h => hk h.1)]
    clear hk
    go_wp2_with fail
    refine (fails_any cb n 210 _ hck.out).mono ?_
    rintro e W9 ⟨rfl, hc9, hF9⟩
    have hfin := hid_of (rd_plain (e := .returned (.tuple #[])) hF0.out hle.out (hr.out) ⟨rfl, hc9, hF9⟩)
    clear hc9 hF9
    go_wp2_with fail
    go_end0
    exact hfin.out
set_option maxHeartbeats 8000000 in
set_option maxRecDepth 100000 in
theorem rd_maxLength (w0 : World) (cb d n : Nat) (t : Tr) (u : V5) (w : World) (h : Gd w0 w cb d n t u) :
    Calls Tryz.prog 46 #[.pointer (some ⟨cb, 0, none⟩), .string wMaxLength, u.v, .int .i64 (d : Int)] w (RdPost w cb (ruleS d n 9 t)) := by
  have hb0 := (Below.refl _ w).alloc (Nat.le_refl _) (u.obj 25)
  have hF0 := hid_of (Fr.of_below (S := fun b => b = cb) hb0)
  have hck := hid_of (h.ck.keep hb0)
  obtain ⟨x0, x1, x2, x3, x4, -⟩ := row_cells (heap_alloc_new w (u.obj 25))
  have hkd := hid_of (vrep_head h.rep).1
  have hki := hid_of (vrep_int h.rep)
  have hle := hid_of h.le
  have hlow := hid_of (range_parts h.range).1
  unfold V5.obj at *
  unfold V5.v wMaxLength
  clear h hb0
  go_enter Tryz.func46, Tryz.ntmps46
  have hr0 : Hid (ruleS d n 9 t = (n, if u.k = 3 ∧ 0 ≤ u.x then 0 else 210)) := by
    rw [Hid, rule_pos]
    simp only [Nat.reduceEqDiff, if_false, or_self]
    have hlo : leastOf 9 = 0 := by decide
    rw [hlo, hkd.out, hki.out]
  by_cases hk : u.k = 3
  · have e3 : (u.k == 3) = true := by simp [hk]
    by_cases hx : 0 ≤ u.x
    · have ex : decide (u.x ≥ 0) = true := by simpa using hx
      have hr : Hid (ruleS d n 9 t = (n, 0)) := by rw [Hid, hr0.out, if_pos ⟨hk, hx⟩]
      clear hk hx
      go_wp2_with fail
      go_end0
      exact rd_plain hF0.out hle.out (hr.out) ⟨rfl, hck.out, Fr.refl _ _⟩
    · have ex : decide (u.x ≥ 0) = false := by simpa using hx
      have hr : Hid (ruleS d n 9 t = (n, 210)) := by rw [Hid, hr0.out, if_neg (fun h => hx h.2)]
      clear hk hx
      go_wp2_with fail
      refine (fails_any cb n 210 _ hck.out).mono ?_
      rintro e W9 ⟨rfl, hc9, hF9⟩
      have hfin := hid_of (rd_plain (e := .returned (.tuple #[])) hF0.out hle.out (hr.out) ⟨rfl, hc9, hF9⟩)
      clear hc9 hF9
      go_wp2_with fail
      go_end0
      exact hfin.out
  · have e3 : (u.k == 3) = false := by simp [hk]
    have hr : Hid (ruleS d n 9 t = (n, 210)) := by rw [Hid, hr0.out, if_neg (fun h => hk h.1)]
    clear hk
    go_wp2_with fail
    refine (fails_any cb n 210 _ hck.out).mono ?_
    rintro e W9 ⟨rfl, hc9, hF9⟩
    have hfin := hid_of (rd_plain (e := .returned (.tuple #[])) hF0.out hle.out (hr.out) ⟨rfl, hc9, hF9⟩)
    clear hc9 hF9
    go_wp2_with fail
    go_end0
    exact hfin.out
set_option maxHeartbeats 8000000 in
set_option maxRecDepth 100000 in
theorem rd_minimum (w0 : World) (cb d n : Nat) (t : Tr) (u : V5) (w : World) (h : Gd w0 w cb d n t u) :
    Calls Tryz.prog 46 #[.pointer (some ⟨cb, 0, none⟩), .string wMinimum, u.v, .int .i64 (d : Int)] w (RdPost w cb (ruleS d n 10 t)) := by
  have hb0 := (Below.refl _ w).alloc (Nat.le_refl _) (u.obj 25)
  have hF0 := hid_of (Fr.of_below (S := fun b => b = cb) hb0)
  have hck := hid_of (h.ck.keep hb0)
  obtain ⟨x0, x1, x2, x3, x4, -⟩ := row_cells (heap_alloc_new w (u.obj 25))
  have hkd := hid_of (vrep_head h.rep).1
  have hki := hid_of (vrep_int h.rep)
  have hle := hid_of h.le
  have hlow := hid_of (range_parts h.range).1
  unfold V5.obj at *
  unfold V5.v wMinimum
  clear h hb0
  go_enter Tryz.func46, Tryz.ntmps46
  have hr0 : Hid (ruleS d n 10 t = (n, if u.k = 3 ∧ (-9223372036854775808) ≤ u.x then 0 else 210)) := by
    rw [Hid, rule_pos]
    simp only [Nat.reduceEqDiff, if_false, or_self]
    have hlo : leastOf 10 = (-9223372036854775808) := by decide
    rw [hlo, hkd.out, hki.out]
  by_cases hk : u.k = 3
  · have e3 : (u.k == 3) = true := by simp [hk]
    have hr : Hid (ruleS d n 10 t = (n, 0)) := by rw [Hid, hr0.out, if_pos ⟨hk, by rw [← hki.out]; exact hlow.out⟩]
    clear hk
    go_wp2_with fail
    go_end0
    exact rd_plain hF0.out hle.out (hr.out) ⟨rfl, hck.out, Fr.refl _ _⟩
  · have e3 : (u.k == 3) = false := by simp [hk]
    have hr : Hid (ruleS d n 10 t = (n, 210)) := by rw [Hid, hr0.out, if_neg (fun h => hk h.1)]
    clear hk
    go_wp2_with fail
    refine (fails_any cb n 210 _ hck.out).mono ?_
    rintro e W9 ⟨rfl, hc9, hF9⟩
    have hfin := hid_of (rd_plain (e := .returned (.tuple #[])) hF0.out hle.out (hr.out) ⟨rfl, hc9, hF9⟩)
    clear hc9 hF9
    go_wp2_with fail
    go_end0
    exact hfin.out
set_option maxHeartbeats 8000000 in
set_option maxRecDepth 100000 in
theorem rd_maximum (w0 : World) (cb d n : Nat) (t : Tr) (u : V5) (w : World) (h : Gd w0 w cb d n t u) :
    Calls Tryz.prog 46 #[.pointer (some ⟨cb, 0, none⟩), .string wMaximum, u.v, .int .i64 (d : Int)] w (RdPost w cb (ruleS d n 11 t)) := by
  have hb0 := (Below.refl _ w).alloc (Nat.le_refl _) (u.obj 25)
  have hF0 := hid_of (Fr.of_below (S := fun b => b = cb) hb0)
  have hck := hid_of (h.ck.keep hb0)
  obtain ⟨x0, x1, x2, x3, x4, -⟩ := row_cells (heap_alloc_new w (u.obj 25))
  have hkd := hid_of (vrep_head h.rep).1
  have hki := hid_of (vrep_int h.rep)
  have hle := hid_of h.le
  have hlow := hid_of (range_parts h.range).1
  unfold V5.obj at *
  unfold V5.v wMaximum
  clear h hb0
  go_enter Tryz.func46, Tryz.ntmps46
  have hr0 : Hid (ruleS d n 11 t = (n, if u.k = 3 ∧ (-9223372036854775808) ≤ u.x then 0 else 210)) := by
    rw [Hid, rule_pos]
    simp only [Nat.reduceEqDiff, if_false, or_self]
    have hlo : leastOf 11 = (-9223372036854775808) := by decide
    rw [hlo, hkd.out, hki.out]
  by_cases hk : u.k = 3
  · have e3 : (u.k == 3) = true := by simp [hk]
    have hr : Hid (ruleS d n 11 t = (n, 0)) := by rw [Hid, hr0.out, if_pos ⟨hk, by rw [← hki.out]; exact hlow.out⟩]
    clear hk
    go_wp2_with fail
    go_end0
    exact rd_plain hF0.out hle.out (hr.out) ⟨rfl, hck.out, Fr.refl _ _⟩
  · have e3 : (u.k == 3) = false := by simp [hk]
    have hr : Hid (ruleS d n 11 t = (n, 210)) := by rw [Hid, hr0.out, if_neg (fun h => hk h.1)]
    clear hk
    go_wp2_with fail
    refine (fails_any cb n 210 _ hck.out).mono ?_
    rintro e W9 ⟨rfl, hc9, hF9⟩
    have hfin := hid_of (rd_plain (e := .returned (.tuple #[])) hF0.out hle.out (hr.out) ⟨rfl, hc9, hF9⟩)
    clear hc9 hF9
    go_wp2_with fail
    go_end0
    exact hfin.out
set_option maxHeartbeats 8000000 in
set_option maxRecDepth 100000 in
theorem rd_divisible (w0 : World) (cb d n : Nat) (t : Tr) (u : V5) (w : World) (h : Gd w0 w cb d n t u) :
    Calls Tryz.prog 46 #[.pointer (some ⟨cb, 0, none⟩), .string wDivisible, u.v, .int .i64 (d : Int)] w (RdPost w cb (ruleS d n 12 t)) := by
  have hb0 := (Below.refl _ w).alloc (Nat.le_refl _) (u.obj 25)
  have hF0 := hid_of (Fr.of_below (S := fun b => b = cb) hb0)
  have hck := hid_of (h.ck.keep hb0)
  obtain ⟨x0, x1, x2, x3, x4, -⟩ := row_cells (heap_alloc_new w (u.obj 25))
  have hkd := hid_of (vrep_head h.rep).1
  have hki := hid_of (vrep_int h.rep)
  have hle := hid_of h.le
  have hlow := hid_of (range_parts h.range).1
  unfold V5.obj at *
  unfold V5.v wDivisible
  clear h hb0
  go_enter Tryz.func46, Tryz.ntmps46
  have hr0 : Hid (ruleS d n 12 t = (n, if u.k = 3 ∧ 1 ≤ u.x then 0 else 210)) := by
    rw [Hid, rule_pos]
    simp only [Nat.reduceEqDiff, if_false, or_self]
    have hlo : leastOf 12 = 1 := by decide
    rw [hlo, hkd.out, hki.out]
  by_cases hk : u.k = 3
  · have e3 : (u.k == 3) = true := by simp [hk]
    by_cases hx : 1 ≤ u.x
    · have ex : decide (u.x ≥ 1) = true := by simpa using hx
      have hr : Hid (ruleS d n 12 t = (n, 0)) := by rw [Hid, hr0.out, if_pos ⟨hk, hx⟩]
      clear hk hx
      go_wp2_with fail
      go_end0
      exact rd_plain hF0.out hle.out (hr.out) ⟨rfl, hck.out, Fr.refl _ _⟩
    · have ex : decide (u.x ≥ 1) = false := by simpa using hx
      have hr : Hid (ruleS d n 12 t = (n, 210)) := by rw [Hid, hr0.out, if_neg (fun h => hx h.2)]
      clear hk hx
      go_wp2_with fail
      refine (fails_any cb n 210 _ hck.out).mono ?_
      rintro e W9 ⟨rfl, hc9, hF9⟩
      have hfin := hid_of (rd_plain (e := .returned (.tuple #[])) hF0.out hle.out (hr.out) ⟨rfl, hc9, hF9⟩)
      clear hc9 hF9
      go_wp2_with fail
      go_end0
      exact hfin.out
  · have e3 : (u.k == 3) = false := by simp [hk]
    have hr : Hid (ruleS d n 12 t = (n, 210)) := by rw [Hid, hr0.out, if_neg (fun h => hk h.1)]
    clear hk
    go_wp2_with fail
    refine (fails_any cb n 210 _ hck.out).mono ?_
    rintro e W9 ⟨rfl, hc9, hF9⟩
    have hfin := hid_of (rd_plain (e := .returned (.tuple #[])) hF0.out hle.out (hr.out) ⟨rfl, hc9, hF9⟩)
    clear hc9 hF9
    go_wp2_with fail
    go_end0
    exact hfin.out
set_option maxHeartbeats 8000000 in
set_option maxRecDepth 100000 in
theorem rd_none (w0 : World) (cb d n : Nat) (t : Tr) (u : V5) (s : ByteArray) (w : World) (h : Gd w0 w cb d n t u) (hs : s ≠ wType ∧ s ≠ wEnum ∧ s ≠ wRequired ∧ s ≠ wProperties ∧ s ≠ wAdditional ∧ s ≠ wItems ∧ s ≠ wMinItems ∧ s ≠ wMaxItems ∧ s ≠ wMinLength ∧ s ≠ wMaxLength ∧ s ≠ wMinimum ∧ s ≠ wMaximum ∧ s ≠ wDivisible ∧ s ≠ wAnyOf ∧ s ≠ wAllOf ∧ s ≠ wNot) :
    Calls Tryz.prog 46 #[.pointer (some ⟨cb, 0, none⟩), .string s, u.v, .int .i64 (d : Int)] w (RdPost w cb (ruleS d n 16 t)) := by
  have hb0 := (Below.refl _ w).alloc (Nat.le_refl _) (u.obj 25)
  have hF0 := hid_of (Fr.of_below (S := fun b => b = cb) hb0)
  have hck := hid_of (h.ck.keep hb0)
  obtain ⟨x0, x1, x2, x3, x4, -⟩ := row_cells (heap_alloc_new w (u.obj 25))
  have hkd := hid_of (vrep_head h.rep).1
  have hki := hid_of (vrep_int h.rep)
  have hle := hid_of h.le
  have hlow := hid_of (range_parts h.range).1
  obtain ⟨q0, q1, q2, q3, q4, q5, q6, q7, q8, q9, q10, q11, q12, q13, q14, q15⟩ := hs
  replace q0 : (s.toList == [116, 121, 112, 101]) = false := bytes_lit q0
  replace q1 : (s.toList == [101, 110, 117, 109]) = false := bytes_lit q1
  replace q2 : (s.toList == [114, 101, 113, 117, 105, 114, 101, 100]) = false := bytes_lit q2
  replace q3 : (s.toList == [112, 114, 111, 112, 101, 114, 116, 105, 101, 115]) = false := bytes_lit q3
  replace q4 : (s.toList == [97, 100, 100, 105, 116, 105, 111, 110, 97, 108]) = false := bytes_lit q4
  replace q5 : (s.toList == [105, 116, 101, 109, 115]) = false := bytes_lit q5
  replace q6 : (s.toList == [109, 105, 110, 73, 116, 101, 109, 115]) = false := bytes_lit q6
  replace q7 : (s.toList == [109, 97, 120, 73, 116, 101, 109, 115]) = false := bytes_lit q7
  replace q8 : (s.toList == [109, 105, 110, 76, 101, 110, 103, 116, 104]) = false := bytes_lit q8
  replace q9 : (s.toList == [109, 97, 120, 76, 101, 110, 103, 116, 104]) = false := bytes_lit q9
  replace q10 : (s.toList == [109, 105, 110, 105, 109, 117, 109]) = false := bytes_lit q10
  replace q11 : (s.toList == [109, 97, 120, 105, 109, 117, 109]) = false := bytes_lit q11
  replace q12 : (s.toList == [100, 105, 118, 105, 115, 105, 98, 108, 101]) = false := bytes_lit q12
  replace q13 : (s.toList == [97, 110, 121, 79, 102]) = false := bytes_lit q13
  replace q14 : (s.toList == [97, 108, 108, 79, 102]) = false := bytes_lit q14
  replace q15 : (s.toList == [110, 111, 116]) = false := bytes_lit q15
  have hr : Hid (ruleS d n 16 t = (n, 210)) := by rw [Hid, rule_pos]; simp
  unfold V5.obj at *
  unfold V5.v
  clear h hb0
  go_enter Tryz.func46, Tryz.ntmps46
  go_wp2_with fail
  refine (fails_any cb n 210 _ hck.out).mono ?_
  rintro e W9 ⟨rfl, hc9, hF9⟩
  have hfin := hid_of (rd_plain (e := .returned (.tuple #[])) hF0.out hle.out (hr.out) ⟨rfl, hc9, hF9⟩)
  clear hc9 hF9
  go_wp2_with fail
  go_end0
  exact hfin.out
end Go.Proofs.YtgjemghfejaifaaGreatDoor
