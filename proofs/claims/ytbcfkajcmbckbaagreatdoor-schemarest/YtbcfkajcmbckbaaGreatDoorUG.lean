import Derived.Test.YtbcfkajcmbckbaaGreatDoorUB
import Derived.Test.YtbcfkajcmbckbaaGreatDoorVR
import Derived.Deep.RegionHeld3
/-! The document's reader of schemas: one rule. -/
namespace Go.Proofs.YtbcfkajcmbckbaaGreatDoor
open Go Go.RowKit

structure EnvD (w0 w : World) (cb : Nat) : Prop where
  base : w0.heap.size ≤ cb
  old : Below w0.heap.size w0 w
theorem EnvD.fr {w0 w w' : World} {cb : Nat} (h : EnvD w0 w cb) (hF : Fr (fun b => b = cb) w w') : EnvD w0 w' cb :=
  ⟨h.base, h.old.trans (hF.below h.old.size (fun i e => by subst e; exact h.base))⟩
structure RdPost (w : World) (cb : Nat) (res : Nat × Int) (e : Ending) (w' : World) : Prop where
  ret : e = .returned (.tuple #[])
  ck : CkAt w' cb res.1 res.2
  fr : Fr (fun b => b = cb) w w'
  le : res.1 ≤ 128
/-- The document reads a schema. -/
def RdOk (w0 : World) (t : Tr) : Prop := ∀ (d n cb : Nat) (u : V5) (w : World), d ≤ 9 → n ≤ 128 → VRep w0 t u.cs → SmallT t → NamesT t → RangeT t → EnvD w0 w cb → CkAt w cb n 0 →
  Calls Tryz.prog 18 #[.pointer (some ⟨cb, 0, none⟩), u.v, .int .i64 (d : Int)] w (RdPost w cb (schemaS d n t))
structure Gd (w0 w : World) (cb d n : Nat) (t : Tr) (u : V5) : Prop where
  d8 : d ≤ 8
  le : n ≤ 128
  rep : VRep w0 t u.cs
  small : SmallT t
  names : NamesT t
  range : RangeT t
  env : EnvD w0 w cb
  ck : CkAt w cb n 0
/-- No loop, no call: the given is tested, and told. -/
theorem rd_plain {w W w' : World} {cb n : Nat} {e : Ending} (hF : Fr (fun b => b = cb) w W) (hn : n ≤ 128) {z : Int} {res : Nat × Int} (hr : res = (n, z)) (h : e = .returned (.tuple #[]) ∧ CkAt w' cb n z ∧ Fr (fun b => b = cb) W w') : RdPost w cb res e w' := by
  subst hr
  exact ⟨h.1, h.2.1, hF.trans h.2.2, hn⟩
theorem range_parts {t : Tr} (h : RangeT t) : -9223372036854775808 ≤ t.int ∧ RangeL t.items := by
  obtain ⟨k, x, s, ns, its⟩ := t
  unfold RangeT at h
  exact ⟨h.1.1, h.2⟩
theorem RangeL.at : {its : List Tr} → {i : Nat} → {u : Tr} → RangeL its → its[i]? = some u → RangeT u
  | [], _, _, _, h => by simp at h
  | v :: vs, 0, u, hr, h => by
    unfold RangeL at hr
    have : v = u := by simpa using h
    exact this ▸ hr.1
  | v :: vs, i + 1, u, hr, h => by
    unfold RangeL at hr
    exact RangeL.at hr.2 (by simpa using h)
theorem bytes_lit {s : ByteArray} {a : Array UInt8} (h : s ≠ ⟨a⟩) : (s.toList == a.toList) = false := by
  have := bytes_ne h
  rwa [ByteArray.toList_eq ⟨a⟩] at this
set_option maxHeartbeats 8000000 in
set_option maxRecDepth 100000 in
theorem rd_additional (w0 : World) (cb d n : Nat) (t : Tr) (u : V5) (w : World) (h : Gd w0 w cb d n t u) :
    Calls Tryz.prog 29 #[.pointer (some ⟨cb, 0, none⟩), .string wAdditional, u.v, .int .i64 (d : Int)] w (RdPost w cb (ruleS d n 4 t)) := by
  have hb0 := (Below.refl _ w).alloc (Nat.le_refl _) (u.obj 25)
  have hF0 := hid_of (Fr.of_below (S := fun b => b = cb) hb0)
  have hck := hid_of (h.ck.keep hb0)
  obtain ⟨x0, x1, x2, x3, x4, -⟩ := row_cells (heap_alloc_new w (u.obj 25))
  have hkd := hid_of (vrep_head h.rep).1
  have hki := hid_of (vrep_int h.rep)
  have hle := hid_of h.le
  have hlow := hid_of (range_parts h.range).1
  unfold V5.obj at *
  unfold V5.v wAdditional
  clear h hb0
  go_enter Tryz.func29, Tryz.ntmps29
  by_cases h2 : u.k = 2
  · have e2 : (u.k == 2) = true := by simp [h2]
    have hr : Hid (ruleS d n 4 t = (n, 0)) := by rw [Hid, rule_pos]; simp [hkd.out, h2]
    clear h2
    go_wp2_with fail
    go_end0
    exact rd_plain hF0.out hle.out (hr.out) ⟨rfl, hck.out, Fr.refl _ _⟩
  have e2 : (u.k == 2) = false := by simp [h2]
  by_cases h1 : u.k = 1
  · have e1 : (u.k == 1) = true := by simp [h1]
    have hr : Hid (ruleS d n 4 t = (n, 0)) := by rw [Hid, rule_pos]; simp [hkd.out, h1]
    clear h2 h1
    go_wp2_with fail
    go_end0
    exact rd_plain hF0.out hle.out (hr.out) ⟨rfl, hck.out, Fr.refl _ _⟩
  · have e1 : (u.k == 1) = false := by simp [h1]
    have hr : Hid (ruleS d n 4 t = (n, 210)) := by rw [Hid, rule_pos]; simp [hkd.out, h1, h2]
    clear h2 h1
    go_wp2_with fail
    refine (fails_any cb n 210 _ hck.out).mono ?_
    rintro e W9 ⟨rfl, hc9, hF9⟩
    have hfin := hid_of (rd_plain (e := .returned (.tuple #[])) hF0.out hle.out (hr.out) ⟨rfl, hc9, hF9⟩)
    clear hc9 hF9
    go_wp2_with fail
    go_end0
    exact hfin.out
set_option maxHeartbeats 8000000 in
set_option maxRecDepth 100000 in
theorem rd_minItems (w0 : World) (cb d n : Nat) (t : Tr) (u : V5) (w : World) (h : Gd w0 w cb d n t u) :
    Calls Tryz.prog 29 #[.pointer (some ⟨cb, 0, none⟩), .string wMinItems, u.v, .int .i64 (d : Int)] w (RdPost w cb (ruleS d n 6 t)) := by
  have hb0 := (Below.refl _ w).alloc (Nat.le_refl _) (u.obj 25)
  have hF0 := hid_of (Fr.of_below (S := fun b => b = cb) hb0)
  have hck := hid_of (h.ck.keep hb0)
  obtain ⟨x0, x1, x2, x3, x4, -⟩ := row_cells (heap_alloc_new w (u.obj 25))
  have hkd := hid_of (vrep_head h.rep).1
  have hki := hid_of (vrep_int h.rep)
  have hle := hid_of h.le
  have hlow := hid_of (range_parts h.range).1
  unfold V5.obj at *
  unfold V5.v wMinItems
  clear h hb0
  go_enter Tryz.func29, Tryz.ntmps29
  have hr0 : Hid (ruleS d n 6 t = (n, if u.k = 3 ∧ 0 ≤ u.x then 0 else 210)) := by
    rw [Hid, rule_pos]
    simp only [Nat.reduceEqDiff, if_false, or_self]
    have hlo : leastOf 6 = 0 := by decide
    rw [hlo, hkd.out, hki.out]
  by_cases hk : u.k = 3
  · have e3 : (u.k == 3) = true := by simp [hk]
    by_cases hx : 0 ≤ u.x
    · have ex : decide (u.x ≥ 0) = true := by simpa using hx
      have hr : Hid (ruleS d n 6 t = (n, 0)) := by rw [Hid, hr0.out, if_pos ⟨hk, hx⟩]
      clear hk hx
      go_wp2_with fail
      go_end0
      exact rd_plain hF0.out hle.out (hr.out) ⟨rfl, hck.out, Fr.refl _ _⟩
    · have ex : decide (u.x ≥ 0) = false := by simpa using hx
      have hr : Hid (ruleS d n 6 t = (n, 210)) := by rw [Hid, hr0.out, if_neg (fun h => hx h.2)]
      clear hk hx
      go_wp2_with fail
      refine (fails_any cb n 210 _ hck.out).mono ?_
      rintro e W9 ⟨rfl, hc9, hF9⟩
      have hfin := hid_of (rd_plain (e := .returned (.tuple #[])) hF0.out hle.out (hr.out) ⟨rfl, hc9, hF9⟩)
      clear hc9 hF9
      go_wp2_with fail
      go_end0
      exact hfin.out
  · have e3 : (u.k == 3) = false := by simp [hk]
    have hr : Hid (ruleS d n 6 t = (n, 210)) := by rw [Hid, hr0.out, if_neg (fun h => hk h.1)]
    clear hk
    go_wp2_with fail
    refine (fails_any cb n 210 _ hck.out).mono ?_
    rintro e W9 ⟨rfl, hc9, hF9⟩
    have hfin := hid_of (rd_plain (e := .returned (.tuple #[])) hF0.out hle.out (hr.out) ⟨rfl, hc9, hF9⟩)
    clear hc9 hF9
    go_wp2_with fail
    go_end0
    exact hfin.out
set_option maxHeartbeats 8000000 in
set_option maxRecDepth 100000 in
theorem rd_maxItems (w0 : World) (cb d n : Nat) (t : Tr) (u : V5) (w : World) (h : Gd w0 w cb d n t u) :
    Calls Tryz.prog 29 #[.pointer (some ⟨cb, 0, none⟩), .string wMaxItems, u.v, .int .i64 (d : Int)] w (RdPost w cb (ruleS d n 7 t)) := by
  have hb0 := (Below.refl _ w).alloc (Nat.le_refl _) (u.obj 25)
  have hF0 := hid_of (Fr.of_below (S := fun b => b = cb) hb0)
  have hck := hid_of (h.ck.keep hb0)
  obtain ⟨x0, x1, x2, x3, x4, -⟩ := row_cells (heap_alloc_new w (u.obj 25))
  have hkd := hid_of (vrep_head h.rep).1
  have hki := hid_of (vrep_int h.rep)
  have hle := hid_of h.le
  have hlow := hid_of (range_parts h.range).1
  unfold V5.obj at *
  unfold V5.v wMaxItems
  clear h hb0
  go_enter Tryz.func29, Tryz.ntmps29
  have hr0 : Hid (ruleS d n 7 t = (n, if u.k = 3 ∧ 0 ≤ u.x then 0 else 210)) := by
    rw [Hid, rule_pos]
    simp only [Nat.reduceEqDiff, if_false, or_self]
    have hlo : leastOf 7 = 0 := by decide
    rw [hlo, hkd.out, hki.out]
  by_cases hk : u.k = 3
  · have e3 : (u.k == 3) = true := by simp [hk]
    by_cases hx : 0 ≤ u.x
    · have ex : decide (u.x ≥ 0) = true := by simpa using hx
      have hr : Hid (ruleS d n 7 t = (n, 0)) := by rw [Hid, hr0.out, if_pos ⟨hk, hx⟩]
      clear hk hx
      go_wp2_with fail
      go_end0
      exact rd_plain hF0.out hle.out (hr.out) ⟨rfl, hck.out, Fr.refl _ _⟩
    · have ex : decide (u.x ≥ 0) = false := by simpa using hx
      have hr : Hid (ruleS d n 7 t = (n, 210)) := by rw [Hid, hr0.out, if_neg (fun h => hx h.2)]
      clear hk hx
      go_wp2_with fail
      refine (fails_any cb n 210 _ hck.out).mono ?_
      rintro e W9 ⟨rfl, hc9, hF9⟩
      have hfin := hid_of (rd_plain (e := .returned (.tuple #[])) hF0.out hle.out (hr.out) ⟨rfl, hc9, hF9⟩)
      clear hc9 hF9
      go_wp2_with fail
      go_end0
      exact hfin.out
  · have e3 : (u.k == 3) = false := by simp [hk]
    have hr : Hid (ruleS d n 7 t = (n, 210)) := by rw [Hid, hr0.out, if_neg (fun h => hk h.1)]
    clear hk
    go_wp2_with fail
    refine (fails_any cb n 210 _ hck.out).mono ?_
    rintro e W9 ⟨rfl, hc9, hF9⟩
    have hfin := hid_of (rd_plain (e := .returned (.tuple #[])) hF0.out hle.out (hr.out) ⟨rfl, hc9, hF9⟩)
    clear hc9 hF9
    go_wp2_with fail
    go_end0
    exact hfin.out
set_option maxHeartbeats 8000000 in
set_option maxRecDepth 100000 in
theorem rd_minLength (w0 : World) (cb d n : Nat) (t : Tr) (u : V5) (w : World) (h : Gd w0 w cb d n t u) :
    Calls Tryz.prog 29 #[.pointer (some ⟨cb, 0, none⟩), .string wMinLength, u.v, .int .i64 (d : Int)] w (RdPost w cb (ruleS d n 8 t)) := by
  have hb0 := (Below.refl _ w).alloc (Nat.le_refl _) (u.obj 25)
  have hF0 := hid_of (Fr.of_below (S := fun b => b = cb) hb0)
  have hck := hid_of (h.ck.keep hb0)
  obtain ⟨x0, x1, x2, x3, x4, -⟩ := row_cells (heap_alloc_new w (u.obj 25))
  have hkd := hid_of (vrep_head h.rep).1
  have hki := hid_of (vrep_int h.rep)
  have hle := hid_of h.le
  have hlow := hid_of (range_parts h.range).1
  unfold V5.obj at *
  unfold V5.v wMinLength
  clear h hb0
  go_enter Tryz.func29, Tryz.ntmps29
  have hr0 : Hid (ruleS d n 8 t = (n, if u.k = 3 ∧ 0 ≤ u.x then 0 else 210)) := by
    rw [Hid, rule_pos]
    simp only [Nat.reduceEqDiff, if_false, or_self]
    have hlo : leastOf 8 = 0 := by decide
    rw [hlo, hkd.out, hki.out]
  by_cases hk : u.k = 3
  · have e3 : (u.k == 3) = true := by simp [hk]
    by_cases hx : 0 ≤ u.x
    · have ex : decide (u.x ≥ 0) = true := by simpa using hx
      have hr : Hid (ruleS d n 8 t = (n, 0)) := by rw [Hid, hr0.out, if_pos ⟨hk, hx⟩]
      clear hk hx
      go_wp2_with fail
      go_end0
      exact rd_plain hF0.out hle.out (hr.out) ⟨rfl, hck.out, Fr.refl _ _⟩
    · have ex : decide (u.x ≥ 0) = false := by simpa using hx
      have hr : Hid (ruleS d n 8 t = (n, 210)) := by rw [Hid, hr0.out, if_neg (fun h => hx h.2)]
      clear hk hx
      go_wp2_with fail
      refine (fails_any cb n 210 _ hck.out).mono ?_
      rintro e W9 ⟨rfl, hc9, hF9⟩
      have hfin := hid_of (rd_plain (e := .returned (.tuple #[])) hF0.out hle.out (hr.out) ⟨rfl, hc9, hF9⟩)
      clear hc9 hF9
      go_wp2_with fail
      go_end0
      exact hfin.out
  · have e3 : (u.k == 3) = false := by simp [hk]
    have hr : Hid (ruleS d n 8 t = (n, 210)) := by rw [Hid, hr0.out, if_neg (fun h => hk h.1)]
    clear hk
    go_wp2_with fail
    refine (fails_any cb n 210 _ hck.out).mono ?_
    rintro e W9 ⟨rfl, hc9, hF9⟩
    have hfin := hid_of (rd_plain (e := .returned (.tuple #[])) hF0.out hle.out (hr.out) ⟨rfl, hc9, hF9⟩)
    clear hc9 hF9
    go_wp2_with fail
    go_end0
    exact hfin.out
set_option maxHeartbeats 8000000 in
set_option maxRecDepth 100000 in
theorem rd_maxLength (w0 : World) (cb d n : Nat) (t : Tr) (u : V5) (w : World) (h : Gd w0 w cb d n t u) :
    Calls Tryz.prog 29 #[.pointer (some ⟨cb, 0, none⟩), .string wMaxLength, u.v, .int .i64 (d : Int)] w (RdPost w cb (ruleS d n 9 t)) := by
  have hb0 := (Below.refl _ w).alloc (Nat.le_refl _) (u.obj 25)
  have hF0 := hid_of (Fr.of_below (S := fun b => b = cb) hb0)
  have hck := hid_of (h.ck.keep hb0)
  obtain ⟨x0, x1, x2, x3, x4, -⟩ := row_cells (heap_alloc_new w (u.obj 25))
  have hkd := hid_of (vrep_head h.rep).1
  have hki := hid_of (vrep_int h.rep)
  have hle := hid_of h.le
  have hlow := hid_of (range_parts h.range).1
  unfold V5.obj at *
  unfold V5.v wMaxLength
  clear h hb0
  go_enter Tryz.func29, Tryz.ntmps29
  have hr0 : Hid (ruleS d n 9 t = (n, if u.k = 3 ∧ 0 ≤ u.x then 0 else 210)) := by
    rw [Hid, rule_pos]
    simp only [Nat.reduceEqDiff, if_false, or_self]
    have hlo : leastOf 9 = 0 := by decide
    rw [hlo, hkd.out, hki.out]
  by_cases hk : u.k = 3
  · have e3 : (u.k == 3) = true := by simp [hk]
    by_cases hx : 0 ≤ u.x
    · have ex : decide (u.x ≥ 0) = true := by simpa using hx
      have hr : Hid (ruleS d n 9 t = (n, 0)) := by rw [Hid, hr0.out, if_pos ⟨hk, hx⟩]
      clear hk hx
      go_wp2_with fail
      go_end0
      exact rd_plain hF0.out hle.out (hr.out) ⟨rfl, hck.out, Fr.refl _ _⟩
    · have ex : decide (u.x ≥ 0) = false := by simpa using hx
      have hr : Hid (ruleS d n 9 t = (n, 210)) := by rw [Hid, hr0.out, if_neg (fun h => hx h.2)]
      clear hk hx
      go_wp2_with fail
      refine (fails_any cb n 210 _ hck.out).mono ?_
      rintro e W9 ⟨rfl, hc9, hF9⟩
      have hfin := hid_of (rd_plain (e := .returned (.tuple #[])) hF0.out hle.out (hr.out) ⟨rfl, hc9, hF9⟩)
      clear hc9 hF9
      go_wp2_with fail
      go_end0
      exact hfin.out
  · have e3 : (u.k == 3) = false := by simp [hk]
    have hr : Hid (ruleS d n 9 t = (n, 210)) := by rw [Hid, hr0.out, if_neg (fun h => hk h.1)]
    clear hk
    go_wp2_with fail
    refine (fails_any cb n 210 _ hck.out).mono ?_
    rintro e W9 ⟨rfl, hc9, hF9⟩
    have hfin := hid_of (rd_plain (e := .returned (.tuple #[])) hF0.out hle.out (hr.out) ⟨rfl, hc9, hF9⟩)
    clear hc9 hF9
    go_wp2_with fail
    go_end0
    exact hfin.out
set_option maxHeartbeats 8000000 in
set_option maxRecDepth 100000 in
theorem rd_minimum (w0 : World) (cb d n : Nat) (t : Tr) (u : V5) (w : World) (h : Gd w0 w cb d n t u) :
    Calls Tryz.prog 29 #[.pointer (some ⟨cb, 0, none⟩), .string wMinimum, u.v, .int .i64 (d : Int)] w (RdPost w cb (ruleS d n 10 t)) := by
  have hb0 := (Below.refl _ w).alloc (Nat.le_refl _) (u.obj 25)
  have hF0 := hid_of (Fr.of_below (S := fun b => b = cb) hb0)
  have hck := hid_of (h.ck.keep hb0)
  obtain ⟨x0, x1, x2, x3, x4, -⟩ := row_cells (heap_alloc_new w (u.obj 25))
  have hkd := hid_of (vrep_head h.rep).1
  have hki := hid_of (vrep_int h.rep)
  have hle := hid_of h.le
  have hlow := hid_of (range_parts h.range).1
  unfold V5.obj at *
  unfold V5.v wMinimum
  clear h hb0
  go_enter Tryz.func29, Tryz.ntmps29
  have hr0 : Hid (ruleS d n 10 t = (n, if u.k = 3 ∧ (-9223372036854775808) ≤ u.x then 0 else 210)) := by
    rw [Hid, rule_pos]
    simp only [Nat.reduceEqDiff, if_false, or_self]
    have hlo : leastOf 10 = (-9223372036854775808) := by decide
    rw [hlo, hkd.out, hki.out]
  by_cases hk : u.k = 3
  · have e3 : (u.k == 3) = true := by simp [hk]
    have hr : Hid (ruleS d n 10 t = (n, 0)) := by rw [Hid, hr0.out, if_pos ⟨hk, by rw [← hki.out]; exact hlow.out⟩]
    clear hk
    go_wp2_with fail
    go_end0
    exact rd_plain hF0.out hle.out (hr.out) ⟨rfl, hck.out, Fr.refl _ _⟩
  · have e3 : (u.k == 3) = false := by simp [hk]
    have hr : Hid (ruleS d n 10 t = (n, 210)) := by rw [Hid, hr0.out, if_neg (fun h => hk h.1)]
    clear hk
    go_wp2_with fail
    refine (fails_any cb n 210 _ hck.out).mono ?_
    rintro e W9 ⟨rfl, hc9, hF9⟩
    have hfin := hid_of (rd_plain (e := .returned (.tuple #[])) hF0.out hle.out (hr.out) ⟨rfl, hc9, hF9⟩)
    clear hc9 hF9
    go_wp2_with fail
    go_end0
    exact hfin.out
set_option maxHeartbeats 8000000 in
set_option maxRecDepth 100000 in
theorem rd_maximum (w0 : World) (cb d n : Nat) (t : Tr) (u : V5) (w : World) (h : Gd w0 w cb d n t u) :
    Calls Tryz.prog 29 #[.pointer (some ⟨cb, 0, none⟩), .string wMaximum, u.v, .int .i64 (d : Int)] w (RdPost w cb (ruleS d n 11 t)) := by
  have hb0 := (Below.refl _ w).alloc (Nat.le_refl _) (u.obj 25)
  have hF0 := hid_of (Fr.of_below (S := fun b => b = cb) hb0)
  have hck := hid_of (h.ck.keep hb0)
  obtain ⟨x0, x1, x2, x3, x4, -⟩ := row_cells (heap_alloc_new w (u.obj 25))
  have hkd := hid_of (vrep_head h.rep).1
  have hki := hid_of (vrep_int h.rep)
  have hle := hid_of h.le
  have hlow := hid_of (range_parts h.range).1
  unfold V5.obj at *
  unfold V5.v wMaximum
  clear h hb0
  go_enter Tryz.func29, Tryz.ntmps29
  have hr0 : Hid (ruleS d n 11 t = (n, if u.k = 3 ∧ (-9223372036854775808) ≤ u.x then 0 else 210)) := by
    rw [Hid, rule_pos]
    simp only [Nat.reduceEqDiff, if_false, or_self]
    have hlo : leastOf 11 = (-9223372036854775808) := by decide
    rw [hlo, hkd.out, hki.out]
  by_cases hk : u.k = 3
  · have e3 : (u.k == 3) = true := by simp [hk]
    have hr : Hid (ruleS d n 11 t = (n, 0)) := by rw [Hid, hr0.out, if_pos ⟨hk, by rw [← hki.out]; exact hlow.out⟩]
    clear hk
    go_wp2_with fail
    go_end0
    exact rd_plain hF0.out hle.out (hr.out) ⟨rfl, hck.out, Fr.refl _ _⟩
  · have e3 : (u.k == 3) = false := by simp [hk]
    have hr : Hid (ruleS d n 11 t = (n, 210)) := by rw [Hid, hr0.out, if_neg (fun h => hk h.1)]
    clear hk
    go_wp2_with fail
    refine (fails_any cb n 210 _ hck.out).mono ?_
    rintro e W9 ⟨rfl, hc9, hF9⟩
    have hfin := hid_of (rd_plain (e := .returned (.tuple #[])) hF0.out hle.out (hr.out) ⟨rfl, hc9, hF9⟩)
    clear hc9 hF9
    go_wp2_with fail
    go_end0
    exact hfin.out
set_option maxHeartbeats 8000000 in
set_option maxRecDepth 100000 in
theorem rd_divisible (w0 : World) (cb d n : Nat) (t : Tr) (u : V5) (w : World) (h : Gd w0 w cb d n t u) :
    Calls Tryz.prog 29 #[.pointer (some ⟨cb, 0, none⟩), .string wDivisible, u.v, .int .i64 (d : Int)] w (RdPost w cb (ruleS d n 12 t)) := by
  have hb0 := (Below.refl _ w).alloc (Nat.le_refl _) (u.obj 25)
  have hF0 := hid_of (Fr.of_below (S := fun b => b = cb) hb0)
  have hck := hid_of (h.ck.keep hb0)
  obtain ⟨x0, x1, x2, x3, x4, -⟩ := row_cells (heap_alloc_new w (u.obj 25))
  have hkd := hid_of (vrep_head h.rep).1
  have hki := hid_of (vrep_int h.rep)
  have hle := hid_of h.le
  have hlow := hid_of (range_parts h.range).1
  unfold V5.obj at *
  unfold V5.v wDivisible
  clear h hb0
  go_enter Tryz.func29, Tryz.ntmps29
  have hr0 : Hid (ruleS d n 12 t = (n, if u.k = 3 ∧ 1 ≤ u.x then 0 else 210)) := by
    rw [Hid, rule_pos]
    simp only [Nat.reduceEqDiff, if_false, or_self]
    have hlo : leastOf 12 = 1 := by decide
    rw [hlo, hkd.out, hki.out]
  by_cases hk : u.k = 3
  · have e3 : (u.k == 3) = true := by simp [hk]
    by_cases hx : 1 ≤ u.x
    · have ex : decide (u.x ≥ 1) = true := by simpa using hx
      have hr : Hid (ruleS d n 12 t = (n, 0)) := by rw [Hid, hr0.out, if_pos ⟨hk, hx⟩]
      clear hk hx
      go_wp2_with fail
      go_end0
      exact rd_plain hF0.out hle.out (hr.out) ⟨rfl, hck.out, Fr.refl _ _⟩
    · have ex : decide (u.x ≥ 1) = false := by simpa using hx
      have hr : Hid (ruleS d n 12 t = (n, 210)) := by rw [Hid, hr0.out, if_neg (fun h => hx h.2)]
      clear hk hx
      go_wp2_with fail
      refine (fails_any cb n 210 _ hck.out).mono ?_
      rintro e W9 ⟨rfl, hc9, hF9⟩
      have hfin := hid_of (rd_plain (e := .returned (.tuple #[])) hF0.out hle.out (hr.out) ⟨rfl, hc9, hF9⟩)
      clear hc9 hF9
      go_wp2_with fail
      go_end0
      exact hfin.out
  · have e3 : (u.k == 3) = false := by simp [hk]
    have hr : Hid (ruleS d n 12 t = (n, 210)) := by rw [Hid, hr0.out, if_neg (fun h => hk h.1)]
    clear hk
    go_wp2_with fail
    refine (fails_any cb n 210 _ hck.out).mono ?_
    rintro e W9 ⟨rfl, hc9, hF9⟩
    have hfin := hid_of (rd_plain (e := .returned (.tuple #[])) hF0.out hle.out (hr.out) ⟨rfl, hc9, hF9⟩)
    clear hc9 hF9
    go_wp2_with fail
    go_end0
    exact hfin.out
set_option maxHeartbeats 8000000 in
set_option maxRecDepth 100000 in
theorem rd_none (w0 : World) (cb d n : Nat) (t : Tr) (u : V5) (s : ByteArray) (w : World) (h : Gd w0 w cb d n t u) (hs : s ≠ wType ∧ s ≠ wEnum ∧ s ≠ wRequired ∧ s ≠ wProperties ∧ s ≠ wAdditional ∧ s ≠ wItems ∧ s ≠ wMinItems ∧ s ≠ wMaxItems ∧ s ≠ wMinLength ∧ s ≠ wMaxLength ∧ s ≠ wMinimum ∧ s ≠ wMaximum ∧ s ≠ wDivisible ∧ s ≠ wAnyOf ∧ s ≠ wAllOf ∧ s ≠ wNot) :
    Calls Tryz.prog 29 #[.pointer (some ⟨cb, 0, none⟩), .string s, u.v, .int .i64 (d : Int)] w (RdPost w cb (ruleS d n 16 t)) := by
  have hb0 := (Below.refl _ w).alloc (Nat.le_refl _) (u.obj 25)
  have hF0 := hid_of (Fr.of_below (S := fun b => b = cb) hb0)
  have hck := hid_of (h.ck.keep hb0)
  obtain ⟨x0, x1, x2, x3, x4, -⟩ := row_cells (heap_alloc_new w (u.obj 25))
  have hkd := hid_of (vrep_head h.rep).1
  have hki := hid_of (vrep_int h.rep)
  have hle := hid_of h.le
  have hlow := hid_of (range_parts h.range).1
  obtain ⟨q0, q1, q2, q3, q4, q5, q6, q7, q8, q9, q10, q11, q12, q13, q14, q15⟩ := hs
  replace q0 : (s.toList == [116, 121, 112, 101]) = false := bytes_lit q0
  replace q1 : (s.toList == [101, 110, 117, 109]) = false := bytes_lit q1
  replace q2 : (s.toList == [114, 101, 113, 117, 105, 114, 101, 100]) = false := bytes_lit q2
  replace q3 : (s.toList == [112, 114, 111, 112, 101, 114, 116, 105, 101, 115]) = false := bytes_lit q3
  replace q4 : (s.toList == [97, 100, 100, 105, 116, 105, 111, 110, 97, 108]) = false := bytes_lit q4
  replace q5 : (s.toList == [105, 116, 101, 109, 115]) = false := bytes_lit q5
  replace q6 : (s.toList == [109, 105, 110, 73, 116, 101, 109, 115]) = false := bytes_lit q6
  replace q7 : (s.toList == [109, 97, 120, 73, 116, 101, 109, 115]) = false := bytes_lit q7
  replace q8 : (s.toList == [109, 105, 110, 76, 101, 110, 103, 116, 104]) = false := bytes_lit q8
  replace q9 : (s.toList == [109, 97, 120, 76, 101, 110, 103, 116, 104]) = false := bytes_lit q9
  replace q10 : (s.toList == [109, 105, 110, 105, 109, 117, 109]) = false := bytes_lit q10
  replace q11 : (s.toList == [109, 97, 120, 105, 109, 117, 109]) = false := bytes_lit q11
  replace q12 : (s.toList == [100, 105, 118, 105, 115, 105, 98, 108, 101]) = false := bytes_lit q12
  replace q13 : (s.toList == [97, 110, 121, 79, 102]) = false := bytes_lit q13
  replace q14 : (s.toList == [97, 108, 108, 79, 102]) = false := bytes_lit q14
  replace q15 : (s.toList == [110, 111, 116]) = false := bytes_lit q15
  have hr : Hid (ruleS d n 16 t = (n, 210)) := by rw [Hid, rule_pos]; simp
  unfold V5.obj at *
  unfold V5.v
  clear h hb0
  go_enter Tryz.func29, Tryz.ntmps29
  go_wp2_with fail
  refine (fails_any cb n 210 _ hck.out).mono ?_
  rintro e W9 ⟨rfl, hc9, hF9⟩
  have hfin := hid_of (rd_plain (e := .returned (.tuple #[])) hF0.out hle.out (hr.out) ⟨rfl, hc9, hF9⟩)
  clear hc9 hF9
  go_wp2_with fail
  go_end0
  exact hfin.out
end Go.Proofs.YtbcfkajcmbckbaaGreatDoor
/-! The document's reader of schemas: type, enum, required. -/
namespace Go.Proofs.YtbcfkajcmbckbaaGreatDoor
open Go Go.RowKit

theorem listB_enum (k : Int) (its : List Tr) : listB k its 1 false = true ↔ (k = 5 ∧ its ≠ []) := by
  unfold listB
  cases its with
  | nil => simp
  | cons a l =>
    have h : (1 : Int) ≤ ((a :: l).length : Int) := by rw [List.length_cons]; omega
    rw [decide_eq_true h]
    simp
theorem listB_required (k : Int) (its : List Tr) : listB k its 0 true = true ↔ (k = 5 ∧ its.all (fun t => t.kind == 4) = true) := by
  unfold listB
  have h : (0 : Int) ≤ (its.length : Int) := by omega
  rw [decide_eq_true h]
  simp only [Bool.not_true, Bool.false_or, Bool.and_true, Bool.and_eq_true, beq_iff_eq]
  exact And.comm

set_option maxHeartbeats 8000000 in
set_option maxRecDepth 100000 in
theorem rd_type (w0 : World) (cb d n : Nat) (t : Tr) (u : V5) (w : World) (h : Gd w0 w cb d n t u) :
    Calls Tryz.prog 29 #[.pointer (some ⟨cb, 0, none⟩), .string wType, u.v, .int .i64 (d : Int)] w (RdPost w cb (ruleS d n 0 t)) := by
  have hb0 := hid_of ((Below.refl _ w).alloc (Nat.le_refl _) (u.obj 25))
  have hF0 := hid_of (Fr.of_below (S := fun b => b = cb) hb0.out)
  have hck := hid_of (h.ck.keep hb0.out)
  have hn0 := heap_alloc_new w (u.obj 25)
  obtain ⟨x0, x1, x2, x3, x4, -⟩ := row_cells hn0
  have hkd := hid_of (vrep_head h.rep)
  have hle := hid_of h.le
  obtain ⟨hrow, hli⟩ := rep_row h.rep
  replace hrow := hid_of (RowT.keep hrow h.env.old)
  replace hli := hid_of hli
  have hrow0 := hid_of (RowT.keep hrow.out hb0.out)
  have hsm := hid_of (small_parts h.small)
  have hrep := hid_of (VRep.keep h.env.old _ _ h.rep)
  have hb1 := hid_of (hb0.out.alloc hb0.out.size (.cells #[.int .i64 u.k, .int .i64 u.x, .string u.s, .slice u.an u.ln u.cn, .slice u.ai u.li u.ci] 25))
  have hrow1 := hid_of (row_one (v := u) (VRep.keep hb1.out _ _ hrep.out) (new2 w (.cells #[.int .i64 u.k, .int .i64 u.x, .string u.s, .slice u.an u.ln u.cn, .slice u.ai u.li u.ci] 25) (.cells #[.int .i64 u.k, .int .i64 u.x, .string u.s, .slice u.an u.ln u.cn, .slice u.ai u.li u.ci] 25)))
  have hrt := fun c => hid_of (rtypes_any u.ai c t.items _ hrow0 hsm.out.1)
  have hrt1 := fun c => hid_of (rtypes_any _ c [t] _ hrow1 (by simp))
  have hsz : Hid ((w.alloc (u.obj 25)).heap.size = w.heap.size + 1) := World.size_alloc _ _
  have h1l : Hid ((decide ([t] ≠ []) && [t].all isTy) = isTy t) := by rw [Hid]; simp
  obtain ⟨R, hR⟩ : ∃ R, Hid ((decide (t.items ≠ []) && t.items.all isTy) = R) := ⟨_, rfl⟩
  obtain ⟨T, hT⟩ : ∃ T, Hid (isTy t = T) := ⟨_, rfl⟩
  rw [hR.out] at hrt
  rw [h1l.out, hT.out] at hrt1
  have hr0 : Hid (ruleS d n 0 t = (n, if (if u.k = 5 then R else ((u.k == 4) && tyName u.s)) = true then 0 else 210)) := by
    rw [Hid, rule_pos]
    simp only [if_true]
    unfold typeOk
    rw [hkd.out.1, hR.out]
    by_cases h4 : u.k = 4
    · rw [hkd.out.2]
    · simp [h4]
  have hT4 : u.k = 4 → Hid (T = tyName u.s) := fun h4 => by
    rw [Hid, ← hT.out]; unfold isTy; rw [hkd.out.1, hkd.out.2, h4]; simp
  rw [← hli.out] at hrt
  unfold V5.obj at *
  unfold V5.v wType
  rw [show [t].length = 1 from rfl] at hrt1
  clear h hn0
  go_enter Tryz.func29, Tryz.ntmps29
  by_cases hk4 : u.k = 4
  · have e4 : (u.k == 4) = true := by simp [hk4]
    have e5 : (u.k == 5) = false := by simp [hk4]
    have hTT := (hT4 hk4)
    have hr1 : Hid (ruleS d n 0 t = (n, if T = true then 0 else 210)) := by rw [Hid, hr0.out, hTT.out]; simp [hk4]
    clear hk4 hT4 hr0 hTT hT
    go_wp2_with fail
    refine (hrt1 _).out.mono ?_
    rintro e W ⟨rfl, hbW⟩
    have y0 := stay hbW (stay ((Below.refl _ _).alloc (Nat.le_refl _) (.cells #[.int .i64 u.k, .int .i64 u.x, .string u.s, .slice u.an u.ln u.cn, .slice u.ai u.li u.ci] 25)) x0)
    have hFW := hid_of (Fr.of_below (S := fun b => b = cb) (hb1.out.trans (hbW.mono hb1.out.size)))
    have hcW := hid_of ((hck.out.keep ((Below.refl _ _).alloc (Nat.le_refl _) (.cells #[.int .i64 u.k, .int .i64 u.x, .string u.s, .slice u.an u.ln u.cn, .slice u.ai u.li u.ci] 25))).keep hbW)
    clear x0 x1 x2 x3 x4 hbW hrt hrt1
    cases T with
    | true =>
      have hr : Hid (ruleS d n 0 t = (n, 0)) := by rw [Hid, hr1.out]; rfl
      go_wp2_with fail
      go_end0
      exact rd_plain hFW.out hle.out (hr.out) ⟨rfl, hcW.out, Fr.refl _ _⟩
    | false =>
      have hr : Hid (ruleS d n 0 t = (n, 210)) := by rw [Hid, hr1.out]; rfl
      go_wp2_with fail
      refine (fails_any cb n 210 _ hcW.out).mono ?_
      rintro e W9 ⟨rfl, hc9, hF9⟩
      have hfin := hid_of (rd_plain (e := .returned (.tuple #[])) hFW.out hle.out (hr.out) ⟨rfl, hc9, hF9⟩)
      clear hc9 hF9
      go_wp2_with fail
      go_end0
      exact hfin.out
  have e4 : (u.k == 4) = false := by simp [hk4]
  by_cases hk5 : u.k = 5
  · have e5 : (u.k == 5) = true := by simp [hk5]
    have hr1 : Hid (ruleS d n 0 t = (n, if R = true then 0 else 210)) := by rw [Hid, hr0.out]; simp [hk5]
    clear hk4 hk5 hT4 hr0
    go_wp2_with fail
    refine (hrt _).out.mono ?_
    rintro e W ⟨rfl, hbW⟩
    have hFW := hid_of (Fr.of_below (S := fun b => b = cb) (hb0.out.trans (hbW.mono hb0.out.size)))
    have hcW := hid_of (hck.out.keep hbW)
    clear x0 x1 x2 x3 x4 hbW hrt hrt1
    cases R with
    | true =>
      have hr : Hid (ruleS d n 0 t = (n, 0)) := by rw [Hid, hr1.out]; rfl
      go_wp2_with fail
      go_end0
      exact rd_plain hFW.out hle.out (hr.out) ⟨rfl, hcW.out, Fr.refl _ _⟩
    | false =>
      have hr : Hid (ruleS d n 0 t = (n, 210)) := by rw [Hid, hr1.out]; rfl
      go_wp2_with fail
      refine (fails_any cb n 210 _ hcW.out).mono ?_
      rintro e W9 ⟨rfl, hc9, hF9⟩
      have hfin := hid_of (rd_plain (e := .returned (.tuple #[])) hFW.out hle.out (hr.out) ⟨rfl, hc9, hF9⟩)
      clear hc9 hF9
      go_wp2_with fail
      go_end0
      exact hfin.out
  · have e5 : (u.k == 5) = false := by simp [hk5]
    have hr : Hid (ruleS d n 0 t = (n, 210)) := by rw [Hid, hr0.out]; simp [hk5, hk4]
    clear hk4 hk5 hT4 hr0
    go_wp2_with fail
    refine (fails_any cb n 210 _ hck.out).mono ?_
    rintro e W9 ⟨rfl, hc9, hF9⟩
    have hfin := hid_of (rd_plain (e := .returned (.tuple #[])) hF0.out hle.out (hr.out) ⟨rfl, hc9, hF9⟩)
    clear hc9 hF9
    go_wp2_with fail
    go_end0
    exact hfin.out
set_option maxHeartbeats 8000000 in
set_option maxRecDepth 100000 in
theorem rd_enum (w0 : World) (cb d n : Nat) (t : Tr) (u : V5) (w : World) (h : Gd w0 w cb d n t u) :
    Calls Tryz.prog 29 #[.pointer (some ⟨cb, 0, none⟩), .string wEnum, u.v, .int .i64 (d : Int)] w (RdPost w cb (ruleS d n 1 t)) := by
  have hb0 := hid_of ((Below.refl _ w).alloc (Nat.le_refl _) (u.obj 25))
  have hF0 := hid_of (Fr.of_below (S := fun b => b = cb) hb0.out)
  have hck := hid_of (h.ck.keep hb0.out)
  have hn0 := heap_alloc_new w (u.obj 25)
  obtain ⟨x0, x1, x2, x3, x4, -⟩ := row_cells hn0
  have hkd := hid_of (vrep_head h.rep)
  have hle := hid_of h.le
  obtain ⟨hrow, hli⟩ := rep_row h.rep
  replace hrow := hid_of (RowT.keep hrow h.env.old)
  replace hli := hid_of hli
  have hrow0 := hid_of (RowT.keep hrow.out hb0.out)
  have hsm := hid_of (small_parts h.small)
  have hrep := hid_of (VRep.keep h.env.old _ _ h.rep)
  have hl := hid_of (rlist_any u t.items 1 false _ hli hrow0 hsm.out.1)
  obtain ⟨R, hR⟩ : ∃ R, Hid (listB u.k t.items 1 false = R) := ⟨_, rfl⟩
  rw [hR.out] at hl
  have hr0 : Hid (ruleS d n 1 t = (n, if R = true then 0 else 210)) := by
    rw [Hid, rule_pos]
    simp only [Nat.reduceEqDiff, if_false, if_true]
    rw [← hR.out, hkd.out.1]
    by_cases hc : u.k = 5 ∧ t.items ≠ []
    · rw [if_pos hc, if_pos ((listB_enum _ _).2 hc)]
    · rw [if_neg hc, if_neg (fun h => hc ((listB_enum _ _).1 h))]
  unfold V5.obj at *
  unfold V5.v at *
  unfold wEnum
  clear h hn0
  go_enter Tryz.func29, Tryz.ntmps29
  go_wp2_with fail
  refine hl.out.mono ?_
  rintro e W ⟨rfl, hbW⟩
  have hFW := hid_of (Fr.of_below (S := fun b => b = cb) (hb0.out.trans (hbW.mono hb0.out.size)))
  have hcW := hid_of (hck.out.keep hbW)
  clear x0 x1 x2 x3 x4 hbW hl
  cases R with
  | true =>
    have hr : Hid (ruleS d n 1 t = (n, 0)) := by rw [Hid, hr0.out]; rfl
    go_wp2_with fail
    go_end0
    exact rd_plain hFW.out hle.out (hr.out) ⟨rfl, hcW.out, Fr.refl _ _⟩
  | false =>
    have hr : Hid (ruleS d n 1 t = (n, 210)) := by rw [Hid, hr0.out]; rfl
    go_wp2_with fail
    refine (fails_any cb n 210 _ hcW.out).mono ?_
    rintro e W9 ⟨rfl, hc9, hF9⟩
    have hfin := hid_of (rd_plain (e := .returned (.tuple #[])) hFW.out hle.out (hr.out) ⟨rfl, hc9, hF9⟩)
    clear hc9 hF9
    go_wp2_with fail
    go_end0
    exact hfin.out
set_option maxHeartbeats 8000000 in
set_option maxRecDepth 100000 in
theorem rd_required (w0 : World) (cb d n : Nat) (t : Tr) (u : V5) (w : World) (h : Gd w0 w cb d n t u) :
    Calls Tryz.prog 29 #[.pointer (some ⟨cb, 0, none⟩), .string wRequired, u.v, .int .i64 (d : Int)] w (RdPost w cb (ruleS d n 2 t)) := by
  have hb0 := hid_of ((Below.refl _ w).alloc (Nat.le_refl _) (u.obj 25))
  have hF0 := hid_of (Fr.of_below (S := fun b => b = cb) hb0.out)
  have hck := hid_of (h.ck.keep hb0.out)
  have hn0 := heap_alloc_new w (u.obj 25)
  obtain ⟨x0, x1, x2, x3, x4, -⟩ := row_cells hn0
  have hkd := hid_of (vrep_head h.rep)
  have hle := hid_of h.le
  obtain ⟨hrow, hli⟩ := rep_row h.rep
  replace hrow := hid_of (RowT.keep hrow h.env.old)
  replace hli := hid_of hli
  have hrow0 := hid_of (RowT.keep hrow.out hb0.out)
  have hsm := hid_of (small_parts h.small)
  have hrep := hid_of (VRep.keep h.env.old _ _ h.rep)
  have hl := hid_of (rlist_any u t.items 0 true _ hli hrow0 hsm.out.1)
  obtain ⟨R, hR⟩ : ∃ R, Hid (listB u.k t.items 0 true = R) := ⟨_, rfl⟩
  rw [hR.out] at hl
  have hr0 : Hid (ruleS d n 2 t = (n, if R = true then 0 else 210)) := by
    rw [Hid, rule_pos]
    simp only [Nat.reduceEqDiff, if_false, if_true]
    rw [← hR.out, hkd.out.1]
    by_cases hc : u.k = 5 ∧ t.items.all (fun t => t.kind == 4) = true
    · rw [if_pos hc, if_pos ((listB_required _ _).2 hc)]
    · rw [if_neg hc, if_neg (fun h => hc ((listB_required _ _).1 h))]
  unfold V5.obj at *
  unfold V5.v at *
  unfold wRequired
  clear h hn0
  go_enter Tryz.func29, Tryz.ntmps29
  go_wp2_with fail
  refine hl.out.mono ?_
  rintro e W ⟨rfl, hbW⟩
  have hFW := hid_of (Fr.of_below (S := fun b => b = cb) (hb0.out.trans (hbW.mono hb0.out.size)))
  have hcW := hid_of (hck.out.keep hbW)
  clear x0 x1 x2 x3 x4 hbW hl
  cases R with
  | true =>
    have hr : Hid (ruleS d n 2 t = (n, 0)) := by rw [Hid, hr0.out]; rfl
    go_wp2_with fail
    go_end0
    exact rd_plain hFW.out hle.out (hr.out) ⟨rfl, hcW.out, Fr.refl _ _⟩
  | false =>
    have hr : Hid (ruleS d n 2 t = (n, 210)) := by rw [Hid, hr0.out]; rfl
    go_wp2_with fail
    refine (fails_any cb n 210 _ hcW.out).mono ?_
    rintro e W9 ⟨rfl, hc9, hF9⟩
    have hfin := hid_of (rd_plain (e := .returned (.tuple #[])) hFW.out hle.out (hr.out) ⟨rfl, hc9, hF9⟩)
    clear hc9 hF9
    go_wp2_with fail
    go_end0
    exact hfin.out
end Go.Proofs.YtbcfkajcmbckbaaGreatDoor
/-! The document's reader of schemas: the words that hold schemas. -/
namespace Go.Proofs.YtbcfkajcmbckbaaGreatDoor
open Go Go.RowKit

theorem listS_from {d n q : Nat} {its : List Tr} {t : Tr} (ht : its[q]? = some t) : listS d n (its.drop q) = if (schemaS d n t).2 = 0 then listS d (schemaS d n t).1 (its.drop (q + 1)) else schemaS d n t := by
  have hlt := (List.getElem?_eq_some_iff.1 ht).1
  rw [List.drop_eq_getElem_cons hlt, (List.getElem?_eq_some_iff.1 ht).2, listS_cons]
set_option maxHeartbeats 8000000 in
set_option maxRecDepth 100000 in
theorem rd_properties (w0 : World) (cb d n : Nat) (t : Tr) (u : V5) (w : World) (h : Gd w0 w cb d n t u) (hO : Hid (∀ t' ∈ t.items, RdOk w0 t')) :
    Calls Tryz.prog 29 #[.pointer (some ⟨cb, 0, none⟩), .string wProperties, u.v, .int .i64 (d : Int)] w (RdPost w cb (ruleS d n 3 t)) := by
  have hb0 := hid_of ((Below.refl _ w).alloc (Nat.le_refl _) (u.obj 25))
  have hF0 := hid_of (Fr.of_below (S := fun b => b = cb) hb0.out)
  have hck := hid_of (h.ck.keep hb0.out)
  have hn0 := heap_alloc_new w (u.obj 25)
  obtain ⟨x0, x1, x2, x3, x4, -⟩ := row_cells hn0
  have hkd := hid_of (vrep_head h.rep)
  have hle := hid_of h.le
  obtain ⟨hrow, hli⟩ := rep_row h.rep
  replace hrow := hid_of (RowT.keep hrow h.env.old)
  replace hli := hid_of hli
  have hrow0 := hid_of (RowT.keep hrow.out hb0.out)
  have hsm := hid_of (small_parts h.small)
  have hrep := hid_of (VRep.keep h.env.old _ _ h.rep)
  have hbb : Hid (¬ w.heap.size = cb) := by have := h.ck.lt; show ¬ w.heap.size = cb; omega
  have hnp := hid_of (names_parts h.names).2
  have hrg := hid_of (range_parts h.range).2
  have hd1 : (d : Int) + 1 ≤ 100 := by have := h.d8; omega
  have hd9 : Hid (d + 1 ≤ 9) := by have := h.d8; show d + 1 ≤ 9; omega
  have hc1 : (((d + 1 : Nat) : Int)) = (d : Int) + 1 := by omega
  have hroww := hid_of (rep_row h.rep).1
  have hE0 := hid_of (h.env.fr hF0.out)
  obtain ⟨N, hNN⟩ : ∃ N, Hid (ruleS d n 3 t = N) := ⟨_, rfl⟩
  unfold V5.obj at *
  unfold V5.v wProperties
  clear h hn0
  go_enter Tryz.func29, Tryz.ntmps29
  by_cases hk : u.k = 6
  · have e6 : (u.k == 6) = true := by simp [hk]
    have hM0 : Hid ((if (0 : Int) = 0 then listS (d + 1) n (t.items.drop 0) else (n, 0)) = N) := by
      rw [Hid, if_pos rfl, ← hNN.out, rule_pos]; simp [hkd.out.1, hk]
    clear hk
    go_wp2_with fail
    generalize w.alloc (.cells #[.int .i64 u.k, .int .i64 u.x, .string u.s, .slice u.an u.ln u.cn, .slice u.ai u.li u.ci] 25) = X at *
    replace x0 := hid_of x0; replace x4 := hid_of x4
    have hFX := hF0
    clear x1 x2 x3
    go_loopw [9] (fun i wr => ∃ (q n' : Nat) (z : Int), q ≤ t.items.length ∧ i = .int .i64 q ∧ Hid (CkAt wr cb n' z) ∧ Hid (Fr (fun b => b = cb) X wr) ∧ Hid (n' ≤ 128) ∧ Hid ((if z = 0 then listS (d + 1) n' (t.items.drop q) else (n', z)) = N)) (fun i _ => t.items.length - (intOf i).toNat)
    case atStart => exact ⟨0, n, 0, Nat.zero_le _, rfl, hck.out, Fr.refl _ _, hle, hM0⟩
    case round =>
      obtain ⟨q, n', z, hq, rfl, hC, hF, hn', hM⟩ := hrel
      have b0 := hF.out.cell x0.out hbb.out; have b4 := hF.out.cell x4.out hbb.out
      obtain ⟨c0, c1, f0, f1⟩ := hC.out.cells
      have hqb : (q : Int) ≤ 1759218604390 := by have := hsm.out.1; omega
      by_cases hlt : q < t.items.length
      · have hi : (q : Int) < (u.li : Int) := by have := hli.out; omega
        by_cases hz : z = 0
        · subst hz
          obtain ⟨t', ht⟩ : ∃ t', Hid (t.items[q]? = some t') := ⟨_, hid_e (List.getElem?_eq_getElem hlt)⟩
          obtain ⟨g, o, hai, hg, hVL⟩ := hroww.out.resolve_left (by intro e; rw [e] at hlt; simp at hlt)
          obtain ⟨cs, hCs, hr⟩ := VRepL.at t.items o q t' hVL ht.out
          obtain ⟨v, rfl⟩ := vrep_v5 hr
          have hEr := hid_of (hE0.out.fr hF.out)
          unfold V5.cs five at hCs
          have z0 : wr.cell? ⟨g, o + q * 5 + 0, none⟩ = some (.int .i64 v.k) := (hEr.out.old.cell (p := ⟨g, o + q * 5 + 0, none⟩) hg).trans (hCs 0 _ rfl)
          have z1 : wr.cell? ⟨g, o + q * 5 + 1, none⟩ = some (.int .i64 v.x) := (hEr.out.old.cell (p := ⟨g, o + q * 5 + 1, none⟩) hg).trans (hCs 1 _ rfl)
          have z2 : wr.cell? ⟨g, o + q * 5 + 2, none⟩ = some (.string v.s) := (hEr.out.old.cell (p := ⟨g, o + q * 5 + 2, none⟩) hg).trans (hCs 2 _ rfl)
          have z3 : wr.cell? ⟨g, o + q * 5 + 3, none⟩ = some (.slice v.an v.ln v.cn) := (hEr.out.old.cell (p := ⟨g, o + q * 5 + 3, none⟩) hg).trans (hCs 3 _ rfl)
          have z4 : wr.cell? ⟨g, o + q * 5 + 4, none⟩ = some (.slice v.ai v.li v.ci) := (hEr.out.old.cell (p := ⟨g, o + q * 5 + 4, none⟩) hg).trans (hCs 4 _ rfl)
          simp only [Nat.add_zero] at z0
          have hcall := hid_of (hO.out t' (List.mem_of_getElem? ht.out) (d + 1) n' cb v wr hd9.out hn'.out hr (SmallL.at hsm.out.2.2.2.1 ht.out) (NamesL.at hnp.out ht.out) (RangeL.at hrg.out ht.out) hEr.out hC.out)
          have hst := hid_of (listS_from (d := d + 1) (n := n') ht.out)
          rw [hc1] at hcall
          generalize schemaS (d + 1) n' t' = R at hcall hst
          obtain ⟨n1, z1'⟩ := R
          have hM2 : Hid ((if z1' = 0 then listS (d + 1) n1 (t.items.drop (q + 1)) else (n1, z1')) = N) := by
            have h1 := hM.out
            rw [if_pos rfl, hst.out] at h1
            exact h1
          rw [hai] at b4
          unfold V5.v at hcall
          clear hVL hCs hr hg hst hM hai
          go_wp2_with fail
          refine hcall.out.mono ?_
          rintro e W1 ⟨rfl, hc9, hF9, hle9⟩
          have hF2 := hid_of (hF.out.trans hF9)
          replace hc9 := hid_of hc9
          clear hF9 hcall b0 b4 c0 c1 f0 f1 z0 z1 z2 z3 z4
          go_wp2_with fail
          go_roundw
          case rel => exact ⟨q + 1, n1, z1', by omega, by go_num, hc9, hF2, hle9, hM2⟩
          case measure => simp [intOf]; omega
        · have ez : (z == 0) = false := by simp [hz]
          have hfin : Hid (N = (n', z)) := by rw [Hid, ← hM.out, if_neg hz]
          clear hz hM
          go_wp2_with fail
          go_end0
          rw [hNN.out, hfin.out]
          exact ⟨rfl, hC.out, hFX.out.trans hF.out, hn'.out⟩
      · have hi : ¬ (q : Int) < (u.li : Int) := by have := hli.out; omega
        have hfin : Hid (N = (n', z)) := by
          rw [Hid, ← hM.out, List.drop_eq_nil_of_le (by omega), listS]
          by_cases hz : z = 0
          · rw [if_pos hz, hz]
          · rw [if_neg hz]
        clear hlt hM
        go_wp2_with fail
        go_end0
        rw [hNN.out, hfin.out]
        exact ⟨rfl, hC.out, hFX.out.trans hF.out, hn'.out⟩
  · have e6 : (u.k == 6) = false := by simp [hk]
    have hr : Hid (ruleS d n 3 t = (n, 210)) := by rw [Hid, rule_pos]; simp [hkd.out.1, hk]
    clear hk
    go_wp2_with fail
    generalize w.alloc (.cells #[.int .i64 u.k, .int .i64 u.x, .string u.s, .slice u.an u.ln u.cn, .slice u.ai u.li u.ci] 25) = X at *
    go_loopw [9] (fun i wr => i = .int .i64 0 ∧ wr = X) (fun _ _ => 0)
    case atStart => exact ⟨rfl, rfl⟩
    case round =>
      obtain ⟨rfl, hwr⟩ := hrel
      replace hwr := hwr.symm
      subst hwr
      go_wp2_with fail
      refine (fails_any cb n 210 _ hck.out).mono ?_
      rintro e W9 ⟨rfl, hc9, hF9⟩
      have hfin := hid_of (rd_plain (e := .returned (.tuple #[])) hF0.out hle.out (hr.out) ⟨rfl, hc9, hF9⟩)
      clear hc9 hF9
      go_wp2_with fail
      go_end0
      exact hfin.out
set_option maxHeartbeats 8000000 in
set_option maxRecDepth 100000 in
theorem rd_anyOf (w0 : World) (cb d n : Nat) (t : Tr) (u : V5) (w : World) (h : Gd w0 w cb d n t u) (hO : Hid (∀ t' ∈ t.items, RdOk w0 t')) :
    Calls Tryz.prog 29 #[.pointer (some ⟨cb, 0, none⟩), .string wAnyOf, u.v, .int .i64 (d : Int)] w (RdPost w cb (ruleS d n 13 t)) := by
  have hb0 := hid_of ((Below.refl _ w).alloc (Nat.le_refl _) (u.obj 25))
  have hF0 := hid_of (Fr.of_below (S := fun b => b = cb) hb0.out)
  have hck := hid_of (h.ck.keep hb0.out)
  have hn0 := heap_alloc_new w (u.obj 25)
  obtain ⟨x0, x1, x2, x3, x4, -⟩ := row_cells hn0
  have hkd := hid_of (vrep_head h.rep)
  have hle := hid_of h.le
  obtain ⟨hrow, hli⟩ := rep_row h.rep
  replace hrow := hid_of (RowT.keep hrow h.env.old)
  replace hli := hid_of hli
  have hrow0 := hid_of (RowT.keep hrow.out hb0.out)
  have hsm := hid_of (small_parts h.small)
  have hrep := hid_of (VRep.keep h.env.old _ _ h.rep)
  have hbb : Hid (¬ w.heap.size = cb) := by have := h.ck.lt; show ¬ w.heap.size = cb; omega
  have hnp := hid_of (names_parts h.names).2
  have hrg := hid_of (range_parts h.range).2
  have hd1 : (d : Int) + 1 ≤ 100 := by have := h.d8; omega
  have hd9 : Hid (d + 1 ≤ 9) := by have := h.d8; show d + 1 ≤ 9; omega
  have hc1 : (((d + 1 : Nat) : Int)) = (d : Int) + 1 := by omega
  have hroww := hid_of (rep_row h.rep).1
  have hE0 := hid_of (h.env.fr hF0.out)
  obtain ⟨N, hNN⟩ : ∃ N, Hid (ruleS d n 13 t = N) := ⟨_, rfl⟩
  have hl := hid_of (rlist_any u t.items 1 false _ hli hrow0 hsm.out.1)
  obtain ⟨R, hR⟩ : ∃ R, Hid (listB u.k t.items 1 false = R) := ⟨_, rfl⟩
  rw [hR.out] at hl
  have hr0 : Hid (ruleS d n 13 t = if R = true then listS (d + 1) n t.items else (n, 210)) := by
    rw [Hid, rule_pos]
    simp only [Nat.reduceEqDiff, if_false, if_true, true_or, or_self]
    rw [← hR.out, hkd.out.1]
    by_cases hc : u.k = 5 ∧ t.items ≠ []
    · rw [if_pos hc, if_pos ((listB_enum _ _).2 hc)]
    · rw [if_neg hc, if_neg (fun h => hc ((listB_enum _ _).1 h))]
  unfold V5.obj at *
  unfold V5.v at *
  unfold wAnyOf
  clear h hn0
  go_enter Tryz.func29, Tryz.ntmps29
  go_wp2_with fail
  refine hl.out.mono ?_
  rintro e W ⟨rfl, hbW⟩
  have y0 := stay hbW x0; have y4 := stay hbW x4
  have hFX := hid_of (Fr.of_below (S := fun b => b = cb) (hb0.out.trans (hbW.mono hb0.out.size)))
  replace hck := hid_of (hck.out.keep hbW)
  replace hE0 := hid_of (hE0.out.fr (Fr.of_below hbW))
  clear x0 x1 x2 x3 x4 hbW hl
  cases R with
  | true =>
    have hM0 : Hid ((if (0 : Int) = 0 then listS (d + 1) n (t.items.drop 0) else (n, 0)) = N) := by
      rw [Hid, if_pos rfl, ← hNN.out, hr0.out]; rfl
    go_wp2_with fail
    have x0 := hid_of y0; have x4 := hid_of y4
    clear y0 y4
    go_loopw [10] (fun i wr => ∃ (q n' : Nat) (z : Int), q ≤ t.items.length ∧ i = .int .i64 q ∧ Hid (CkAt wr cb n' z) ∧ Hid (Fr (fun b => b = cb) W wr) ∧ Hid (n' ≤ 128) ∧ Hid ((if z = 0 then listS (d + 1) n' (t.items.drop q) else (n', z)) = N)) (fun i _ => t.items.length - (intOf i).toNat)
    case atStart => exact ⟨0, n, 0, Nat.zero_le _, rfl, hck.out, Fr.refl _ _, hle, hM0⟩
    case round =>
      obtain ⟨q, n', z, hq, rfl, hC, hF, hn', hM⟩ := hrel
      have b0 := hF.out.cell x0.out hbb.out; have b4 := hF.out.cell x4.out hbb.out
      obtain ⟨c0, c1, f0, f1⟩ := hC.out.cells
      have hqb : (q : Int) ≤ 1759218604390 := by have := hsm.out.1; omega
      by_cases hlt : q < t.items.length
      · have hi : (q : Int) < (u.li : Int) := by have := hli.out; omega
        by_cases hz : z = 0
        · subst hz
          obtain ⟨t', ht⟩ : ∃ t', Hid (t.items[q]? = some t') := ⟨_, hid_e (List.getElem?_eq_getElem hlt)⟩
          obtain ⟨g, o, hai, hg, hVL⟩ := hroww.out.resolve_left (by intro e; rw [e] at hlt; simp at hlt)
          obtain ⟨cs, hCs, hr⟩ := VRepL.at t.items o q t' hVL ht.out
          obtain ⟨v, rfl⟩ := vrep_v5 hr
          have hEr := hid_of (hE0.out.fr hF.out)
          unfold V5.cs five at hCs
          have z0 : wr.cell? ⟨g, o + q * 5 + 0, none⟩ = some (.int .i64 v.k) := (hEr.out.old.cell (p := ⟨g, o + q * 5 + 0, none⟩) hg).trans (hCs 0 _ rfl)
          have z1 : wr.cell? ⟨g, o + q * 5 + 1, none⟩ = some (.int .i64 v.x) := (hEr.out.old.cell (p := ⟨g, o + q * 5 + 1, none⟩) hg).trans (hCs 1 _ rfl)
          have z2 : wr.cell? ⟨g, o + q * 5 + 2, none⟩ = some (.string v.s) := (hEr.out.old.cell (p := ⟨g, o + q * 5 + 2, none⟩) hg).trans (hCs 2 _ rfl)
          have z3 : wr.cell? ⟨g, o + q * 5 + 3, none⟩ = some (.slice v.an v.ln v.cn) := (hEr.out.old.cell (p := ⟨g, o + q * 5 + 3, none⟩) hg).trans (hCs 3 _ rfl)
          have z4 : wr.cell? ⟨g, o + q * 5 + 4, none⟩ = some (.slice v.ai v.li v.ci) := (hEr.out.old.cell (p := ⟨g, o + q * 5 + 4, none⟩) hg).trans (hCs 4 _ rfl)
          simp only [Nat.add_zero] at z0
          have hcall := hid_of (hO.out t' (List.mem_of_getElem? ht.out) (d + 1) n' cb v wr hd9.out hn'.out hr (SmallL.at hsm.out.2.2.2.1 ht.out) (NamesL.at hnp.out ht.out) (RangeL.at hrg.out ht.out) hEr.out hC.out)
          have hst := hid_of (listS_from (d := d + 1) (n := n') ht.out)
          rw [hc1] at hcall
          generalize schemaS (d + 1) n' t' = R at hcall hst
          obtain ⟨n1, z1'⟩ := R
          have hM2 : Hid ((if z1' = 0 then listS (d + 1) n1 (t.items.drop (q + 1)) else (n1, z1')) = N) := by
            have h1 := hM.out
            rw [if_pos rfl, hst.out] at h1
            exact h1
          rw [hai] at b4
          unfold V5.v at hcall
          clear hVL hCs hr hg hst hM hai
          go_wp2_with fail
          refine hcall.out.mono ?_
          rintro e W1 ⟨rfl, hc9, hF9, hle9⟩
          have hF2 := hid_of (hF.out.trans hF9)
          replace hc9 := hid_of hc9
          clear hF9 hcall b0 b4 c0 c1 f0 f1 z0 z1 z2 z3 z4
          go_wp2_with fail
          go_roundw
          case rel => exact ⟨q + 1, n1, z1', by omega, by go_num, hc9, hF2, hle9, hM2⟩
          case measure => simp [intOf]; omega
        · have ez : (z == 0) = false := by simp [hz]
          have hfin : Hid (N = (n', z)) := by rw [Hid, ← hM.out, if_neg hz]
          clear hz hM
          go_wp2_with fail
          go_end0
          rw [hNN.out, hfin.out]
          exact ⟨rfl, hC.out, hFX.out.trans hF.out, hn'.out⟩
      · have hi : ¬ (q : Int) < (u.li : Int) := by have := hli.out; omega
        have hfin : Hid (N = (n', z)) := by
          rw [Hid, ← hM.out, List.drop_eq_nil_of_le (by omega), listS]
          by_cases hz : z = 0
          · rw [if_pos hz, hz]
          · rw [if_neg hz]
        clear hlt hM
        go_wp2_with fail
        go_end0
        rw [hNN.out, hfin.out]
        exact ⟨rfl, hC.out, hFX.out.trans hF.out, hn'.out⟩
  | false =>
    have hr : Hid (ruleS d n 13 t = (n, 210)) := by rw [Hid, hr0.out]; rfl
    go_wp2_with fail
    go_loopw [10] (fun i wr => i = .int .i64 0 ∧ wr = W) (fun _ _ => 0)
    case atStart => exact ⟨rfl, rfl⟩
    case round =>
      obtain ⟨rfl, hwr⟩ := hrel
      replace hwr := hwr.symm
      subst hwr
      go_wp2_with fail
      refine (fails_any cb n 210 _ hck.out).mono ?_
      rintro e W9 ⟨rfl, hc9, hF9⟩
      have hfin := hid_of (rd_plain (e := .returned (.tuple #[])) hFX.out hle.out (hr.out) ⟨rfl, hc9, hF9⟩)
      clear hc9 hF9
      go_wp2_with fail
      go_end0
      exact hfin.out
set_option maxHeartbeats 8000000 in
set_option maxRecDepth 100000 in
theorem rd_allOf (w0 : World) (cb d n : Nat) (t : Tr) (u : V5) (w : World) (h : Gd w0 w cb d n t u) (hO : Hid (∀ t' ∈ t.items, RdOk w0 t')) :
    Calls Tryz.prog 29 #[.pointer (some ⟨cb, 0, none⟩), .string wAllOf, u.v, .int .i64 (d : Int)] w (RdPost w cb (ruleS d n 14 t)) := by
  have hb0 := hid_of ((Below.refl _ w).alloc (Nat.le_refl _) (u.obj 25))
  have hF0 := hid_of (Fr.of_below (S := fun b => b = cb) hb0.out)
  have hck := hid_of (h.ck.keep hb0.out)
  have hn0 := heap_alloc_new w (u.obj 25)
  obtain ⟨x0, x1, x2, x3, x4, -⟩ := row_cells hn0
  have hkd := hid_of (vrep_head h.rep)
  have hle := hid_of h.le
  obtain ⟨hrow, hli⟩ := rep_row h.rep
  replace hrow := hid_of (RowT.keep hrow h.env.old)
  replace hli := hid_of hli
  have hrow0 := hid_of (RowT.keep hrow.out hb0.out)
  have hsm := hid_of (small_parts h.small)
  have hrep := hid_of (VRep.keep h.env.old _ _ h.rep)
  have hbb : Hid (¬ w.heap.size = cb) := by have := h.ck.lt; show ¬ w.heap.size = cb; omega
  have hnp := hid_of (names_parts h.names).2
  have hrg := hid_of (range_parts h.range).2
  have hd1 : (d : Int) + 1 ≤ 100 := by have := h.d8; omega
  have hd9 : Hid (d + 1 ≤ 9) := by have := h.d8; show d + 1 ≤ 9; omega
  have hc1 : (((d + 1 : Nat) : Int)) = (d : Int) + 1 := by omega
  have hroww := hid_of (rep_row h.rep).1
  have hE0 := hid_of (h.env.fr hF0.out)
  obtain ⟨N, hNN⟩ : ∃ N, Hid (ruleS d n 14 t = N) := ⟨_, rfl⟩
  have hl := hid_of (rlist_any u t.items 1 false _ hli hrow0 hsm.out.1)
  obtain ⟨R, hR⟩ : ∃ R, Hid (listB u.k t.items 1 false = R) := ⟨_, rfl⟩
  rw [hR.out] at hl
  have hr0 : Hid (ruleS d n 14 t = if R = true then listS (d + 1) n t.items else (n, 210)) := by
    rw [Hid, rule_pos]
    simp only [Nat.reduceEqDiff, if_false, if_true, or_true, or_self]
    rw [← hR.out, hkd.out.1]
    by_cases hc : u.k = 5 ∧ t.items ≠ []
    · rw [if_pos hc, if_pos ((listB_enum _ _).2 hc)]
    · rw [if_neg hc, if_neg (fun h => hc ((listB_enum _ _).1 h))]
  unfold V5.obj at *
  unfold V5.v at *
  unfold wAllOf
  clear h hn0
  go_enter Tryz.func29, Tryz.ntmps29
  go_wp2_with fail
  refine hl.out.mono ?_
  rintro e W ⟨rfl, hbW⟩
  have y0 := stay hbW x0; have y4 := stay hbW x4
  have hFX := hid_of (Fr.of_below (S := fun b => b = cb) (hb0.out.trans (hbW.mono hb0.out.size)))
  replace hck := hid_of (hck.out.keep hbW)
  replace hE0 := hid_of (hE0.out.fr (Fr.of_below hbW))
  clear x0 x1 x2 x3 x4 hbW hl
  cases R with
  | true =>
    have hM0 : Hid ((if (0 : Int) = 0 then listS (d + 1) n (t.items.drop 0) else (n, 0)) = N) := by
      rw [Hid, if_pos rfl, ← hNN.out, hr0.out]; rfl
    go_wp2_with fail
    have x0 := hid_of y0; have x4 := hid_of y4
    clear y0 y4
    go_loopw [10] (fun i wr => ∃ (q n' : Nat) (z : Int), q ≤ t.items.length ∧ i = .int .i64 q ∧ Hid (CkAt wr cb n' z) ∧ Hid (Fr (fun b => b = cb) W wr) ∧ Hid (n' ≤ 128) ∧ Hid ((if z = 0 then listS (d + 1) n' (t.items.drop q) else (n', z)) = N)) (fun i _ => t.items.length - (intOf i).toNat)
    case atStart => exact ⟨0, n, 0, Nat.zero_le _, rfl, hck.out, Fr.refl _ _, hle, hM0⟩
    case round =>
      obtain ⟨q, n', z, hq, rfl, hC, hF, hn', hM⟩ := hrel
      have b0 := hF.out.cell x0.out hbb.out; have b4 := hF.out.cell x4.out hbb.out
      obtain ⟨c0, c1, f0, f1⟩ := hC.out.cells
      have hqb : (q : Int) ≤ 1759218604390 := by have := hsm.out.1; omega
      by_cases hlt : q < t.items.length
      · have hi : (q : Int) < (u.li : Int) := by have := hli.out; omega
        by_cases hz : z = 0
        · subst hz
          obtain ⟨t', ht⟩ : ∃ t', Hid (t.items[q]? = some t') := ⟨_, hid_e (List.getElem?_eq_getElem hlt)⟩
          obtain ⟨g, o, hai, hg, hVL⟩ := hroww.out.resolve_left (by intro e; rw [e] at hlt; simp at hlt)
          obtain ⟨cs, hCs, hr⟩ := VRepL.at t.items o q t' hVL ht.out
          obtain ⟨v, rfl⟩ := vrep_v5 hr
          have hEr := hid_of (hE0.out.fr hF.out)
          unfold V5.cs five at hCs
          have z0 : wr.cell? ⟨g, o + q * 5 + 0, none⟩ = some (.int .i64 v.k) := (hEr.out.old.cell (p := ⟨g, o + q * 5 + 0, none⟩) hg).trans (hCs 0 _ rfl)
          have z1 : wr.cell? ⟨g, o + q * 5 + 1, none⟩ = some (.int .i64 v.x) := (hEr.out.old.cell (p := ⟨g, o + q * 5 + 1, none⟩) hg).trans (hCs 1 _ rfl)
          have z2 : wr.cell? ⟨g, o + q * 5 + 2, none⟩ = some (.string v.s) := (hEr.out.old.cell (p := ⟨g, o + q * 5 + 2, none⟩) hg).trans (hCs 2 _ rfl)
          have z3 : wr.cell? ⟨g, o + q * 5 + 3, none⟩ = some (.slice v.an v.ln v.cn) := (hEr.out.old.cell (p := ⟨g, o + q * 5 + 3, none⟩) hg).trans (hCs 3 _ rfl)
          have z4 : wr.cell? ⟨g, o + q * 5 + 4, none⟩ = some (.slice v.ai v.li v.ci) := (hEr.out.old.cell (p := ⟨g, o + q * 5 + 4, none⟩) hg).trans (hCs 4 _ rfl)
          simp only [Nat.add_zero] at z0
          have hcall := hid_of (hO.out t' (List.mem_of_getElem? ht.out) (d + 1) n' cb v wr hd9.out hn'.out hr (SmallL.at hsm.out.2.2.2.1 ht.out) (NamesL.at hnp.out ht.out) (RangeL.at hrg.out ht.out) hEr.out hC.out)
          have hst := hid_of (listS_from (d := d + 1) (n := n') ht.out)
          rw [hc1] at hcall
          generalize schemaS (d + 1) n' t' = R at hcall hst
          obtain ⟨n1, z1'⟩ := R
          have hM2 : Hid ((if z1' = 0 then listS (d + 1) n1 (t.items.drop (q + 1)) else (n1, z1')) = N) := by
            have h1 := hM.out
            rw [if_pos rfl, hst.out] at h1
            exact h1
          rw [hai] at b4
          unfold V5.v at hcall
          clear hVL hCs hr hg hst hM hai
          go_wp2_with fail
          refine hcall.out.mono ?_
          rintro e W1 ⟨rfl, hc9, hF9, hle9⟩
          have hF2 := hid_of (hF.out.trans hF9)
          replace hc9 := hid_of hc9
          clear hF9 hcall b0 b4 c0 c1 f0 f1 z0 z1 z2 z3 z4
          go_wp2_with fail
          go_roundw
          case rel => exact ⟨q + 1, n1, z1', by omega, by go_num, hc9, hF2, hle9, hM2⟩
          case measure => simp [intOf]; omega
        · have ez : (z == 0) = false := by simp [hz]
          have hfin : Hid (N = (n', z)) := by rw [Hid, ← hM.out, if_neg hz]
          clear hz hM
          go_wp2_with fail
          go_end0
          rw [hNN.out, hfin.out]
          exact ⟨rfl, hC.out, hFX.out.trans hF.out, hn'.out⟩
      · have hi : ¬ (q : Int) < (u.li : Int) := by have := hli.out; omega
        have hfin : Hid (N = (n', z)) := by
          rw [Hid, ← hM.out, List.drop_eq_nil_of_le (by omega), listS]
          by_cases hz : z = 0
          · rw [if_pos hz, hz]
          · rw [if_neg hz]
        clear hlt hM
        go_wp2_with fail
        go_end0
        rw [hNN.out, hfin.out]
        exact ⟨rfl, hC.out, hFX.out.trans hF.out, hn'.out⟩
  | false =>
    have hr : Hid (ruleS d n 14 t = (n, 210)) := by rw [Hid, hr0.out]; rfl
    go_wp2_with fail
    go_loopw [10] (fun i wr => i = .int .i64 0 ∧ wr = W) (fun _ _ => 0)
    case atStart => exact ⟨rfl, rfl⟩
    case round =>
      obtain ⟨rfl, hwr⟩ := hrel
      replace hwr := hwr.symm
      subst hwr
      go_wp2_with fail
      refine (fails_any cb n 210 _ hck.out).mono ?_
      rintro e W9 ⟨rfl, hc9, hF9⟩
      have hfin := hid_of (rd_plain (e := .returned (.tuple #[])) hFX.out hle.out (hr.out) ⟨rfl, hc9, hF9⟩)
      clear hc9 hF9
      go_wp2_with fail
      go_end0
      exact hfin.out
set_option maxHeartbeats 8000000 in
set_option maxRecDepth 100000 in
theorem rd_items (w0 : World) (cb d n : Nat) (t : Tr) (u : V5) (w : World) (h : Gd w0 w cb d n t u) (hO : RdOk w0 t) :
    Calls Tryz.prog 29 #[.pointer (some ⟨cb, 0, none⟩), .string wItems, u.v, .int .i64 (d : Int)] w (RdPost w cb (ruleS d n 5 t)) := by
  have hb0 := hid_of ((Below.refl _ w).alloc (Nat.le_refl _) (u.obj 25))
  have hF0 := hid_of (Fr.of_below (S := fun b => b = cb) hb0.out)
  have hck := hid_of (h.ck.keep hb0.out)
  have hn0 := heap_alloc_new w (u.obj 25)
  obtain ⟨x0, x1, x2, x3, x4, -⟩ := row_cells hn0
  have hkd := hid_of (vrep_head h.rep)
  have hle := hid_of h.le
  obtain ⟨hrow, hli⟩ := rep_row h.rep
  replace hrow := hid_of (RowT.keep hrow h.env.old)
  replace hli := hid_of hli
  have hrow0 := hid_of (RowT.keep hrow.out hb0.out)
  have hsm := hid_of (small_parts h.small)
  have hrep := hid_of (VRep.keep h.env.old _ _ h.rep)
  have hd1 : (d : Int) + 1 ≤ 100 := by have := h.d8; omega
  have hc1 : (((d + 1 : Nat) : Int)) = (d : Int) + 1 := by omega
  have hcall := hid_of (hO (d + 1) n cb u _ (by have := h.d8; omega) h.le h.rep h.small h.names h.range (h.env.fr hF0.out) hck.out)
  have hr : Hid (ruleS d n 5 t = schemaS (d + 1) n t) := by rw [Hid, rule_pos]; simp
  rw [hc1] at hcall
  unfold V5.obj at *
  unfold V5.v at *
  unfold wItems
  clear h hn0 hc1
  go_enter Tryz.func29, Tryz.ntmps29
  go_wp2_with fail
  refine hcall.out.mono ?_
  rintro e W ⟨rfl, hc9, hF9, hle9⟩
  have hfin : Hid (RdPost w cb (ruleS d n 5 t) (.returned (.tuple #[])) W) := by
    rw [hr.out]; exact ⟨rfl, hc9, hF0.out.trans hF9, hle9⟩
  clear hcall hc9 hF9 x0 x1 x2 x3 x4
  go_wp2_with fail
  go_end0
  exact hfin.out
set_option maxHeartbeats 8000000 in
set_option maxRecDepth 100000 in
theorem rd_not (w0 : World) (cb d n : Nat) (t : Tr) (u : V5) (w : World) (h : Gd w0 w cb d n t u) (hO : RdOk w0 t) :
    Calls Tryz.prog 29 #[.pointer (some ⟨cb, 0, none⟩), .string wNot, u.v, .int .i64 (d : Int)] w (RdPost w cb (ruleS d n 15 t)) := by
  have hb0 := hid_of ((Below.refl _ w).alloc (Nat.le_refl _) (u.obj 25))
  have hF0 := hid_of (Fr.of_below (S := fun b => b = cb) hb0.out)
  have hck := hid_of (h.ck.keep hb0.out)
  have hn0 := heap_alloc_new w (u.obj 25)
  obtain ⟨x0, x1, x2, x3, x4, -⟩ := row_cells hn0
  have hkd := hid_of (vrep_head h.rep)
  have hle := hid_of h.le
  obtain ⟨hrow, hli⟩ := rep_row h.rep
  replace hrow := hid_of (RowT.keep hrow h.env.old)
  replace hli := hid_of hli
  have hrow0 := hid_of (RowT.keep hrow.out hb0.out)
  have hsm := hid_of (small_parts h.small)
  have hrep := hid_of (VRep.keep h.env.old _ _ h.rep)
  have hd1 : (d : Int) + 1 ≤ 100 := by have := h.d8; omega
  have hc1 : (((d + 1 : Nat) : Int)) = (d : Int) + 1 := by omega
  have hcall := hid_of (hO (d + 1) n cb u _ (by have := h.d8; omega) h.le h.rep h.small h.names h.range (h.env.fr hF0.out) hck.out)
  have hr : Hid (ruleS d n 15 t = schemaS (d + 1) n t) := by rw [Hid, rule_pos]; simp
  rw [hc1] at hcall
  unfold V5.obj at *
  unfold V5.v at *
  unfold wNot
  clear h hn0 hc1
  go_enter Tryz.func29, Tryz.ntmps29
  go_wp2_with fail
  refine hcall.out.mono ?_
  rintro e W ⟨rfl, hc9, hF9, hle9⟩
  have hfin : Hid (RdPost w cb (ruleS d n 15 t) (.returned (.tuple #[])) W) := by
    rw [hr.out]; exact ⟨rfl, hc9, hF0.out.trans hF9, hle9⟩
  clear hcall hc9 hF9 x0 x1 x2 x3 x4
  go_wp2_with fail
  go_end0
  exact hfin.out
end Go.Proofs.YtbcfkajcmbckbaaGreatDoor
/-! The document's reader of schemas: the rule by its word. -/
namespace Go.Proofs.YtbcfkajcmbckbaaGreatDoor
open Go Go.RowKit

theorem rd_rule (w0 : World) (cb d n : Nat) (s : ByteArray) (t : Tr) (u : V5) (w : World) (h : Gd w0 w cb d n t u) (hO : RdOk w0 t) (hOs : ∀ t' ∈ t.items, RdOk w0 t') :
    Calls Tryz.prog 29 #[.pointer (some ⟨cb, 0, none⟩), .string s, u.v, .int .i64 (d : Int)] w (RdPost w cb (ruleS d n (wordNo s) t)) := by
  by_cases h0 : s = wType
  · subst h0; rw [no_0]; exact rd_type w0 cb d n t u w h
  by_cases h1 : s = wEnum
  · subst h1; rw [no_1]; exact rd_enum w0 cb d n t u w h
  by_cases h2 : s = wRequired
  · subst h2; rw [no_2]; exact rd_required w0 cb d n t u w h
  by_cases h3 : s = wProperties
  · subst h3; rw [no_3]; exact rd_properties w0 cb d n t u w h (hid_of hOs)
  by_cases h4 : s = wAdditional
  · subst h4; rw [no_4]; exact rd_additional w0 cb d n t u w h
  by_cases h5 : s = wItems
  · subst h5; rw [no_5]; exact rd_items w0 cb d n t u w h hO
  by_cases h6 : s = wMinItems
  · subst h6; rw [no_6]; exact rd_minItems w0 cb d n t u w h
  by_cases h7 : s = wMaxItems
  · subst h7; rw [no_7]; exact rd_maxItems w0 cb d n t u w h
  by_cases h8 : s = wMinLength
  · subst h8; rw [no_8]; exact rd_minLength w0 cb d n t u w h
  by_cases h9 : s = wMaxLength
  · subst h9; rw [no_9]; exact rd_maxLength w0 cb d n t u w h
  by_cases h10 : s = wMinimum
  · subst h10; rw [no_10]; exact rd_minimum w0 cb d n t u w h
  by_cases h11 : s = wMaximum
  · subst h11; rw [no_11]; exact rd_maximum w0 cb d n t u w h
  by_cases h12 : s = wDivisible
  · subst h12; rw [no_12]; exact rd_divisible w0 cb d n t u w h
  by_cases h13 : s = wAnyOf
  · subst h13; rw [no_13]; exact rd_anyOf w0 cb d n t u w h (hid_of hOs)
  by_cases h14 : s = wAllOf
  · subst h14; rw [no_14]; exact rd_allOf w0 cb d n t u w h (hid_of hOs)
  by_cases h15 : s = wNot
  · subst h15; rw [no_15]; exact rd_not w0 cb d n t u w h hO
  rw [no_16 ⟨h0, h1, h2, h3, h4, h5, h6, h7, h8, h9, h10, h11, h12, h13, h14, h15⟩]
  exact rd_none w0 cb d n t u s w h ⟨h0, h1, h2, h3, h4, h5, h6, h7, h8, h9, h10, h11, h12, h13, h14, h15⟩
end Go.Proofs.YtbcfkajcmbckbaaGreatDoor
/-! The document's reader of schemas: a schema. -/
namespace Go.Proofs.YtbcfkajcmbckbaaGreatDoor
open Go Go.RowKit

set_option maxHeartbeats 8000000 in
set_option maxRecDepth 100000 in
theorem rd_schema (w0 : World) (t : Tr) (hO : Hid (∀ t' ∈ t.items, RdOk w0 t' ∧ ∀ t'' ∈ t'.items, RdOk w0 t'')) (d n cb : Nat) (u : V5) (w : World) (hd : d ≤ 9) (hn : Hid (n ≤ 128)) (hV : VRep w0 t u.cs) (hS : Hid (SmallT t)) (hN : Hid (NamesT t)) (hR : Hid (RangeT t)) (hE : Hid (EnvD w0 w cb)) (hC : Hid (CkAt w cb n 0)) :
    Calls Tryz.prog 18 #[.pointer (some ⟨cb, 0, none⟩), u.v, .int .i64 (d : Int)] w (RdPost w cb (schemaS d n t)) := by
  have hbb : Hid (¬ w.heap.size = cb) := by have := hC.out.lt; show ¬ w.heap.size = cb; omega
  have hb0 := hid_of ((Below.refl _ w).alloc (Nat.le_refl _) (u.obj 25))
  have hF0 := hid_of (Fr.of_below (S := fun b => b = cb) hb0.out)
  have hck := hid_of (hC.out.keep hb0.out)
  have hn0 := heap_alloc_new w (u.obj 25)
  obtain ⟨x0, x1, x2, x3, x4, -⟩ := row_cells hn0
  obtain ⟨hrow, hli⟩ := rep_row hV
  obtain ⟨hnam, hnl⟩ := rep_names hV
  have hkd := hid_of (vrep_head hV).1
  have hsm := hid_of (small_parts hS.out)
  have hnp := hid_of (names_parts hN.out)
  have hrg := hid_of (range_parts hR.out).2
  have hE0 := hid_of (hE.out.fr hF0.out)
  obtain ⟨N, hNN⟩ : ∃ N, Hid (schemaS d n t = N) := ⟨_, rfl⟩
  replace hrow := hid_of hrow; replace hnam := hid_of hnam; replace hli := hid_of hli; replace hnl := hid_of hnl; replace hV := hid_of hV
  unfold V5.obj at *
  unfold V5.v
  clear hn0
  go_enter Tryz.func18, Tryz.ntmps18
  by_cases hk : u.k = 6
  · have hb6 : (u.k != 6) = false := by simp [hk]
    have hk6 : Hid (t.kind = 6) := by rw [Hid, hkd.out]; exact hk
    clear hk hkd
    by_cases hd8 : 8 < d
    · have hb8 : decide ((d : Int) > 8) = true := by simp; omega
      have hr : Hid (schemaS d n t = (n, 211)) := by rw [Hid]; unfold schemaS; rw [if_pos hk6.out, if_pos hd8]
      clear hd8
      go_wp2_with fail
      refine (fails_any cb n 211 _ hck.out).mono ?_
      rintro e W9 ⟨rfl, hc9, hF9⟩
      have hfin := hid_of (rd_plain (e := .returned (.tuple #[])) hF0.out hn.out (hr.out) ⟨rfl, hc9, hF9⟩)
      clear hc9 hF9
      go_wp2_with fail
      go_end0
      exact hfin.out
    · have hb8 : decide ((d : Int) > 8) = false := by simp; omega
      have hd8' : Hid (d ≤ 8) := by show d ≤ 8; omega
      have hM0 : Hid ((if (0 : Int) = 0 then membersS d n (t.names.drop 0) (t.items.drop 0) else (n, 0)) = N) := by
        rw [Hid, if_pos rfl, ← hNN.out]; unfold schemaS; rw [if_pos hk6.out, if_neg hd8]; rfl
      have hlN : Hid (t.names.length = t.items.length) := hnp.out.1 hk6.out
      clear hd8
      go_wp2_with fail
      generalize w.alloc (.cells #[.int .i64 u.k, .int .i64 u.x, .string u.s, .slice u.an u.ln u.cn, .slice u.ai u.li u.ci] 25) = X at *
      replace x3 := hid_of x3; replace x4 := hid_of x4
      clear x0 x1 x2
      go_loopw [6] (fun i wr => ∃ (q n' : Nat) (z : Int), q ≤ t.items.length ∧ i = .int .i64 q ∧ Hid (CkAt wr cb n' z) ∧ Hid (Fr (fun b => b = cb) X wr) ∧ Hid (n' ≤ 128) ∧ Hid ((if z = 0 then membersS d n' (t.names.drop q) (t.items.drop q) else (n', z)) = N)) (fun i _ => t.items.length - (intOf i).toNat)
      case atStart => exact ⟨0, n, 0, Nat.zero_le _, rfl, hck.out, Fr.refl _ _, hn, hM0⟩
      case round =>
        obtain ⟨q, n', z, hq, rfl, hCr, hF, hn', hM⟩ := hrel
        have b3 := hF.out.cell x3.out hbb.out; have b4 := hF.out.cell x4.out hbb.out
        obtain ⟨c0, c1, f0, f1⟩ := hCr.out.cells
        have hqb : (q : Int) ≤ 1759218604390 := by have := hsm.out.1; omega
        by_cases hlt : q < t.items.length
        · have hi : (q : Int) < (u.li : Int) := by have := hli.out; omega
          by_cases hz : z = 0
          · subst hz
            obtain ⟨t', ht⟩ : ∃ t', Hid (t.items[q]? = some t') := ⟨_, hid_e (List.getElem?_eq_getElem hlt)⟩
            obtain ⟨s, hs⟩ : ∃ s, Hid (t.names[q]? = some s) := ⟨_, hid_e (List.getElem?_eq_getElem (by rw [hlN.out]; exact hlt))⟩
            have hst := hid_of (membersS_at (d := d) (n := n') hs.out ht.out)
            unfold ruleN at hst
            have hEr := hid_of (hE0.out.fr hF.out)
            by_cases h128 : n' = 128
            · subst h128
              have hge : decide ((((128 : Nat)) : Int) ≥ 128) = true := by decide
              have hfin0 : Hid (N = (128, 211)) := by
                rw [Hid, ← hM.out, if_pos rfl, hst.out]; simp
              clear hM hst
              go_wp2_with fail
              refine (fails_any cb 128 211 _ hCr.out).mono ?_
              rintro e W9 ⟨rfl, hc9, hF9⟩
              have hfin : Hid (RdPost w cb (schemaS d n t) (.returned (.tuple #[])) W9) := by
                rw [hNN.out, hfin0.out]; exact ⟨rfl, hc9, (hF0.out.trans hF.out).trans hF9, by decide⟩
              clear hc9 hF9
              go_wp2_with fail
              go_end0
              exact hfin.out
            · have hge : decide ((n' : Int) ≥ 128) = false := by have := hn'.out; simp; omega
              have hnb : (n' : Int) ≤ 128 := by have := hn'.out; omega
              have hFY := hid_of (hF.out.set ⟨cb, 0, none⟩ (.int .i64 ((n' : Int) + 1)) (.inl rfl))
              have hCY := hid_of (hCr.out.set0 ((n' : Int) + 1) (n' + 1) (by omega))
              obtain ⟨g, o, hai, hg, hVL⟩ := hrow.out.resolve_left (by intro e; rw [e] at hlt; simp at hlt)
              obtain ⟨cs, hCs, hr⟩ := VRepL.at t.items o q t' hVL ht.out
              obtain ⟨v, rfl⟩ := vrep_v5 hr
              obtain ⟨an', cn', e2, hc, h0⟩ := hnam.out
              simp only [Value.slice.injEq] at e2
              obtain ⟨e3, -, e4⟩ := e2
              obtain ⟨gn, on, e5, hgn, hA⟩ := h0.resolve_left (by intro e; have := hlN.out; rw [e] at this; simp at this; omega)
              rw [← e3] at e5
              have hi2 : (q : Int) < (u.ln : Int) := by have h1 := hnl.out; have h2 := hlN.out; omega
              have hot := hO.out t' (List.mem_of_getElem? ht.out)
              have hst2 : Hid (membersS d n' (t.names.drop q) (t.items.drop q) = if (ruleS d (n' + 1) (wordNo s) t').2 = 0 then membersS d (ruleS d (n' + 1) (wordNo s) t').1 (t.names.drop (q + 1)) (t.items.drop (q + 1)) else ruleS d (n' + 1) (wordNo s) t') := by
                have := hst.out
                rw [if_neg h128] at this
                exact this
              have hn9 : Hid (n' + 1 ≤ 128) := by have := hn'.out; show n' + 1 ≤ 128; omega
              clear hst h128
              rw [hai] at b4
              rw [e5] at b3
              rw [e5, hai]
              go_upto_region 11 with fail
              generalize wr.setCell ⟨cb, 0, none⟩ (.int .i64 ((n' : Int) + 1)) = Y at *
              have hEY := hid_of (hE0.out.fr hFY.out)
              have b3 : Y.drew.cell? ⟨w.heap.size, 3, none⟩ = some (.slice (some ⟨gn, on, none⟩) u.ln u.cn) := by rw [← e5]; exact hFY.out.cell x3.out hbb.out
              have b4 : Y.drew.cell? ⟨w.heap.size, 4, none⟩ = some (.slice (some ⟨g, o, none⟩) u.li u.ci) := by rw [← hai]; exact hFY.out.cell x4.out hbb.out
              have nm0 : Y.drew.cell? ⟨gn, on + q, none⟩ = some (.string s) := (hEY.out.old.cell (p := ⟨gn, on + q, none⟩) hgn).trans (hA q s hs.out)
              unfold V5.cs five at hCs
              have z0 : Y.drew.cell? ⟨g, o + q * 5 + 0, none⟩ = some (.int .i64 v.k) := (hEY.out.old.cell (p := ⟨g, o + q * 5 + 0, none⟩) hg).trans (hCs 0 _ rfl)
              have z1 : Y.drew.cell? ⟨g, o + q * 5 + 1, none⟩ = some (.int .i64 v.x) := (hEY.out.old.cell (p := ⟨g, o + q * 5 + 1, none⟩) hg).trans (hCs 1 _ rfl)
              have z2 : Y.drew.cell? ⟨g, o + q * 5 + 2, none⟩ = some (.string v.s) := (hEY.out.old.cell (p := ⟨g, o + q * 5 + 2, none⟩) hg).trans (hCs 2 _ rfl)
              have z3 : Y.drew.cell? ⟨g, o + q * 5 + 3, none⟩ = some (.slice v.an v.ln v.cn) := (hEY.out.old.cell (p := ⟨g, o + q * 5 + 3, none⟩) hg).trans (hCs 3 _ rfl)
              have z4 : Y.drew.cell? ⟨g, o + q * 5 + 4, none⟩ = some (.slice v.ai v.li v.ci) := (hEY.out.old.cell (p := ⟨g, o + q * 5 + 4, none⟩) hg).trans (hCs 4 _ rfl)
              simp only [Nat.add_zero] at z0
              have hgb : Hid (¬ g = cb) := by have := hEr.out.base; show ¬ g = cb; omega
              have hgnb : Hid (¬ gn = cb) := by have := hEr.out.base; show ¬ gn = cb; omega
              have hrule := hid_of (rd_rule w0 cb d (n' + 1) s t' v Y.drew ⟨hd8'.out, hn9.out, hr, SmallL.at hsm.out.2.2.2.1 ht.out, NamesL.at hnp.out.2 ht.out, RangeL.at hrg.out ht.out, ⟨hEY.out.base, hEY.out.old.trans (((Fr.refl (fun _ => False) Y).drew).below hEY.out.old.size (fun _ h => h.elim))⟩, hCY.out⟩ hot.1 hot.2)
              have hFd : Hid (Fr (fun b => b = cb) X Y.drew) := hFY.out.drew
              generalize ruleS d (n' + 1) (wordNo s) t' = R at hrule hst2
              unfold V5.v at hrule
              clear hVL hCs hr h0 hA hc hot hgn hg e3 e4 e5 hai c0 c1 f0 f1
              go_region_held3 (fun W => W.cell? ⟨w.heap.size, 3, none⟩ = some (.slice (some ⟨gn, on, none⟩) u.ln u.cn) ∧ W.cell? ⟨w.heap.size, 4, none⟩ = some (.slice (some ⟨g, o, none⟩) u.li u.ci) ∧ W.cell? ⟨gn, on + q, none⟩ = some (.string s) ∧ W.cell? ⟨g, o + q * 5, none⟩ = some (.int .i64 v.k) ∧ W.cell? ⟨g, o + q * 5 + 1, none⟩ = some (.int .i64 v.x) ∧ W.cell? ⟨g, o + q * 5 + 2, none⟩ = some (.string v.s) ∧ W.cell? ⟨g, o + q * 5 + 3, none⟩ = some (.slice v.an v.ln v.cn) ∧ W.cell? ⟨g, o + q * 5 + 4, none⟩ = some (.slice v.ai v.li v.ci)) (go_keep) (first
                | (go_at_call 29; refine hrule.out.mono ?_; rintro e W1 ⟨rfl, hc9, hF1, hle9⟩; have b3' : W1.cell? ⟨w.heap.size, 3, none⟩ = some (.slice (some ⟨gn, on, none⟩) u.ln u.cn) := hF1.cell b3 hbb.out; have b4' : W1.cell? ⟨w.heap.size, 4, none⟩ = some (.slice (some ⟨g, o, none⟩) u.li u.ci) := hF1.cell b4 hbb.out; have nm0' : W1.cell? ⟨gn, on + q, none⟩ = some (.string s) := hF1.cell nm0 hgnb.out; have z0' : W1.cell? ⟨g, o + q * 5, none⟩ = some (.int .i64 v.k) := hF1.cell z0 hgb.out; have z1' : W1.cell? ⟨g, o + q * 5 + 1, none⟩ = some (.int .i64 v.x) := hF1.cell z1 hgb.out; have z2' : W1.cell? ⟨g, o + q * 5 + 2, none⟩ = some (.string v.s) := hF1.cell z2 hgb.out; have z3' : W1.cell? ⟨g, o + q * 5 + 3, none⟩ = some (.slice v.an v.ln v.cn) := hF1.cell z3 hgb.out; have z4' : W1.cell? ⟨g, o + q * 5 + 4, none⟩ = some (.slice v.ai v.li v.ci) := hF1.cell z4 hgb.out; replace hF1 := hid_of hF1; replace hc9 := hid_of hc9; replace hle9 := hid_of hle9; clear b3 b4 nm0 z0 z1 z2 z3 z4))
              have hF2 : Hid (Fr (fun b => b = cb) X W1) := hFd.out.trans hF1.out
              clear b3' b4' nm0' z0' z1' z2' z3' z4' hrule
              obtain ⟨n1, z1'⟩ := R
              have hM2 : Hid ((if z1' = 0 then membersS d n1 (t.names.drop (q + 1)) (t.items.drop (q + 1)) else (n1, z1')) = N) := by
                have h1 := hM.out
                rw [if_pos trivial, hst2.out] at h1
                exact h1
              clear hst2 hM
              go_wp2_with fail
              go_roundw
              case rel => exact ⟨q + 1, n1, z1', by omega, by go_num, hc9, hF2, hle9, hM2⟩
              case measure => simp [intOf]; omega
          · have ez : (z == 0) = false := by simp [hz]
            have hfin : Hid (N = (n', z)) := by rw [Hid, ← hM.out, if_neg hz]
            clear hz hM
            go_wp2_with fail
            go_end0
            rw [hNN.out, hfin.out]
            exact ⟨rfl, hCr.out, hF0.out.trans hF.out, hn'.out⟩
        · have hi : ¬ (q : Int) < (u.li : Int) := by have := hli.out; omega
          have hfin : Hid (N = (n', z)) := by
            rw [Hid, ← hM.out, List.drop_eq_nil_of_le (by omega : t.items.length ≤ q), membersS]
            by_cases hz : z = 0
            · rw [if_pos hz, hz]
            · rw [if_neg hz]
          clear hlt hM
          go_wp2_with fail
          go_end0
          rw [hNN.out, hfin.out]
          exact ⟨rfl, hCr.out, hF0.out.trans hF.out, hn'.out⟩
  · have hb6 : (u.k != 6) = true := by simp [hk]
    have hr : Hid (schemaS d n t = (n, 210)) := by rw [Hid]; unfold schemaS; rw [if_neg (by rw [hkd.out]; exact hk)]
    clear hk
    go_wp2_with fail
    refine (fails_any cb n 210 _ hck.out).mono ?_
    rintro e W9 ⟨rfl, hc9, hF9⟩
    have hfin := hid_of (rd_plain (e := .returned (.tuple #[])) hF0.out hn.out (hr.out) ⟨rfl, hc9, hF9⟩)
    clear hc9 hF9
    go_wp2_with fail
    go_end0
    exact hfin.out
theorem rdOk (w0 : World) (t : Tr) : RdOk w0 t := by
  intro d n cb u w hd hn hV hS hN hR hE hC
  refine rd_schema w0 t (hid_of fun t' ht' => ⟨?_, fun t'' ht'' => ?_⟩) d n cb u w hd (hid_of hn) hV (hid_of hS) (hid_of hN) (hid_of hR) (hid_of hE) (hid_of hC)
  · have h1 : SizeOf.sizeOf t' < SizeOf.sizeOf t.items := List.sizeOf_lt_of_mem ht'
    have h2 : SizeOf.sizeOf t.items < SizeOf.sizeOf t := by obtain ⟨k, x, s, ns, its⟩ := t; simp only [Tr.items, Tr.node.sizeOf_spec]; omega
    exact rdOk w0 t'
  · have h1 : SizeOf.sizeOf t' < SizeOf.sizeOf t.items := List.sizeOf_lt_of_mem ht'
    have h2 : SizeOf.sizeOf t.items < SizeOf.sizeOf t := by obtain ⟨k, x, s, ns, its⟩ := t; simp only [Tr.items, Tr.node.sizeOf_spec]; omega
    have h3 : SizeOf.sizeOf t'' < SizeOf.sizeOf t'.items := List.sizeOf_lt_of_mem ht''
    have h4 : SizeOf.sizeOf t'.items < SizeOf.sizeOf t' := by obtain ⟨k, x, s, ns, its⟩ := t'; simp only [Tr.items, Tr.node.sizeOf_spec]; omega
    exact rdOk w0 t''
termination_by SizeOf.sizeOf t
decreasing_by all_goals omega
end Go.Proofs.YtbcfkajcmbckbaaGreatDoor
