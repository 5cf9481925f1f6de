import Derived.Test.YtnlljodmkacmlaaGreatDoorKI
/-! Serves: the document's. -/
namespace Go.Proofs.YtnlljodmkacmlaaGreatDoor.Chk
open Go Go.RowKit

theorem null_one {d : Nat} {u : Tr} (h : checkT d u = 0) : (decide (u.kind = 0) = true) ↔ u = nullT := by
  cases u with
  | node k x s ns its =>
    constructor
    · intro hk
      have hk : k = 0 := of_decide_eq_true hk
      subst hk
      unfold checkT at h
      split at h
      · next ha =>
        unfold aloneT at ha
        split at ha
        · cases ha
        · split at ha
          · cases ha
          · split at ha
            · cases ha
            · next hkp =>
              have hkp : keepsB 0 x s ns.length its.length = true := by simpa using hkp
              unfold keepsB at hkp
              simp at hkp
              obtain ⟨⟨⟨h1, h2⟩, h3⟩, h4⟩ := hkp
              unfold nullT
              rw [h1, h2, h3, h4]
      · next ha => exact absurd h ha
    · intro e
      unfold nullT at e
      cases e
      rfl
theorem null_list {d : Nat} : (l : List Tr) → itemsT d l = 0 → hasNull l = hasNullR l
  | [], _ => rfl
  | u :: l, h => by
    unfold itemsT at h
    split at h
    · next hu =>
      have ih := null_list l h
      unfold hasNull hasNullR at *
      rw [List.any_cons, List.any_cons, ih]
      congr 1
      by_cases e : u = nullT
      · rw [eqT_true e, (null_one hu).2 e]
      · rw [eqT_false e]
        cases hh : decide (u.kind = 0) with
        | false => rfl
        | true => exact absurd ((null_one hu).1 hh) e
    · next hu => exact absurd h hu
theorem null_items {x : Int} {s : ByteArray} {ns : List ByteArray} {its : List Tr} (h : checkT 0 (.node 5 x s ns its) = 0) : hasNull its = hasNullR its := by
  unfold checkT at h
  split at h
  · rw [if_neg (by decide)] at h
    exact null_list its h
  · next ha => exact absurd h ha
/-- The document's index in memory. -/
def RxAt (w : World) (xb : Nat) (nm pt : ByteArray) (un : Bool) (pv : Value) : Prop := w.heap[xb]? = some (.cells #[.string nm, .string pt, .bool un, pv, .slice none 0 0] 92 (0, 0))
theorem RxAt.keep {w w' : World} {xb : Nat} {nm pt : ByteArray} {un : Bool} {pv : Value} (h : RxAt w xb nm pt un pv) (hb : Below w.heap.size w w') : RxAt w' xb nm pt un pv := (hb.block _ (Array.getElem?_eq_some_iff.1 h).1).trans h
set_option maxHeartbeats 4000000 in
set_option maxRecDepth 100000 in
theorem rserves_any (xb : Nat) (nm pt : ByteArray) (un : Bool) (pv : Value) (p : ByteArray) (op k x : Int) (s : ByteArray) (ns : List ByteArray) (its : List Tr) (an : Option Addr) (cn : Nat) (ai : Option Addr) (ci : Nat) (w : World) (hX : RxAt w xb nm pt un pv)
    (hI : ItemsAt' w ai its) (hl : its.length ≤ 4611686018427387904) (hS : SmallL its) (ck : Int) (hck0 : checkT 0 (.node k x s ns its) = ck)
    (hck : ∀ W, Below w.heap.size w W → Calls Tryz.prog 69 #[.agg #[.int .i64 k, .int .i64 x, .string s, .slice an ns.length cn, .slice ai its.length ci]] W fun e w' => e = .returned (.int .i64 ck) ∧ Below W.heap.size W w') :
    Calls Tryz.prog 41 #[.pointer (some ⟨xb, 0, none⟩), .agg #[.string p, .int .i64 op, .int .i64 k, .int .i64 x, .string s, .slice an ns.length cn, .slice ai its.length ci]] w fun e w' => e = .returned (.bool (servesS pt p op (.node k x s ns its))) ∧ Below w.heap.size w w' := by
  have hB0 := (Below.refl _ w).alloc (Nat.le_refl _) (.cells #[.string p, .int .i64 op, .int .i64 k, .int .i64 x, .string s, .slice an ns.length cn, .slice ai its.length ci] 30)
  have hnew := heap_alloc_new w (.cells #[.string p, .int .i64 op, .int .i64 k, .int .i64 x, .string s, .slice an ns.length cn, .slice ai its.length ci] 30)
  obtain ⟨W1, hW1⟩ : ∃ W1, Hid (w.alloc (.cells #[.string p, .int .i64 op, .int .i64 k, .int .i64 x, .string s, .slice an ns.length cn, .slice ai its.length ci] 30) = W1) := ⟨_, hid_e rfl⟩
  rw [hW1.out] at hB0 hnew
  obtain ⟨nb, hnb⟩ : ∃ n, Hid (w.heap.size = n) := ⟨_, hid_e rfl⟩
  rw [hnb.out] at hnew
  obtain ⟨n0, n1, n2, n3, n4, n5, n6⟩ := need7 hnew
  obtain ⟨i0, i1, i2, i3, i4, -⟩ := row_cells (hX.keep hB0)
  replace hck := fun W (hW : Below W1.heap.size W1 W) => hid_e (hck W (hB0.trans (hW.mono hB0.size)))
  replace hI := hid_e hI
  replace hS := hid_e hS
  replace hB0 := hid_e hB0
  obtain ⟨rs, hrs⟩ : ∃ r, Hid (servesS pt p op (.node k x s ns its) = r) := ⟨_, hid_e rfl⟩
  rw [hrs.out]
  have hse : Hid (servesS pt p op (.node k x s ns its) = (decide (p = pt) && decide (ck = 0) && (if op = 1 then !decide (k = 0) else if op = 6 then decide (k = 5) && !hasNull its else decide (2 ≤ op ∧ op ≤ 5)))) := hid_e (by unfold servesS; rw [hck0]; rfl)
  have hnl : Hid (k = 5 → ck = 0 → hasNull its = hasNullR its) := hid_e (fun h1 h2 => by subst h1; exact null_items (hck0.trans h2))
  clear hX hck0
  by_cases hp : p = pt
  · have hpp : (p.toList == p.toList) = true := by simp
    rw [← hp] at i1
    replace hp := hid_e hp
    by_cases ho1 : op < 1
    · have hfin : Hid (servesS pt p op (.node k x s ns its) = false) := hid_e (by rw [hse.out, if_neg (by omega), if_neg (by omega), decide_eq_false (by omega : ¬ (2 ≤ op ∧ op ≤ 5))]; simp)
      have ho1' : decide (op < 1) = true := by simpa using ho1
      clear hse
      go_enter Tryz.func41, Tryz.ntmps41
      go_wp2_with (rw [hW1.out])
      rw [hnb.out]
      refine wp_region_quiet (C := fun w' => Below W1.heap.size W1 w') (by kernel_rfl) (by kernel_rfl) (below_drewN (Below.refl _ _) 1) ?_
      with_reducible refine wpQuiet_step (fun K hK => ?_)
      refine ⟨.pointer (some ⟨nb, 0, none⟩), fun w' hw' => ?_, ?_⟩
      · first | (go_simp; done) | (go_simp; decide) | (go_simp; omega)
      with_reducible refine hK _ ?_
      clear hK K
      simp only [Act.put, List.setIfInBounds_toArray, List.set_cons_zero, List.set_cons_succ]
      with_reducible refine wpQuiet_step (fun K hK => ?_)
      refine ⟨.string p, fun w' hw' => ?_, ?_⟩
      · have t0 := stay hw' n0; go_simp
      with_reducible refine hK _ ?_
      clear hK K
      simp only [Act.put, List.setIfInBounds_toArray, List.set_cons_zero, List.set_cons_succ]
      with_reducible refine wpQuiet_step (fun K hK => ?_)
      refine ⟨.pointer (some ⟨xb, 0, none⟩), fun w' hw' => ?_, ?_⟩
      · first | (go_simp; done) | (go_simp; decide) | (go_simp; omega)
      with_reducible refine hK _ ?_
      clear hK K
      simp only [Act.put, List.setIfInBounds_toArray, List.set_cons_zero, List.set_cons_succ]
      with_reducible refine wpQuiet_step (fun K hK => ?_)
      refine ⟨.pointer (some ⟨xb, 0, none⟩), fun w' hw' => ?_, ?_⟩
      · first | (go_simp; done) | (go_simp; decide) | (go_simp; omega)
      with_reducible refine hK _ ?_
      clear hK K
      simp only [Act.put, List.setIfInBounds_toArray, List.set_cons_zero, List.set_cons_succ]
      with_reducible refine wpQuiet_step (fun K hK => ?_)
      refine ⟨.pointer (some ⟨xb, 0, none⟩), fun w' hw' => ?_, ?_⟩
      · first | (go_simp; done) | (go_simp; decide) | (go_simp; omega)
      with_reducible refine hK _ ?_
      clear hK K
      simp only [Act.put, List.setIfInBounds_toArray, List.set_cons_zero, List.set_cons_succ]
      with_reducible refine wpQuiet_step (fun K hK => ?_)
      refine ⟨.pointer (some ⟨xb, 1, none⟩), fun w' hw' => ?_, ?_⟩
      · first | (go_simp; done) | (go_simp; decide) | (go_simp; omega)
      with_reducible refine hK _ ?_
      clear hK K
      simp only [Act.put, List.setIfInBounds_toArray, List.set_cons_zero, List.set_cons_succ]
      with_reducible refine wpQuiet_step (fun K hK => ?_)
      refine ⟨.string p, fun w' hw' => ?_, ?_⟩
      · have t0 := stay hw' i1; go_simp
      with_reducible refine hK _ ?_
      clear hK K
      simp only [Act.put, List.setIfInBounds_toArray, List.set_cons_zero, List.set_cons_succ]
      with_reducible refine wpQuiet_step (fun K hK => ?_)
      refine ⟨.bool false, fun w' hw' => ?_, ?_⟩
      · first | (go_simp; done) | (go_simp; decide) | (go_simp; omega)
      with_reducible refine hK _ ?_
      clear hK K
      simp only [Act.put, List.setIfInBounds_toArray, List.set_cons_zero, List.set_cons_succ]
      with_reducible refine wpQuiet_step (fun K hK => ?_)
      refine ⟨.bool false, fun w' hw' => ?_, ?_⟩
      · first | (go_simp; done) | (go_simp; decide) | (go_simp; omega)
      with_reducible refine hK _ ?_
      clear hK K
      simp only [Act.put, List.setIfInBounds_toArray, List.set_cons_zero, List.set_cons_succ]
      with_reducible refine wpQuiet_step (fun K hK => ?_)
      refine k_quiet_if (by kernel_rfl) ?_
      refine ⟨.pointer (some ⟨nb, 1, none⟩), fun w' hw' => ?_, ?_⟩
      · first | (go_simp; done) | (go_simp; decide) | (go_simp; omega)
      with_reducible refine hK _ ?_
      clear hK K
      simp only [Act.put, List.setIfInBounds_toArray, List.set_cons_zero, List.set_cons_succ]
      with_reducible refine wpQuiet_step (fun K hK => ?_)
      refine k_quiet_if (by kernel_rfl) ?_
      refine ⟨.int .i64 op, fun w' hw' => ?_, ?_⟩
      · have t0 := stay hw' n1; go_simp
      with_reducible refine hK _ ?_
      clear hK K
      simp only [Act.put, List.setIfInBounds_toArray, List.set_cons_zero, List.set_cons_succ]
      with_reducible refine wpQuiet_step (fun K hK => ?_)
      refine k_quiet_if (by kernel_rfl) ?_
      refine ⟨.bool true, fun w' hw' => ?_, ?_⟩
      · first | (go_simp; done) | (go_simp; decide) | (go_simp; omega)
      with_reducible refine hK _ ?_
      clear hK K
      simp only [Act.put, List.setIfInBounds_toArray, List.set_cons_zero, List.set_cons_succ]
      with_reducible refine wpQuiet_step (fun K hK => ?_)
      refine ⟨.bool true, fun w' hw' => ?_, ?_⟩
      · first | (go_simp; done) | (go_simp; decide) | (go_simp; omega)
      with_reducible refine hK _ ?_
      clear hK K
      simp only [Act.put, List.setIfInBounds_toArray, List.set_cons_zero, List.set_cons_succ]
      with_reducible refine wpQuiet_step (fun K hK => ?_)
      refine ⟨.bool true, fun w' hw' => ?_, ?_⟩
      · first | (go_simp; done) | (go_simp; decide) | (go_simp; omega)
      with_reducible refine hK _ ?_
      clear hK K
      simp only [Act.put, List.setIfInBounds_toArray, List.set_cons_zero, List.set_cons_succ]
      with_reducible refine wpQuiet_step (fun K hK => ?_)
      refine k_quiet_else (by kernel_rfl) ?_
      with_reducible refine hK _ ?_
      clear hK K
      simp only [Act.put, List.setIfInBounds_toArray, List.set_cons_zero, List.set_cons_succ]
      with_reducible refine wpQuiet_step (fun K hK => ?_)
      refine k_quiet_else (by kernel_rfl) ?_
      with_reducible refine hK _ ?_
      clear hK K
      simp only [Act.put, List.setIfInBounds_toArray, List.set_cons_zero, List.set_cons_succ]
      with_reducible refine wpQuiet_step (fun K hK => ?_)
      refine k_quiet_else (by kernel_rfl) ?_
      with_reducible refine hK _ ?_
      clear hK K
      simp only [Act.put, List.setIfInBounds_toArray, List.set_cons_zero, List.set_cons_succ]
      with_reducible refine wpQuiet_step (fun K hK => ?_)
      refine ⟨.bool true, fun w' hw' => ?_, ?_⟩
      · first | (go_simp; done) | (go_simp; decide) | (go_simp; omega)
      with_reducible refine hK _ ?_
      clear hK K
      simp only [Act.put, List.setIfInBounds_toArray, List.set_cons_zero, List.set_cons_succ]
      with_reducible refine wpQuiet_step (fun K hK => ?_)
      refine ⟨.bool true, fun w' hw' => ?_, ?_⟩
      · first | (go_simp; done) | (go_simp; decide) | (go_simp; omega)
      with_reducible refine hK _ ?_
      clear hK K
      simp only [Act.put, List.setIfInBounds_toArray, List.set_cons_zero, List.set_cons_succ]
      with_reducible refine wpQuiet_step (fun K hK => ?_)
      refine k_quiet_else (by kernel_rfl) ?_
      with_reducible refine hK _ ?_
      clear hK K
      simp only [Act.put, List.setIfInBounds_toArray, List.set_cons_zero, List.set_cons_succ]
      with_reducible refine wpQuiet_step (fun K hK => ?_)
      refine k_quiet_else (by kernel_rfl) ?_
      with_reducible refine hK _ ?_
      clear hK K
      simp only [Act.put, List.setIfInBounds_toArray, List.set_cons_zero, List.set_cons_succ]
      with_reducible refine wpQuiet_step (fun K hK => ?_)
      refine k_quiet_else (by kernel_rfl) ?_
      with_reducible refine hK _ ?_
      clear hK K
      simp only [Act.put, List.setIfInBounds_toArray, List.set_cons_zero, List.set_cons_succ]
      with_reducible refine wpQuiet_step (fun K hK => ?_)
      refine k_quiet_else (by kernel_rfl) ?_
      with_reducible refine hK _ ?_
      clear hK K
      simp only [Act.put, List.setIfInBounds_toArray, List.set_cons_zero, List.set_cons_succ]
      with_reducible refine wpQuiet_step (fun K hK => ?_)
      refine ⟨.bool true, fun w' hw' => ?_, ?_⟩
      · first | (go_simp; done) | (go_simp; decide) | (go_simp; omega)
      with_reducible refine hK _ ?_
      clear hK K
      simp only [Act.put, List.setIfInBounds_toArray, List.set_cons_zero, List.set_cons_succ]
      refine wpQuiet_nil ?_
      intro X1 hX1
      replace hB0 := hid_e (hB0.out.trans (hX1.mono hB0.out.size))
      clear hX1 hck n0 n1 n2 n3 n4 n5 n6 i0 i1 i2 i3 i4
      go_wp2_with fail
      go_ret
      exact ⟨by rw [← hrs.out, hfin.out]; rfl, hB0.out⟩
    have ho1' : decide (op < 1) = false := by simpa using ho1
    by_cases ho6 : 6 < op
    · have hfin : Hid (servesS pt p op (.node k x s ns its) = false) := hid_e (by rw [hse.out, if_neg (by omega), if_neg (by omega), decide_eq_false (by omega : ¬ (2 ≤ op ∧ op ≤ 5))]; simp)
      have ho6' : decide (6 < op) = true := by simpa using ho6
      clear hse
      go_enter Tryz.func41, Tryz.ntmps41
      go_wp2_with (rw [hW1.out])
      rw [hnb.out]
      refine wp_region_quiet (C := fun w' => Below W1.heap.size W1 w') (by kernel_rfl) (by kernel_rfl) (below_drewN (Below.refl _ _) 1) ?_
      with_reducible refine wpQuiet_step (fun K hK => ?_)
      refine ⟨.pointer (some ⟨nb, 0, none⟩), fun w' hw' => ?_, ?_⟩
      · first | (go_simp; done) | (go_simp; decide) | (go_simp; omega)
      with_reducible refine hK _ ?_
      clear hK K
      simp only [Act.put, List.setIfInBounds_toArray, List.set_cons_zero, List.set_cons_succ]
      with_reducible refine wpQuiet_step (fun K hK => ?_)
      refine ⟨.string p, fun w' hw' => ?_, ?_⟩
      · have t0 := stay hw' n0; go_simp
      with_reducible refine hK _ ?_
      clear hK K
      simp only [Act.put, List.setIfInBounds_toArray, List.set_cons_zero, List.set_cons_succ]
      with_reducible refine wpQuiet_step (fun K hK => ?_)
      refine ⟨.pointer (some ⟨xb, 0, none⟩), fun w' hw' => ?_, ?_⟩
      · first | (go_simp; done) | (go_simp; decide) | (go_simp; omega)
      with_reducible refine hK _ ?_
      clear hK K
      simp only [Act.put, List.setIfInBounds_toArray, List.set_cons_zero, List.set_cons_succ]
      with_reducible refine wpQuiet_step (fun K hK => ?_)
      refine ⟨.pointer (some ⟨xb, 0, none⟩), fun w' hw' => ?_, ?_⟩
      · first | (go_simp; done) | (go_simp; decide) | (go_simp; omega)
      with_reducible refine hK _ ?_
      clear hK K
      simp only [Act.put, List.setIfInBounds_toArray, List.set_cons_zero, List.set_cons_succ]
      with_reducible refine wpQuiet_step (fun K hK => ?_)
      refine ⟨.pointer (some ⟨xb, 0, none⟩), fun w' hw' => ?_, ?_⟩
      · first | (go_simp; done) | (go_simp; decide) | (go_simp; omega)
      with_reducible refine hK _ ?_
      clear hK K
      simp only [Act.put, List.setIfInBounds_toArray, List.set_cons_zero, List.set_cons_succ]
      with_reducible refine wpQuiet_step (fun K hK => ?_)
      refine ⟨.pointer (some ⟨xb, 1, none⟩), fun w' hw' => ?_, ?_⟩
      · first | (go_simp; done) | (go_simp; decide) | (go_simp; omega)
      with_reducible refine hK _ ?_
      clear hK K
      simp only [Act.put, List.setIfInBounds_toArray, List.set_cons_zero, List.set_cons_succ]
      with_reducible refine wpQuiet_step (fun K hK => ?_)
      refine ⟨.string p, fun w' hw' => ?_, ?_⟩
      · have t0 := stay hw' i1; go_simp
      with_reducible refine hK _ ?_
      clear hK K
      simp only [Act.put, List.setIfInBounds_toArray, List.set_cons_zero, List.set_cons_succ]
      with_reducible refine wpQuiet_step (fun K hK => ?_)
      refine ⟨.bool false, fun w' hw' => ?_, ?_⟩
      · first | (go_simp; done) | (go_simp; decide) | (go_simp; omega)
      with_reducible refine hK _ ?_
      clear hK K
      simp only [Act.put, List.setIfInBounds_toArray, List.set_cons_zero, List.set_cons_succ]
      with_reducible refine wpQuiet_step (fun K hK => ?_)
      refine ⟨.bool false, fun w' hw' => ?_, ?_⟩
      · first | (go_simp; done) | (go_simp; decide) | (go_simp; omega)
      with_reducible refine hK _ ?_
      clear hK K
      simp only [Act.put, List.setIfInBounds_toArray, List.set_cons_zero, List.set_cons_succ]
      with_reducible refine wpQuiet_step (fun K hK => ?_)
      refine k_quiet_if (by kernel_rfl) ?_
      refine ⟨.pointer (some ⟨nb, 1, none⟩), fun w' hw' => ?_, ?_⟩
      · first | (go_simp; done) | (go_simp; decide) | (go_simp; omega)
      with_reducible refine hK _ ?_
      clear hK K
      simp only [Act.put, List.setIfInBounds_toArray, List.set_cons_zero, List.set_cons_succ]
      with_reducible refine wpQuiet_step (fun K hK => ?_)
      refine k_quiet_if (by kernel_rfl) ?_
      refine ⟨.int .i64 op, fun w' hw' => ?_, ?_⟩
      · have t0 := stay hw' n1; go_simp
      with_reducible refine hK _ ?_
      clear hK K
      simp only [Act.put, List.setIfInBounds_toArray, List.set_cons_zero, List.set_cons_succ]
      with_reducible refine wpQuiet_step (fun K hK => ?_)
      refine k_quiet_if (by kernel_rfl) ?_
      refine ⟨.bool false, fun w' hw' => ?_, ?_⟩
      · first | (go_simp; done) | (go_simp; decide) | (go_simp; omega)
      with_reducible refine hK _ ?_
      clear hK K
      simp only [Act.put, List.setIfInBounds_toArray, List.set_cons_zero, List.set_cons_succ]
      with_reducible refine wpQuiet_step (fun K hK => ?_)
      refine ⟨.bool false, fun w' hw' => ?_, ?_⟩
      · first | (go_simp; done) | (go_simp; decide) | (go_simp; omega)
      with_reducible refine hK _ ?_
      clear hK K
      simp only [Act.put, List.setIfInBounds_toArray, List.set_cons_zero, List.set_cons_succ]
      with_reducible refine wpQuiet_step (fun K hK => ?_)
      refine ⟨.bool false, fun w' hw' => ?_, ?_⟩
      · first | (go_simp; done) | (go_simp; decide) | (go_simp; omega)
      with_reducible refine hK _ ?_
      clear hK K
      simp only [Act.put, List.setIfInBounds_toArray, List.set_cons_zero, List.set_cons_succ]
      with_reducible refine wpQuiet_step (fun K hK => ?_)
      refine k_quiet_if (by kernel_rfl) ?_
      refine ⟨.pointer (some ⟨nb, 1, none⟩), fun w' hw' => ?_, ?_⟩
      · first | (go_simp; done) | (go_simp; decide) | (go_simp; omega)
      with_reducible refine hK _ ?_
      clear hK K
      simp only [Act.put, List.setIfInBounds_toArray, List.set_cons_zero, List.set_cons_succ]
      with_reducible refine wpQuiet_step (fun K hK => ?_)
      refine k_quiet_if (by kernel_rfl) ?_
      refine ⟨.int .i64 op, fun w' hw' => ?_, ?_⟩
      · have t0 := stay hw' n1; go_simp
      with_reducible refine hK _ ?_
      clear hK K
      simp only [Act.put, List.setIfInBounds_toArray, List.set_cons_zero, List.set_cons_succ]
      with_reducible refine wpQuiet_step (fun K hK => ?_)
      refine k_quiet_if (by kernel_rfl) ?_
      refine ⟨.bool true, fun w' hw' => ?_, ?_⟩
      · first | (go_simp; done) | (go_simp; decide) | (go_simp; omega)
      with_reducible refine hK _ ?_
      clear hK K
      simp only [Act.put, List.setIfInBounds_toArray, List.set_cons_zero, List.set_cons_succ]
      with_reducible refine wpQuiet_step (fun K hK => ?_)
      refine ⟨.bool true, fun w' hw' => ?_, ?_⟩
      · first | (go_simp; done) | (go_simp; decide) | (go_simp; omega)
      with_reducible refine hK _ ?_
      clear hK K
      simp only [Act.put, List.setIfInBounds_toArray, List.set_cons_zero, List.set_cons_succ]
      with_reducible refine wpQuiet_step (fun K hK => ?_)
      refine ⟨.bool true, fun w' hw' => ?_, ?_⟩
      · first | (go_simp; done) | (go_simp; decide) | (go_simp; omega)
      with_reducible refine hK _ ?_
      clear hK K
      simp only [Act.put, List.setIfInBounds_toArray, List.set_cons_zero, List.set_cons_succ]
      with_reducible refine wpQuiet_step (fun K hK => ?_)
      refine k_quiet_else (by kernel_rfl) ?_
      with_reducible refine hK _ ?_
      clear hK K
      simp only [Act.put, List.setIfInBounds_toArray, List.set_cons_zero, List.set_cons_succ]
      with_reducible refine wpQuiet_step (fun K hK => ?_)
      refine k_quiet_else (by kernel_rfl) ?_
      with_reducible refine hK _ ?_
      clear hK K
      simp only [Act.put, List.setIfInBounds_toArray, List.set_cons_zero, List.set_cons_succ]
      with_reducible refine wpQuiet_step (fun K hK => ?_)
      refine k_quiet_else (by kernel_rfl) ?_
      with_reducible refine hK _ ?_
      clear hK K
      simp only [Act.put, List.setIfInBounds_toArray, List.set_cons_zero, List.set_cons_succ]
      with_reducible refine wpQuiet_step (fun K hK => ?_)
      refine k_quiet_else (by kernel_rfl) ?_
      with_reducible refine hK _ ?_
      clear hK K
      simp only [Act.put, List.setIfInBounds_toArray, List.set_cons_zero, List.set_cons_succ]
      with_reducible refine wpQuiet_step (fun K hK => ?_)
      refine ⟨.bool true, fun w' hw' => ?_, ?_⟩
      · first | (go_simp; done) | (go_simp; decide) | (go_simp; omega)
      with_reducible refine hK _ ?_
      clear hK K
      simp only [Act.put, List.setIfInBounds_toArray, List.set_cons_zero, List.set_cons_succ]
      refine wpQuiet_nil ?_
      intro X1 hX1
      replace hB0 := hid_e (hB0.out.trans (hX1.mono hB0.out.size))
      clear hX1 hck n0 n1 n2 n3 n4 n5 n6 i0 i1 i2 i3 i4
      go_wp2_with fail
      go_ret
      exact ⟨by rw [← hrs.out, hfin.out]; rfl, hB0.out⟩
    have ho6' : decide (6 < op) = false := by simpa using ho6
    by_cases hc : ck = 0
    · subst hc
      have hse2 : Hid (servesS pt p op (.node k x s ns its) = (if op = 1 then !decide (k = 0) else if op = 6 then decide (k = 5) && !hasNull its else decide (2 ≤ op ∧ op ≤ 5))) := hid_e (by rw [hse.out, decide_eq_true hp.out]; simp)
      clear hse
      go_enter Tryz.func41, Tryz.ntmps41
      go_wp2_with (rw [hW1.out])
      rw [hnb.out]
      refine wp_region_quiet (C := fun w' => Below W1.heap.size W1 w') (by kernel_rfl) (by kernel_rfl) (below_drewN (Below.refl _ _) 1) ?_
      with_reducible refine wpQuiet_step (fun K hK => ?_)
      refine ⟨.pointer (some ⟨nb, 0, none⟩), fun w' hw' => ?_, ?_⟩
      · first | (go_simp; done) | (go_simp; decide) | (go_simp; omega)
      with_reducible refine hK _ ?_
      clear hK K
      simp only [Act.put, List.setIfInBounds_toArray, List.set_cons_zero, List.set_cons_succ]
      with_reducible refine wpQuiet_step (fun K hK => ?_)
      refine ⟨.string p, fun w' hw' => ?_, ?_⟩
      · have t0 := stay hw' n0; go_simp
      with_reducible refine hK _ ?_
      clear hK K
      simp only [Act.put, List.setIfInBounds_toArray, List.set_cons_zero, List.set_cons_succ]
      with_reducible refine wpQuiet_step (fun K hK => ?_)
      refine ⟨.pointer (some ⟨xb, 0, none⟩), fun w' hw' => ?_, ?_⟩
      · first | (go_simp; done) | (go_simp; decide) | (go_simp; omega)
      with_reducible refine hK _ ?_
      clear hK K
      simp only [Act.put, List.setIfInBounds_toArray, List.set_cons_zero, List.set_cons_succ]
      with_reducible refine wpQuiet_step (fun K hK => ?_)
      refine ⟨.pointer (some ⟨xb, 0, none⟩), fun w' hw' => ?_, ?_⟩
      · first | (go_simp; done) | (go_simp; decide) | (go_simp; omega)
      with_reducible refine hK _ ?_
      clear hK K
      simp only [Act.put, List.setIfInBounds_toArray, List.set_cons_zero, List.set_cons_succ]
      with_reducible refine wpQuiet_step (fun K hK => ?_)
      refine ⟨.pointer (some ⟨xb, 0, none⟩), fun w' hw' => ?_, ?_⟩
      · first | (go_simp; done) | (go_simp; decide) | (go_simp; omega)
      with_reducible refine hK _ ?_
      clear hK K
      simp only [Act.put, List.setIfInBounds_toArray, List.set_cons_zero, List.set_cons_succ]
      with_reducible refine wpQuiet_step (fun K hK => ?_)
      refine ⟨.pointer (some ⟨xb, 1, none⟩), fun w' hw' => ?_, ?_⟩
      · first | (go_simp; done) | (go_simp; decide) | (go_simp; omega)
      with_reducible refine hK _ ?_
      clear hK K
      simp only [Act.put, List.setIfInBounds_toArray, List.set_cons_zero, List.set_cons_succ]
      with_reducible refine wpQuiet_step (fun K hK => ?_)
      refine ⟨.string p, fun w' hw' => ?_, ?_⟩
      · have t0 := stay hw' i1; go_simp
      with_reducible refine hK _ ?_
      clear hK K
      simp only [Act.put, List.setIfInBounds_toArray, List.set_cons_zero, List.set_cons_succ]
      with_reducible refine wpQuiet_step (fun K hK => ?_)
      refine ⟨.bool false, fun w' hw' => ?_, ?_⟩
      · first | (go_simp; done) | (go_simp; decide) | (go_simp; omega)
      with_reducible refine hK _ ?_
      clear hK K
      simp only [Act.put, List.setIfInBounds_toArray, List.set_cons_zero, List.set_cons_succ]
      with_reducible refine wpQuiet_step (fun K hK => ?_)
      refine ⟨.bool false, fun w' hw' => ?_, ?_⟩
      · first | (go_simp; done) | (go_simp; decide) | (go_simp; omega)
      with_reducible refine hK _ ?_
      clear hK K
      simp only [Act.put, List.setIfInBounds_toArray, List.set_cons_zero, List.set_cons_succ]
      with_reducible refine wpQuiet_step (fun K hK => ?_)
      refine k_quiet_if (by kernel_rfl) ?_
      refine ⟨.pointer (some ⟨nb, 1, none⟩), fun w' hw' => ?_, ?_⟩
      · first | (go_simp; done) | (go_simp; decide) | (go_simp; omega)
      with_reducible refine hK _ ?_
      clear hK K
      simp only [Act.put, List.setIfInBounds_toArray, List.set_cons_zero, List.set_cons_succ]
      with_reducible refine wpQuiet_step (fun K hK => ?_)
      refine k_quiet_if (by kernel_rfl) ?_
      refine ⟨.int .i64 op, fun w' hw' => ?_, ?_⟩
      · have t0 := stay hw' n1; go_simp
      with_reducible refine hK _ ?_
      clear hK K
      simp only [Act.put, List.setIfInBounds_toArray, List.set_cons_zero, List.set_cons_succ]
      with_reducible refine wpQuiet_step (fun K hK => ?_)
      refine k_quiet_if (by kernel_rfl) ?_
      refine ⟨.bool false, fun w' hw' => ?_, ?_⟩
      · first | (go_simp; done) | (go_simp; decide) | (go_simp; omega)
      with_reducible refine hK _ ?_
      clear hK K
      simp only [Act.put, List.setIfInBounds_toArray, List.set_cons_zero, List.set_cons_succ]
      with_reducible refine wpQuiet_step (fun K hK => ?_)
      refine ⟨.bool false, fun w' hw' => ?_, ?_⟩
      · first | (go_simp; done) | (go_simp; decide) | (go_simp; omega)
      with_reducible refine hK _ ?_
      clear hK K
      simp only [Act.put, List.setIfInBounds_toArray, List.set_cons_zero, List.set_cons_succ]
      with_reducible refine wpQuiet_step (fun K hK => ?_)
      refine ⟨.bool false, fun w' hw' => ?_, ?_⟩
      · first | (go_simp; done) | (go_simp; decide) | (go_simp; omega)
      with_reducible refine hK _ ?_
      clear hK K
      simp only [Act.put, List.setIfInBounds_toArray, List.set_cons_zero, List.set_cons_succ]
      with_reducible refine wpQuiet_step (fun K hK => ?_)
      refine k_quiet_if (by kernel_rfl) ?_
      refine ⟨.pointer (some ⟨nb, 1, none⟩), fun w' hw' => ?_, ?_⟩
      · first | (go_simp; done) | (go_simp; decide) | (go_simp; omega)
      with_reducible refine hK _ ?_
      clear hK K
      simp only [Act.put, List.setIfInBounds_toArray, List.set_cons_zero, List.set_cons_succ]
      with_reducible refine wpQuiet_step (fun K hK => ?_)
      refine k_quiet_if (by kernel_rfl) ?_
      refine ⟨.int .i64 op, fun w' hw' => ?_, ?_⟩
      · have t0 := stay hw' n1; go_simp
      with_reducible refine hK _ ?_
      clear hK K
      simp only [Act.put, List.setIfInBounds_toArray, List.set_cons_zero, List.set_cons_succ]
      with_reducible refine wpQuiet_step (fun K hK => ?_)
      refine k_quiet_if (by kernel_rfl) ?_
      refine ⟨.bool false, fun w' hw' => ?_, ?_⟩
      · first | (go_simp; done) | (go_simp; decide) | (go_simp; omega)
      with_reducible refine hK _ ?_
      clear hK K
      simp only [Act.put, List.setIfInBounds_toArray, List.set_cons_zero, List.set_cons_succ]
      with_reducible refine wpQuiet_step (fun K hK => ?_)
      refine ⟨.bool false, fun w' hw' => ?_, ?_⟩
      · first | (go_simp; done) | (go_simp; decide) | (go_simp; omega)
      with_reducible refine hK _ ?_
      clear hK K
      simp only [Act.put, List.setIfInBounds_toArray, List.set_cons_zero, List.set_cons_succ]
      with_reducible refine wpQuiet_step (fun K hK => ?_)
      refine ⟨.bool false, fun w' hw' => ?_, ?_⟩
      · first | (go_simp; done) | (go_simp; decide) | (go_simp; omega)
      with_reducible refine hK _ ?_
      clear hK K
      simp only [Act.put, List.setIfInBounds_toArray, List.set_cons_zero, List.set_cons_succ]
      with_reducible refine wpQuiet_step (fun K hK => ?_)
      refine k_quiet_if (by kernel_rfl) ?_
      refine ⟨.pointer (some ⟨nb, 2, none⟩), fun w' hw' => ?_, ?_⟩
      · first | (go_simp; done) | (go_simp; decide) | (go_simp; omega)
      with_reducible refine hK _ ?_
      clear hK K
      simp only [Act.put, List.setIfInBounds_toArray, List.set_cons_zero, List.set_cons_succ]
      with_reducible refine wpQuiet_step (fun K hK => ?_)
      refine k_quiet_if (by kernel_rfl) ?_
      refine ⟨.agg #[.int .i64 k, .int .i64 x, .string s, .slice an ns.length cn, .slice ai its.length ci], fun w' hw' => ?_, ?_⟩
      · have t0 := stay hw' n2; have t1 := stay hw' n3; have t2 := stay hw' n4; have t3 := stay hw' n5; have t4 := stay hw' n6; go_simp
      with_reducible refine hK _ ?_
      clear hK K
      simp only [Act.put, List.setIfInBounds_toArray, List.set_cons_zero, List.set_cons_succ]
      with_reducible refine wpQuiet_step (fun K hK => ?_)
      refine k_quiet_if (by kernel_rfl) ?_
      refine ⟨.int .i64 0, fun w' hw' => ?_, ?_⟩
      · go_simp
        refine ((hck w' hw').out).mono ?_
        rintro e w'' ⟨rfl, hb'⟩
        exact ⟨rfl, hw'.trans (hb'.mono hw'.size)⟩
      with_reducible refine hK _ ?_
      clear hK K
      simp only [Act.put, List.setIfInBounds_toArray, List.set_cons_zero, List.set_cons_succ]
      with_reducible refine wpQuiet_step (fun K hK => ?_)
      refine k_quiet_if (by kernel_rfl) ?_
      refine ⟨.bool false, fun w' hw' => ?_, ?_⟩
      · first | (go_simp; done) | (go_simp; decide) | (go_simp; omega)
      with_reducible refine hK _ ?_
      clear hK K
      simp only [Act.put, List.setIfInBounds_toArray, List.set_cons_zero, List.set_cons_succ]
      with_reducible refine wpQuiet_step (fun K hK => ?_)
      refine ⟨.bool false, fun w' hw' => ?_, ?_⟩
      · first | (go_simp; done) | (go_simp; decide) | (go_simp; omega)
      with_reducible refine hK _ ?_
      clear hK K
      simp only [Act.put, List.setIfInBounds_toArray, List.set_cons_zero, List.set_cons_succ]
      refine wpQuiet_nil ?_
      intro X1 hX1
      have hB1 := hid_e (hB0.out.trans (hX1.mono hB0.out.size))
      replace n1 := Chk.stay hX1 n1
      replace n2 := Chk.stay hX1 n2
      replace n3 := Chk.stay hX1 n3
      replace n4 := Chk.stay hX1 n4
      replace n5 := Chk.stay hX1 n5
      replace n6 := Chk.stay hX1 n6
      clear hX1 hck n0 i0 i1 i2 i3 i4 hpp hW1 hB0
      by_cases h1 : op = 1
      · subst h1
        go_wp2_with fail
        go_ret
        exact ⟨by rw [← hrs.out, hse2.out]; simp [bne, beq_dec], hB1.out⟩
      · have h1' : (op == 1) = false := by simpa using h1
        by_cases h6 : op = 6
        · subst h6
          clear h1'
          by_cases h5 : k = 5
          · subst h5
            have hcn := hid_e (rhas_any ai ci its X1 (items_keep hI.out hB1.out) hl hS.out)
            have hnl' : Hid (hasNull its = hasNullR its) := hid_e (by first | exact hnl.out rfl rfl | exact hnl.out rfl trivial | exact hnl.out trivial trivial)
            clear hnl
            go_wp2_with fail
            refine hcn.out.mono ?_
            rintro e X2 ⟨rfl, hX2⟩
            replace hB1 := hid_e (hB1.out.trans (hX2.mono hB1.out.size))
            clear hX2 n1 n2 n3 n4 n5 n6 hcn
            go_wp2_with fail
            go_ret
            exact ⟨by rw [← hrs.out, hse2.out, hnl'.out]; simp, hB1.out⟩
          · have h5' : (k == 5) = false := by simpa using h5
            go_wp2_with fail
            go_ret
            exact ⟨by rw [← hrs.out, hse2.out]; simp [h5], hB1.out⟩
        · have h6' : (op == 6) = false := by simpa using h6
          have hfin : Hid (servesS pt p op (.node k x s ns its) = true) := hid_e (by rw [hse2.out, if_neg h1, if_neg h6, decide_eq_true (by omega : 2 ≤ op ∧ op ≤ 5)])
          clear h1 h6 hse2 ho1 ho6
          go_wp2_with fail
          go_ret
          exact ⟨by rw [← hrs.out, hfin.out]; rfl, hB1.out⟩
    · have hcn : (ck != 0) = true := by simpa using hc
      have hfin : Hid (servesS pt p op (.node k x s ns its) = false) := hid_e (by rw [hse.out, decide_eq_false hc]; simp)
      clear hse hc
      go_enter Tryz.func41, Tryz.ntmps41
      go_wp2_with (rw [hW1.out])
      rw [hnb.out]
      refine wp_region_quiet (C := fun w' => Below W1.heap.size W1 w') (by kernel_rfl) (by kernel_rfl) (below_drewN (Below.refl _ _) 1) ?_
      with_reducible refine wpQuiet_step (fun K hK => ?_)
      refine ⟨.pointer (some ⟨nb, 0, none⟩), fun w' hw' => ?_, ?_⟩
      · first | (go_simp; done) | (go_simp; decide) | (go_simp; omega)
      with_reducible refine hK _ ?_
      clear hK K
      simp only [Act.put, List.setIfInBounds_toArray, List.set_cons_zero, List.set_cons_succ]
      with_reducible refine wpQuiet_step (fun K hK => ?_)
      refine ⟨.string p, fun w' hw' => ?_, ?_⟩
      · have t0 := stay hw' n0; go_simp
      with_reducible refine hK _ ?_
      clear hK K
      simp only [Act.put, List.setIfInBounds_toArray, List.set_cons_zero, List.set_cons_succ]
      with_reducible refine wpQuiet_step (fun K hK => ?_)
      refine ⟨.pointer (some ⟨xb, 0, none⟩), fun w' hw' => ?_, ?_⟩
      · first | (go_simp; done) | (go_simp; decide) | (go_simp; omega)
      with_reducible refine hK _ ?_
      clear hK K
      simp only [Act.put, List.setIfInBounds_toArray, List.set_cons_zero, List.set_cons_succ]
      with_reducible refine wpQuiet_step (fun K hK => ?_)
      refine ⟨.pointer (some ⟨xb, 0, none⟩), fun w' hw' => ?_, ?_⟩
      · first | (go_simp; done) | (go_simp; decide) | (go_simp; omega)
      with_reducible refine hK _ ?_
      clear hK K
      simp only [Act.put, List.setIfInBounds_toArray, List.set_cons_zero, List.set_cons_succ]
      with_reducible refine wpQuiet_step (fun K hK => ?_)
      refine ⟨.pointer (some ⟨xb, 0, none⟩), fun w' hw' => ?_, ?_⟩
      · first | (go_simp; done) | (go_simp; decide) | (go_simp; omega)
      with_reducible refine hK _ ?_
      clear hK K
      simp only [Act.put, List.setIfInBounds_toArray, List.set_cons_zero, List.set_cons_succ]
      with_reducible refine wpQuiet_step (fun K hK => ?_)
      refine ⟨.pointer (some ⟨xb, 1, none⟩), fun w' hw' => ?_, ?_⟩
      · first | (go_simp; done) | (go_simp; decide) | (go_simp; omega)
      with_reducible refine hK _ ?_
      clear hK K
      simp only [Act.put, List.setIfInBounds_toArray, List.set_cons_zero, List.set_cons_succ]
      with_reducible refine wpQuiet_step (fun K hK => ?_)
      refine ⟨.string p, fun w' hw' => ?_, ?_⟩
      · have t0 := stay hw' i1; go_simp
      with_reducible refine hK _ ?_
      clear hK K
      simp only [Act.put, List.setIfInBounds_toArray, List.set_cons_zero, List.set_cons_succ]
      with_reducible refine wpQuiet_step (fun K hK => ?_)
      refine ⟨.bool false, fun w' hw' => ?_, ?_⟩
      · first | (go_simp; done) | (go_simp; decide) | (go_simp; omega)
      with_reducible refine hK _ ?_
      clear hK K
      simp only [Act.put, List.setIfInBounds_toArray, List.set_cons_zero, List.set_cons_succ]
      with_reducible refine wpQuiet_step (fun K hK => ?_)
      refine ⟨.bool false, fun w' hw' => ?_, ?_⟩
      · first | (go_simp; done) | (go_simp; decide) | (go_simp; omega)
      with_reducible refine hK _ ?_
      clear hK K
      simp only [Act.put, List.setIfInBounds_toArray, List.set_cons_zero, List.set_cons_succ]
      with_reducible refine wpQuiet_step (fun K hK => ?_)
      refine k_quiet_if (by kernel_rfl) ?_
      refine ⟨.pointer (some ⟨nb, 1, none⟩), fun w' hw' => ?_, ?_⟩
      · first | (go_simp; done) | (go_simp; decide) | (go_simp; omega)
      with_reducible refine hK _ ?_
      clear hK K
      simp only [Act.put, List.setIfInBounds_toArray, List.set_cons_zero, List.set_cons_succ]
      with_reducible refine wpQuiet_step (fun K hK => ?_)
      refine k_quiet_if (by kernel_rfl) ?_
      refine ⟨.int .i64 op, fun w' hw' => ?_, ?_⟩
      · have t0 := stay hw' n1; go_simp
      with_reducible refine hK _ ?_
      clear hK K
      simp only [Act.put, List.setIfInBounds_toArray, List.set_cons_zero, List.set_cons_succ]
      with_reducible refine wpQuiet_step (fun K hK => ?_)
      refine k_quiet_if (by kernel_rfl) ?_
      refine ⟨.bool false, fun w' hw' => ?_, ?_⟩
      · first | (go_simp; done) | (go_simp; decide) | (go_simp; omega)
      with_reducible refine hK _ ?_
      clear hK K
      simp only [Act.put, List.setIfInBounds_toArray, List.set_cons_zero, List.set_cons_succ]
      with_reducible refine wpQuiet_step (fun K hK => ?_)
      refine ⟨.bool false, fun w' hw' => ?_, ?_⟩
      · first | (go_simp; done) | (go_simp; decide) | (go_simp; omega)
      with_reducible refine hK _ ?_
      clear hK K
      simp only [Act.put, List.setIfInBounds_toArray, List.set_cons_zero, List.set_cons_succ]
      with_reducible refine wpQuiet_step (fun K hK => ?_)
      refine ⟨.bool false, fun w' hw' => ?_, ?_⟩
      · first | (go_simp; done) | (go_simp; decide) | (go_simp; omega)
      with_reducible refine hK _ ?_
      clear hK K
      simp only [Act.put, List.setIfInBounds_toArray, List.set_cons_zero, List.set_cons_succ]
      with_reducible refine wpQuiet_step (fun K hK => ?_)
      refine k_quiet_if (by kernel_rfl) ?_
      refine ⟨.pointer (some ⟨nb, 1, none⟩), fun w' hw' => ?_, ?_⟩
      · first | (go_simp; done) | (go_simp; decide) | (go_simp; omega)
      with_reducible refine hK _ ?_
      clear hK K
      simp only [Act.put, List.setIfInBounds_toArray, List.set_cons_zero, List.set_cons_succ]
      with_reducible refine wpQuiet_step (fun K hK => ?_)
      refine k_quiet_if (by kernel_rfl) ?_
      refine ⟨.int .i64 op, fun w' hw' => ?_, ?_⟩
      · have t0 := stay hw' n1; go_simp
      with_reducible refine hK _ ?_
      clear hK K
      simp only [Act.put, List.setIfInBounds_toArray, List.set_cons_zero, List.set_cons_succ]
      with_reducible refine wpQuiet_step (fun K hK => ?_)
      refine k_quiet_if (by kernel_rfl) ?_
      refine ⟨.bool false, fun w' hw' => ?_, ?_⟩
      · first | (go_simp; done) | (go_simp; decide) | (go_simp; omega)
      with_reducible refine hK _ ?_
      clear hK K
      simp only [Act.put, List.setIfInBounds_toArray, List.set_cons_zero, List.set_cons_succ]
      with_reducible refine wpQuiet_step (fun K hK => ?_)
      refine ⟨.bool false, fun w' hw' => ?_, ?_⟩
      · first | (go_simp; done) | (go_simp; decide) | (go_simp; omega)
      with_reducible refine hK _ ?_
      clear hK K
      simp only [Act.put, List.setIfInBounds_toArray, List.set_cons_zero, List.set_cons_succ]
      with_reducible refine wpQuiet_step (fun K hK => ?_)
      refine ⟨.bool false, fun w' hw' => ?_, ?_⟩
      · first | (go_simp; done) | (go_simp; decide) | (go_simp; omega)
      with_reducible refine hK _ ?_
      clear hK K
      simp only [Act.put, List.setIfInBounds_toArray, List.set_cons_zero, List.set_cons_succ]
      with_reducible refine wpQuiet_step (fun K hK => ?_)
      refine k_quiet_if (by kernel_rfl) ?_
      refine ⟨.pointer (some ⟨nb, 2, none⟩), fun w' hw' => ?_, ?_⟩
      · first | (go_simp; done) | (go_simp; decide) | (go_simp; omega)
      with_reducible refine hK _ ?_
      clear hK K
      simp only [Act.put, List.setIfInBounds_toArray, List.set_cons_zero, List.set_cons_succ]
      with_reducible refine wpQuiet_step (fun K hK => ?_)
      refine k_quiet_if (by kernel_rfl) ?_
      refine ⟨.agg #[.int .i64 k, .int .i64 x, .string s, .slice an ns.length cn, .slice ai its.length ci], fun w' hw' => ?_, ?_⟩
      · have t0 := stay hw' n2; have t1 := stay hw' n3; have t2 := stay hw' n4; have t3 := stay hw' n5; have t4 := stay hw' n6; go_simp
      with_reducible refine hK _ ?_
      clear hK K
      simp only [Act.put, List.setIfInBounds_toArray, List.set_cons_zero, List.set_cons_succ]
      with_reducible refine wpQuiet_step (fun K hK => ?_)
      refine k_quiet_if (by kernel_rfl) ?_
      refine ⟨.int .i64 ck, fun w' hw' => ?_, ?_⟩
      · go_simp
        refine ((hck w' hw').out).mono ?_
        rintro e w'' ⟨rfl, hb'⟩
        exact ⟨rfl, hw'.trans (hb'.mono hw'.size)⟩
      with_reducible refine hK _ ?_
      clear hK K
      simp only [Act.put, List.setIfInBounds_toArray, List.set_cons_zero, List.set_cons_succ]
      with_reducible refine wpQuiet_step (fun K hK => ?_)
      refine k_quiet_if (by kernel_rfl) ?_
      refine ⟨.bool true, fun w' hw' => ?_, ?_⟩
      · first | (go_simp; done) | (go_simp; decide) | (go_simp; omega)
      with_reducible refine hK _ ?_
      clear hK K
      simp only [Act.put, List.setIfInBounds_toArray, List.set_cons_zero, List.set_cons_succ]
      with_reducible refine wpQuiet_step (fun K hK => ?_)
      refine ⟨.bool true, fun w' hw' => ?_, ?_⟩
      · first | (go_simp; done) | (go_simp; decide) | (go_simp; omega)
      with_reducible refine hK _ ?_
      clear hK K
      simp only [Act.put, List.setIfInBounds_toArray, List.set_cons_zero, List.set_cons_succ]
      refine wpQuiet_nil ?_
      intro X1 hX1
      replace hB0 := hid_e (hB0.out.trans (hX1.mono hB0.out.size))
      clear hX1 hck n0 n1 n2 n3 n4 n5 n6 i0 i1 i2 i3 i4
      go_wp2_with fail
      go_ret
      exact ⟨by rw [← hrs.out, hfin.out]; rfl, hB0.out⟩
  · have hfin : Hid (servesS pt p op (.node k x s ns its) = false) := hid_e (by rw [hse.out, decide_eq_false hp]; rfl)
    have hpp := bytes_ne hp
    clear hse
    go_enter Tryz.func41, Tryz.ntmps41
    go_wp2_with (rw [hW1.out])
    rw [hnb.out]
    refine wp_region_quiet (C := fun w' => Below W1.heap.size W1 w') (by kernel_rfl) (by kernel_rfl) (below_drewN (Below.refl _ _) 1) ?_
    with_reducible refine wpQuiet_step (fun K hK => ?_)
    refine ⟨.pointer (some ⟨nb, 0, none⟩), fun w' hw' => ?_, ?_⟩
    · first | (go_simp; done) | (go_simp; decide) | (go_simp; omega)
    with_reducible refine hK _ ?_
    clear hK K
    simp only [Act.put, List.setIfInBounds_toArray, List.set_cons_zero, List.set_cons_succ]
    with_reducible refine wpQuiet_step (fun K hK => ?_)
    refine ⟨.string p, fun w' hw' => ?_, ?_⟩
    · have t0 := stay hw' n0; go_simp
    with_reducible refine hK _ ?_
    clear hK K
    simp only [Act.put, List.setIfInBounds_toArray, List.set_cons_zero, List.set_cons_succ]
    with_reducible refine wpQuiet_step (fun K hK => ?_)
    refine ⟨.pointer (some ⟨xb, 0, none⟩), fun w' hw' => ?_, ?_⟩
    · first | (go_simp; done) | (go_simp; decide) | (go_simp; omega)
    with_reducible refine hK _ ?_
    clear hK K
    simp only [Act.put, List.setIfInBounds_toArray, List.set_cons_zero, List.set_cons_succ]
    with_reducible refine wpQuiet_step (fun K hK => ?_)
    refine ⟨.pointer (some ⟨xb, 0, none⟩), fun w' hw' => ?_, ?_⟩
    · first | (go_simp; done) | (go_simp; decide) | (go_simp; omega)
    with_reducible refine hK _ ?_
    clear hK K
    simp only [Act.put, List.setIfInBounds_toArray, List.set_cons_zero, List.set_cons_succ]
    with_reducible refine wpQuiet_step (fun K hK => ?_)
    refine ⟨.pointer (some ⟨xb, 0, none⟩), fun w' hw' => ?_, ?_⟩
    · first | (go_simp; done) | (go_simp; decide) | (go_simp; omega)
    with_reducible refine hK _ ?_
    clear hK K
    simp only [Act.put, List.setIfInBounds_toArray, List.set_cons_zero, List.set_cons_succ]
    with_reducible refine wpQuiet_step (fun K hK => ?_)
    refine ⟨.pointer (some ⟨xb, 1, none⟩), fun w' hw' => ?_, ?_⟩
    · first | (go_simp; done) | (go_simp; decide) | (go_simp; omega)
    with_reducible refine hK _ ?_
    clear hK K
    simp only [Act.put, List.setIfInBounds_toArray, List.set_cons_zero, List.set_cons_succ]
    with_reducible refine wpQuiet_step (fun K hK => ?_)
    refine ⟨.string pt, fun w' hw' => ?_, ?_⟩
    · have t0 := stay hw' i1; go_simp
    with_reducible refine hK _ ?_
    clear hK K
    simp only [Act.put, List.setIfInBounds_toArray, List.set_cons_zero, List.set_cons_succ]
    with_reducible refine wpQuiet_step (fun K hK => ?_)
    refine ⟨.bool true, fun w' hw' => ?_, ?_⟩
    · first | (go_simp; done) | (go_simp; decide) | (go_simp; omega)
    with_reducible refine hK _ ?_
    clear hK K
    simp only [Act.put, List.setIfInBounds_toArray, List.set_cons_zero, List.set_cons_succ]
    with_reducible refine wpQuiet_step (fun K hK => ?_)
    refine ⟨.bool true, fun w' hw' => ?_, ?_⟩
    · first | (go_simp; done) | (go_simp; decide) | (go_simp; omega)
    with_reducible refine hK _ ?_
    clear hK K
    simp only [Act.put, List.setIfInBounds_toArray, List.set_cons_zero, List.set_cons_succ]
    with_reducible refine wpQuiet_step (fun K hK => ?_)
    refine k_quiet_else (by kernel_rfl) ?_
    with_reducible refine hK _ ?_
    clear hK K
    simp only [Act.put, List.setIfInBounds_toArray, List.set_cons_zero, List.set_cons_succ]
    with_reducible refine wpQuiet_step (fun K hK => ?_)
    refine k_quiet_else (by kernel_rfl) ?_
    with_reducible refine hK _ ?_
    clear hK K
    simp only [Act.put, List.setIfInBounds_toArray, List.set_cons_zero, List.set_cons_succ]
    with_reducible refine wpQuiet_step (fun K hK => ?_)
    refine k_quiet_else (by kernel_rfl) ?_
    with_reducible refine hK _ ?_
    clear hK K
    simp only [Act.put, List.setIfInBounds_toArray, List.set_cons_zero, List.set_cons_succ]
    with_reducible refine wpQuiet_step (fun K hK => ?_)
    refine ⟨.bool true, fun w' hw' => ?_, ?_⟩
    · first | (go_simp; done) | (go_simp; decide) | (go_simp; omega)
    with_reducible refine hK _ ?_
    clear hK K
    simp only [Act.put, List.setIfInBounds_toArray, List.set_cons_zero, List.set_cons_succ]
    with_reducible refine wpQuiet_step (fun K hK => ?_)
    refine ⟨.bool true, fun w' hw' => ?_, ?_⟩
    · first | (go_simp; done) | (go_simp; decide) | (go_simp; omega)
    with_reducible refine hK _ ?_
    clear hK K
    simp only [Act.put, List.setIfInBounds_toArray, List.set_cons_zero, List.set_cons_succ]
    with_reducible refine wpQuiet_step (fun K hK => ?_)
    refine k_quiet_else (by kernel_rfl) ?_
    with_reducible refine hK _ ?_
    clear hK K
    simp only [Act.put, List.setIfInBounds_toArray, List.set_cons_zero, List.set_cons_succ]
    with_reducible refine wpQuiet_step (fun K hK => ?_)
    refine k_quiet_else (by kernel_rfl) ?_
    with_reducible refine hK _ ?_
    clear hK K
    simp only [Act.put, List.setIfInBounds_toArray, List.set_cons_zero, List.set_cons_succ]
    with_reducible refine wpQuiet_step (fun K hK => ?_)
    refine k_quiet_else (by kernel_rfl) ?_
    with_reducible refine hK _ ?_
    clear hK K
    simp only [Act.put, List.setIfInBounds_toArray, List.set_cons_zero, List.set_cons_succ]
    with_reducible refine wpQuiet_step (fun K hK => ?_)
    refine ⟨.bool true, fun w' hw' => ?_, ?_⟩
    · first | (go_simp; done) | (go_simp; decide) | (go_simp; omega)
    with_reducible refine hK _ ?_
    clear hK K
    simp only [Act.put, List.setIfInBounds_toArray, List.set_cons_zero, List.set_cons_succ]
    with_reducible refine wpQuiet_step (fun K hK => ?_)
    refine ⟨.bool true, fun w' hw' => ?_, ?_⟩
    · first | (go_simp; done) | (go_simp; decide) | (go_simp; omega)
    with_reducible refine hK _ ?_
    clear hK K
    simp only [Act.put, List.setIfInBounds_toArray, List.set_cons_zero, List.set_cons_succ]
    with_reducible refine wpQuiet_step (fun K hK => ?_)
    refine k_quiet_else (by kernel_rfl) ?_
    with_reducible refine hK _ ?_
    clear hK K
    simp only [Act.put, List.setIfInBounds_toArray, List.set_cons_zero, List.set_cons_succ]
    with_reducible refine wpQuiet_step (fun K hK => ?_)
    refine k_quiet_else (by kernel_rfl) ?_
    with_reducible refine hK _ ?_
    clear hK K
    simp only [Act.put, List.setIfInBounds_toArray, List.set_cons_zero, List.set_cons_succ]
    with_reducible refine wpQuiet_step (fun K hK => ?_)
    refine k_quiet_else (by kernel_rfl) ?_
    with_reducible refine hK _ ?_
    clear hK K
    simp only [Act.put, List.setIfInBounds_toArray, List.set_cons_zero, List.set_cons_succ]
    with_reducible refine wpQuiet_step (fun K hK => ?_)
    refine k_quiet_else (by kernel_rfl) ?_
    with_reducible refine hK _ ?_
    clear hK K
    simp only [Act.put, List.setIfInBounds_toArray, List.set_cons_zero, List.set_cons_succ]
    with_reducible refine wpQuiet_step (fun K hK => ?_)
    refine ⟨.bool true, fun w' hw' => ?_, ?_⟩
    · first | (go_simp; done) | (go_simp; decide) | (go_simp; omega)
    with_reducible refine hK _ ?_
    clear hK K
    simp only [Act.put, List.setIfInBounds_toArray, List.set_cons_zero, List.set_cons_succ]
    refine wpQuiet_nil ?_
    intro X1 hX1
    replace hB0 := hid_e (hB0.out.trans (hX1.mono hB0.out.size))
    clear hX1 hck n0 n1 n2 n3 n4 n5 n6 i0 i1 i2 i3 i4
    go_wp2_with fail
    go_ret
    exact ⟨by rw [← hrs.out, hfin.out]; rfl, hB0.out⟩
end Go.Proofs.YtnlljodmkacmlaaGreatDoor.Chk
