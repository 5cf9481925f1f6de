import Derived.Test.YtnlljodmkacmlaaGreatDoorKG
import Derived.Test.YtnlljodmkacmlaaGreatDoorJP
import Derived.BigQuiet
import Derived.Deep.QuietTactic
/-! Serves: the code. -/
namespace Go.Proofs.YtnlljodmkacmlaaGreatDoor.Chk
open Go Go.RowKit

theorem items_keep {w w' : World} {a : Option Addr} {its : List Tr} (h : ItemsAt' w a its) (hb : Below w.heap.size w w') : ItemsAt' w' a its := by
  rcases h with h | ⟨b, o, h1, h2, h3⟩
  · exact .inl h
  · exact .inr ⟨b, o, h1, Nat.lt_of_lt_of_le h2 hb.size, VRepL.keep hb h2 o its h3⟩
theorem need7 {w : World} {b : Nat} {x0 x1 x2 x3 x4 x5 x6 : Value} {t : TypeId} (h : w.heap[b]? = some (.cells #[x0, x1, x2, x3, x4, x5, x6] t (0, 0))) : w.cell? ⟨b, 0, none⟩ = some x0 ∧ w.cell? ⟨b, 1, none⟩ = some x1 ∧ w.cell? ⟨b, 2, none⟩ = some x2 ∧ w.cell? ⟨b, 3, none⟩ = some x3 ∧ w.cell? ⟨b, 4, none⟩ = some x4 ∧ w.cell? ⟨b, 5, none⟩ = some x5 ∧ w.cell? ⟨b, 6, none⟩ = some x6 := by
  simp [World.cell?, h]
theorem toList_data (a : ByteArray) : a.toList = a.data.toList := by rw [ByteArray.toList_eq]
theorem bytes_ext {a b : ByteArray} (h : a.toList = b.toList) : a = b := by
  rw [toList_data, toList_data] at h
  cases a; cases b; congr; exact Array.toList_inj.1 h
theorem bytes_ne {a b : ByteArray} (h : a ≠ b) : (a.toList == b.toList) = false := by
  cases e : (a.toList == b.toList) with
  | false => rfl
  | true => exact absurd (bytes_ext (by simpa using e)) h
set_option maxHeartbeats 4000000 in
set_option maxRecDepth 100000 in
theorem serves_any (xb : Nat) (nm pt : ByteArray) (un : Bool) (pv ev kv : Value) (p : ByteArray) (op k x : Int) (s : ByteArray) (ns : List ByteArray) (its : List Tr) (an : Option Addr) (cn : Nat) (ai : Option Addr) (ci : Nat) (w : World) (hX : IxAt w xb nm pt un pv ev kv)
    (hI : ItemsAt' w ai its) (hl : its.length ≤ 4611686018427387904) (ck : Int) (hck0 : checkT 0 (.node k x s ns its) = ck)
    (hck : ∀ W, Below w.heap.size w W → Calls Tryz.prog 26 #[.agg #[.int .i64 k, .int .i64 x, .string s, .slice an ns.length cn, .slice ai its.length ci]] W fun e w' => e = .returned (.int .i64 ck) ∧ Below W.heap.size W w') :
    Calls Tryz.prog 14 #[.pointer (some ⟨xb, 0, none⟩), .agg #[.string p, .int .i64 op, .int .i64 k, .int .i64 x, .string s, .slice an ns.length cn, .slice ai its.length ci]] w fun e w' => e = .returned (.bool (servesS pt p op (.node k x s ns its))) ∧ Below w.heap.size w w' := by
  have hB0 := (Below.refl _ w).alloc (Nat.le_refl _) (.cells #[.string p, .int .i64 op, .int .i64 k, .int .i64 x, .string s, .slice an ns.length cn, .slice ai its.length ci] 30)
  have hnew := heap_alloc_new w (.cells #[.string p, .int .i64 op, .int .i64 k, .int .i64 x, .string s, .slice an ns.length cn, .slice ai its.length ci] 30)
  obtain ⟨W1, hW1⟩ : ∃ W1, Hid (w.alloc (.cells #[.string p, .int .i64 op, .int .i64 k, .int .i64 x, .string s, .slice an ns.length cn, .slice ai its.length ci] 30) = W1) := ⟨_, hid_e rfl⟩
  rw [hW1.out] at hB0 hnew
  obtain ⟨nb, hnb⟩ : ∃ n, Hid (w.heap.size = n) := ⟨_, hid_e rfl⟩
  rw [hnb.out] at hnew
  obtain ⟨n0, n1, n2, n3, n4, n5, n6⟩ := need7 hnew
  obtain ⟨i0, i1, i2, i3, i4, i5⟩ := (hX.keep hB0).cells
  replace hck := fun W (hW : Below W1.heap.size W1 W) => hid_e (hck W (hB0.trans (hW.mono hB0.size)))
  replace hI := hid_e hI
  replace hB0 := hid_e hB0
  obtain ⟨rs, hrs⟩ : ∃ r, Hid (servesS pt p op (.node k x s ns its) = r) := ⟨_, hid_e rfl⟩
  rw [hrs.out]
  by_cases hp : p = pt
  · have hpe : Hid (p = pt) := hid_e hp
    have hse : Hid (servesS pt p op (.node k x s ns its) = (decide (ck = 0) && (if op = 1 then !decide (k = 0) else if op = 6 then decide (k = 5) && !hasNull its else decide (2 ≤ op ∧ op ≤ 5)))) := hid_e (by unfold servesS; rw [hck0, decide_eq_true hp]; rfl)
    have i1' := i1
    rw [← hp] at i1
    have hpp : (p.toList == p.toList) = true := by simp
    clear hp i1' hck0 hX
    by_cases hc : ck = 0
    · subst hc
      go_enter Tryz.func14, Tryz.ntmps14
      go_wp2_with (rw [hW1.out])
      rw [hnb.out]
      refine wp_region_quiet (C := fun w' => Below W1.heap.size W1 w') (by kernel_rfl) (by kernel_rfl) (below_drewN (Below.refl _ _) 1) ?_
      with_reducible refine wpQuiet_step (fun K hK => ?_)
      refine ⟨.pointer (some ⟨xb, 0, none⟩), fun w' hw' => ?_, ?_⟩
      · first | (go_simp; done) | (go_simp; decide) | (go_simp; omega)
      with_reducible refine hK _ ?_
      clear hK K
      simp only [Act.put, List.setIfInBounds_toArray, List.set_cons_zero, List.set_cons_succ]
      with_reducible refine wpQuiet_step (fun K hK => ?_)
      refine ⟨.bool false, fun w' hw' => ?_, ?_⟩
      · first | (go_simp; done) | (go_simp; decide) | (go_simp; omega)
      with_reducible refine hK _ ?_
      clear hK K
      simp only [Act.put, List.setIfInBounds_toArray, List.set_cons_zero, List.set_cons_succ]
      with_reducible refine wpQuiet_step (fun K hK => ?_)
      refine ⟨.bool false, fun w' hw' => ?_, ?_⟩
      · first | (go_simp; done) | (go_simp; decide) | (go_simp; omega)
      with_reducible refine hK _ ?_
      clear hK K
      simp only [Act.put, List.setIfInBounds_toArray, List.set_cons_zero, List.set_cons_succ]
      with_reducible refine wpQuiet_step (fun K hK => ?_)
      refine k_quiet_if (by kernel_rfl) ?_
      refine ⟨.pointer (some ⟨nb, 0, none⟩), fun w' hw' => ?_, ?_⟩
      · first | (go_simp; done) | (go_simp; decide) | (go_simp; omega)
      with_reducible refine hK _ ?_
      clear hK K
      simp only [Act.put, List.setIfInBounds_toArray, List.set_cons_zero, List.set_cons_succ]
      with_reducible refine wpQuiet_step (fun K hK => ?_)
      refine k_quiet_if (by kernel_rfl) ?_
      refine ⟨.string p, fun w' hw' => ?_, ?_⟩
      · have t0 := stay hw' n0; go_simp
      with_reducible refine hK _ ?_
      clear hK K
      simp only [Act.put, List.setIfInBounds_toArray, List.set_cons_zero, List.set_cons_succ]
      with_reducible refine wpQuiet_step (fun K hK => ?_)
      refine k_quiet_if (by kernel_rfl) ?_
      refine ⟨.pointer (some ⟨xb, 0, none⟩), fun w' hw' => ?_, ?_⟩
      · first | (go_simp; done) | (go_simp; decide) | (go_simp; omega)
      with_reducible refine hK _ ?_
      clear hK K
      simp only [Act.put, List.setIfInBounds_toArray, List.set_cons_zero, List.set_cons_succ]
      with_reducible refine wpQuiet_step (fun K hK => ?_)
      refine k_quiet_if (by kernel_rfl) ?_
      refine ⟨.pointer (some ⟨xb, 0, none⟩), fun w' hw' => ?_, ?_⟩
      · first | (go_simp; done) | (go_simp; decide) | (go_simp; omega)
      with_reducible refine hK _ ?_
      clear hK K
      simp only [Act.put, List.setIfInBounds_toArray, List.set_cons_zero, List.set_cons_succ]
      with_reducible refine wpQuiet_step (fun K hK => ?_)
      refine k_quiet_if (by kernel_rfl) ?_
      refine ⟨.pointer (some ⟨xb, 0, none⟩), fun w' hw' => ?_, ?_⟩
      · first | (go_simp; done) | (go_simp; decide) | (go_simp; omega)
      with_reducible refine hK _ ?_
      clear hK K
      simp only [Act.put, List.setIfInBounds_toArray, List.set_cons_zero, List.set_cons_succ]
      with_reducible refine wpQuiet_step (fun K hK => ?_)
      refine k_quiet_if (by kernel_rfl) ?_
      refine ⟨.pointer (some ⟨xb, 1, none⟩), fun w' hw' => ?_, ?_⟩
      · first | (go_simp; done) | (go_simp; decide) | (go_simp; omega)
      with_reducible refine hK _ ?_
      clear hK K
      simp only [Act.put, List.setIfInBounds_toArray, List.set_cons_zero, List.set_cons_succ]
      with_reducible refine wpQuiet_step (fun K hK => ?_)
      refine k_quiet_if (by kernel_rfl) ?_
      refine ⟨.string p, fun w' hw' => ?_, ?_⟩
      · have t0 := stay hw' i1; go_simp
      with_reducible refine hK _ ?_
      clear hK K
      simp only [Act.put, List.setIfInBounds_toArray, List.set_cons_zero, List.set_cons_succ]
      with_reducible refine wpQuiet_step (fun K hK => ?_)
      refine k_quiet_if (by kernel_rfl) ?_
      refine ⟨.bool false, fun w' hw' => ?_, ?_⟩
      · first | (go_simp; done) | (go_simp; decide) | (go_simp; omega)
      with_reducible refine hK _ ?_
      clear hK K
      simp only [Act.put, List.setIfInBounds_toArray, List.set_cons_zero, List.set_cons_succ]
      with_reducible refine wpQuiet_step (fun K hK => ?_)
      refine ⟨.bool false, fun w' hw' => ?_, ?_⟩
      · first | (go_simp; done) | (go_simp; decide) | (go_simp; omega)
      with_reducible refine hK _ ?_
      clear hK K
      simp only [Act.put, List.setIfInBounds_toArray, List.set_cons_zero, List.set_cons_succ]
      with_reducible refine wpQuiet_step (fun K hK => ?_)
      refine ⟨.bool false, fun w' hw' => ?_, ?_⟩
      · first | (go_simp; done) | (go_simp; decide) | (go_simp; omega)
      with_reducible refine hK _ ?_
      clear hK K
      simp only [Act.put, List.setIfInBounds_toArray, List.set_cons_zero, List.set_cons_succ]
      with_reducible refine wpQuiet_step (fun K hK => ?_)
      refine k_quiet_if (by kernel_rfl) ?_
      refine ⟨.pointer (some ⟨nb, 2, none⟩), fun w' hw' => ?_, ?_⟩
      · first | (go_simp; done) | (go_simp; decide) | (go_simp; omega)
      with_reducible refine hK _ ?_
      clear hK K
      simp only [Act.put, List.setIfInBounds_toArray, List.set_cons_zero, List.set_cons_succ]
      with_reducible refine wpQuiet_step (fun K hK => ?_)
      refine k_quiet_if (by kernel_rfl) ?_
      refine ⟨.agg #[.int .i64 k, .int .i64 x, .string s, .slice an ns.length cn, .slice ai its.length ci], fun w' hw' => ?_, ?_⟩
      · have t0 := stay hw' n2; have t1 := stay hw' n3; have t2 := stay hw' n4; have t3 := stay hw' n5; have t4 := stay hw' n6; go_simp
      with_reducible refine hK _ ?_
      clear hK K
      simp only [Act.put, List.setIfInBounds_toArray, List.set_cons_zero, List.set_cons_succ]
      with_reducible refine wpQuiet_step (fun K hK => ?_)
      refine k_quiet_if (by kernel_rfl) ?_
      refine ⟨.int .i64 0, fun w' hw' => ?_, ?_⟩
      · go_simp
        refine ((hck w' hw').out).mono ?_
        rintro e w'' ⟨rfl, hb'⟩
        exact ⟨rfl, hw'.trans (hb'.mono hw'.size)⟩
      with_reducible refine hK _ ?_
      clear hK K
      simp only [Act.put, List.setIfInBounds_toArray, List.set_cons_zero, List.set_cons_succ]
      with_reducible refine wpQuiet_step (fun K hK => ?_)
      refine k_quiet_if (by kernel_rfl) ?_
      refine ⟨.bool false, fun w' hw' => ?_, ?_⟩
      · first | (go_simp; done) | (go_simp; decide) | (go_simp; omega)
      with_reducible refine hK _ ?_
      clear hK K
      simp only [Act.put, List.setIfInBounds_toArray, List.set_cons_zero, List.set_cons_succ]
      with_reducible refine wpQuiet_step (fun K hK => ?_)
      refine ⟨.bool false, fun w' hw' => ?_, ?_⟩
      · first | (go_simp; done) | (go_simp; decide) | (go_simp; omega)
      with_reducible refine hK _ ?_
      clear hK K
      simp only [Act.put, List.setIfInBounds_toArray, List.set_cons_zero, List.set_cons_succ]
      refine wpQuiet_nil ?_
      intro X1 hX1
      have hB1 := hid_e (hB0.out.trans (hX1.mono hB0.out.size))
      replace n1 := Chk.stay hX1 n1
      replace n2 := Chk.stay hX1 n2
      replace n3 := Chk.stay hX1 n3
      replace n4 := Chk.stay hX1 n4
      replace n5 := Chk.stay hX1 n5
      replace n6 := Chk.stay hX1 n6
      clear hX1 hck n0 i0 i1 i2 i3 i4 i5 hpp hW1 hB0
      by_cases h1 : op = 1
      · subst h1
        go_wp2_with fail
        refine (isnull_any k x s an ns.length cn ai its.length ci _).mono ?_
        rintro e X2 ⟨rfl, hX2⟩
        replace hB1 := hid_e (hB1.out.trans (hX2.mono hB1.out.size))
        clear hX2 n1 n2 n3 n4 n5 n6
        go_wp2_with fail
        go_ret
        exact ⟨by rw [← hrs.out, hse.out]; simp, hB1.out⟩
      · have h1' : (op == 1) = false := by simpa using h1
        by_cases h6 : op = 6
        · subst h6
          clear h1'
          by_cases h5 : k = 5
          · subst h5
            have hcn := hid_e (connull ai ci its X1 (items_keep hI.out hB1.out) hl)
            go_wp2_with fail
            refine hcn.out.mono ?_
            rintro e X2 ⟨rfl, hX2⟩
            replace hB1 := hid_e (hB1.out.trans (hX2.mono hB1.out.size))
            clear hX2 n1 n2 n3 n4 n5 n6 hcn
            go_wp2_with fail
            go_ret
            exact ⟨by rw [← hrs.out, hse.out]; simp, hB1.out⟩
          · have h5' : (k == 5) = false := by simpa using h5
            go_wp2_with fail
            go_ret
            exact ⟨by rw [← hrs.out, hse.out]; simp [h5], hB1.out⟩
        · have h6' : (op == 6) = false := by simpa using h6
          by_cases h2 : op = 2
          · subst h2
            go_wp2_with fail
            go_ret
            exact ⟨by rw [← hrs.out, hse.out]; simp, hB1.out⟩
          by_cases h3 : op = 3
          · subst h3
            go_wp2_with fail
            go_ret
            exact ⟨by rw [← hrs.out, hse.out]; simp, hB1.out⟩
          by_cases h4 : op = 4
          · subst h4
            go_wp2_with fail
            go_ret
            exact ⟨by rw [← hrs.out, hse.out]; simp, hB1.out⟩
          by_cases h5 : op = 5
          · subst h5
            go_wp2_with fail
            go_ret
            exact ⟨by rw [← hrs.out, hse.out]; simp, hB1.out⟩
          have h2' : (op == 2) = false := by simpa using h2
          have h3' : (op == 3) = false := by simpa using h3
          have h4' : (op == 4) = false := by simpa using h4
          have h5' : (op == 5) = false := by simpa using h5
          have hno : Hid ((decide ((0 : Int) = 0) && (if op = 1 then !decide (k = 0) else if op = 6 then decide (k = 5) && !hasNull its else decide (2 ≤ op ∧ op ≤ 5))) = false) := hid_e (by rw [if_neg h1, if_neg h6, decide_eq_false (by omega : ¬ (2 ≤ op ∧ op ≤ 5))]; rfl)
          clear h1 h6 h2 h3 h4 h5
          go_wp2_with fail
          go_ret
          exact ⟨by rw [← hrs.out, hse.out, hno.out]; rfl, hB1.out⟩
    · have hcn : (ck != 0) = true := by simpa using hc
      have hfin : Hid ((decide (ck = 0) && (if op = 1 then !decide (k = 0) else if op = 6 then decide (k = 5) && !hasNull its else decide (2 ≤ op ∧ op ≤ 5))) = false) := hid_e (by simp [hc])
      clear hc
      go_enter Tryz.func14, Tryz.ntmps14
      go_wp2_with (rw [hW1.out])
      rw [hnb.out]
      refine wp_region_quiet (C := fun w' => Below W1.heap.size W1 w') (by kernel_rfl) (by kernel_rfl) (below_drewN (Below.refl _ _) 1) ?_
      with_reducible refine wpQuiet_step (fun K hK => ?_)
      refine ⟨.pointer (some ⟨xb, 0, none⟩), fun w' hw' => ?_, ?_⟩
      · first | (go_simp; done) | (go_simp; decide) | (go_simp; omega)
      with_reducible refine hK _ ?_
      clear hK K
      simp only [Act.put, List.setIfInBounds_toArray, List.set_cons_zero, List.set_cons_succ]
      with_reducible refine wpQuiet_step (fun K hK => ?_)
      refine ⟨.bool false, fun w' hw' => ?_, ?_⟩
      · first | (go_simp; done) | (go_simp; decide) | (go_simp; omega)
      with_reducible refine hK _ ?_
      clear hK K
      simp only [Act.put, List.setIfInBounds_toArray, List.set_cons_zero, List.set_cons_succ]
      with_reducible refine wpQuiet_step (fun K hK => ?_)
      refine ⟨.bool false, fun w' hw' => ?_, ?_⟩
      · first | (go_simp; done) | (go_simp; decide) | (go_simp; omega)
      with_reducible refine hK _ ?_
      clear hK K
      simp only [Act.put, List.setIfInBounds_toArray, List.set_cons_zero, List.set_cons_succ]
      with_reducible refine wpQuiet_step (fun K hK => ?_)
      refine k_quiet_if (by kernel_rfl) ?_
      refine ⟨.pointer (some ⟨nb, 0, none⟩), fun w' hw' => ?_, ?_⟩
      · first | (go_simp; done) | (go_simp; decide) | (go_simp; omega)
      with_reducible refine hK _ ?_
      clear hK K
      simp only [Act.put, List.setIfInBounds_toArray, List.set_cons_zero, List.set_cons_succ]
      with_reducible refine wpQuiet_step (fun K hK => ?_)
      refine k_quiet_if (by kernel_rfl) ?_
      refine ⟨.string p, fun w' hw' => ?_, ?_⟩
      · have t0 := stay hw' n0; go_simp
      with_reducible refine hK _ ?_
      clear hK K
      simp only [Act.put, List.setIfInBounds_toArray, List.set_cons_zero, List.set_cons_succ]
      with_reducible refine wpQuiet_step (fun K hK => ?_)
      refine k_quiet_if (by kernel_rfl) ?_
      refine ⟨.pointer (some ⟨xb, 0, none⟩), fun w' hw' => ?_, ?_⟩
      · first | (go_simp; done) | (go_simp; decide) | (go_simp; omega)
      with_reducible refine hK _ ?_
      clear hK K
      simp only [Act.put, List.setIfInBounds_toArray, List.set_cons_zero, List.set_cons_succ]
      with_reducible refine wpQuiet_step (fun K hK => ?_)
      refine k_quiet_if (by kernel_rfl) ?_
      refine ⟨.pointer (some ⟨xb, 0, none⟩), fun w' hw' => ?_, ?_⟩
      · first | (go_simp; done) | (go_simp; decide) | (go_simp; omega)
      with_reducible refine hK _ ?_
      clear hK K
      simp only [Act.put, List.setIfInBounds_toArray, List.set_cons_zero, List.set_cons_succ]
      with_reducible refine wpQuiet_step (fun K hK => ?_)
      refine k_quiet_if (by kernel_rfl) ?_
      refine ⟨.pointer (some ⟨xb, 0, none⟩), fun w' hw' => ?_, ?_⟩
      · first | (go_simp; done) | (go_simp; decide) | (go_simp; omega)
      with_reducible refine hK _ ?_
      clear hK K
      simp only [Act.put, List.setIfInBounds_toArray, List.set_cons_zero, List.set_cons_succ]
      with_reducible refine wpQuiet_step (fun K hK => ?_)
      refine k_quiet_if (by kernel_rfl) ?_
      refine ⟨.pointer (some ⟨xb, 1, none⟩), fun w' hw' => ?_, ?_⟩
      · first | (go_simp; done) | (go_simp; decide) | (go_simp; omega)
      with_reducible refine hK _ ?_
      clear hK K
      simp only [Act.put, List.setIfInBounds_toArray, List.set_cons_zero, List.set_cons_succ]
      with_reducible refine wpQuiet_step (fun K hK => ?_)
      refine k_quiet_if (by kernel_rfl) ?_
      refine ⟨.string p, fun w' hw' => ?_, ?_⟩
      · have t0 := stay hw' i1; go_simp
      with_reducible refine hK _ ?_
      clear hK K
      simp only [Act.put, List.setIfInBounds_toArray, List.set_cons_zero, List.set_cons_succ]
      with_reducible refine wpQuiet_step (fun K hK => ?_)
      refine k_quiet_if (by kernel_rfl) ?_
      refine ⟨.bool false, fun w' hw' => ?_, ?_⟩
      · first | (go_simp; done) | (go_simp; decide) | (go_simp; omega)
      with_reducible refine hK _ ?_
      clear hK K
      simp only [Act.put, List.setIfInBounds_toArray, List.set_cons_zero, List.set_cons_succ]
      with_reducible refine wpQuiet_step (fun K hK => ?_)
      refine ⟨.bool false, fun w' hw' => ?_, ?_⟩
      · first | (go_simp; done) | (go_simp; decide) | (go_simp; omega)
      with_reducible refine hK _ ?_
      clear hK K
      simp only [Act.put, List.setIfInBounds_toArray, List.set_cons_zero, List.set_cons_succ]
      with_reducible refine wpQuiet_step (fun K hK => ?_)
      refine ⟨.bool false, fun w' hw' => ?_, ?_⟩
      · first | (go_simp; done) | (go_simp; decide) | (go_simp; omega)
      with_reducible refine hK _ ?_
      clear hK K
      simp only [Act.put, List.setIfInBounds_toArray, List.set_cons_zero, List.set_cons_succ]
      with_reducible refine wpQuiet_step (fun K hK => ?_)
      refine k_quiet_if (by kernel_rfl) ?_
      refine ⟨.pointer (some ⟨nb, 2, none⟩), fun w' hw' => ?_, ?_⟩
      · first | (go_simp; done) | (go_simp; decide) | (go_simp; omega)
      with_reducible refine hK _ ?_
      clear hK K
      simp only [Act.put, List.setIfInBounds_toArray, List.set_cons_zero, List.set_cons_succ]
      with_reducible refine wpQuiet_step (fun K hK => ?_)
      refine k_quiet_if (by kernel_rfl) ?_
      refine ⟨.agg #[.int .i64 k, .int .i64 x, .string s, .slice an ns.length cn, .slice ai its.length ci], fun w' hw' => ?_, ?_⟩
      · have t0 := stay hw' n2; have t1 := stay hw' n3; have t2 := stay hw' n4; have t3 := stay hw' n5; have t4 := stay hw' n6; go_simp
      with_reducible refine hK _ ?_
      clear hK K
      simp only [Act.put, List.setIfInBounds_toArray, List.set_cons_zero, List.set_cons_succ]
      with_reducible refine wpQuiet_step (fun K hK => ?_)
      refine k_quiet_if (by kernel_rfl) ?_
      refine ⟨.int .i64 ck, fun w' hw' => ?_, ?_⟩
      · go_simp
        refine ((hck w' hw').out).mono ?_
        rintro e w'' ⟨rfl, hb'⟩
        exact ⟨rfl, hw'.trans (hb'.mono hw'.size)⟩
      with_reducible refine hK _ ?_
      clear hK K
      simp only [Act.put, List.setIfInBounds_toArray, List.set_cons_zero, List.set_cons_succ]
      with_reducible refine wpQuiet_step (fun K hK => ?_)
      refine k_quiet_if (by kernel_rfl) ?_
      refine ⟨.bool true, fun w' hw' => ?_, ?_⟩
      · first | (go_simp; done) | (go_simp; decide) | (go_simp; omega)
      with_reducible refine hK _ ?_
      clear hK K
      simp only [Act.put, List.setIfInBounds_toArray, List.set_cons_zero, List.set_cons_succ]
      with_reducible refine wpQuiet_step (fun K hK => ?_)
      refine ⟨.bool true, fun w' hw' => ?_, ?_⟩
      · first | (go_simp; done) | (go_simp; decide) | (go_simp; omega)
      with_reducible refine hK _ ?_
      clear hK K
      simp only [Act.put, List.setIfInBounds_toArray, List.set_cons_zero, List.set_cons_succ]
      refine wpQuiet_nil ?_
      intro X1 hX1
      replace hB0 := hid_e (hB0.out.trans (hX1.mono hB0.out.size))
      clear hX1 hck n0 n1 n2 n3 n4 n5 n6 i0 i1 i2 i3 i4 i5 hpp
      go_wp2_with fail
      go_ret
      exact ⟨by rw [← hrs.out, hse.out, hfin.out]; rfl, hB0.out⟩
  · have hse : Hid (servesS pt p op (.node k x s ns its) = false) := hid_e (by unfold servesS; rw [decide_eq_false hp]; rfl)
    have hpp := bytes_ne hp
    have hpq : ¬ p = pt := hp
    clear hck0 hX
    go_enter Tryz.func14, Tryz.ntmps14
    go_wp2_with (rw [hW1.out])
    rw [hnb.out]
    refine wp_region_quiet (C := fun w' => Below W1.heap.size W1 w') (by kernel_rfl) (by kernel_rfl) (below_drewN (Below.refl _ _) 1) ?_
    with_reducible refine wpQuiet_step (fun K hK => ?_)
    refine ⟨.pointer (some ⟨xb, 0, none⟩), fun w' hw' => ?_, ?_⟩
    · first | (go_simp; done) | (go_simp; decide) | (go_simp; omega)
    with_reducible refine hK _ ?_
    clear hK K
    simp only [Act.put, List.setIfInBounds_toArray, List.set_cons_zero, List.set_cons_succ]
    with_reducible refine wpQuiet_step (fun K hK => ?_)
    refine ⟨.bool false, fun w' hw' => ?_, ?_⟩
    · first | (go_simp; done) | (go_simp; decide) | (go_simp; omega)
    with_reducible refine hK _ ?_
    clear hK K
    simp only [Act.put, List.setIfInBounds_toArray, List.set_cons_zero, List.set_cons_succ]
    with_reducible refine wpQuiet_step (fun K hK => ?_)
    refine ⟨.bool false, fun w' hw' => ?_, ?_⟩
    · first | (go_simp; done) | (go_simp; decide) | (go_simp; omega)
    with_reducible refine hK _ ?_
    clear hK K
    simp only [Act.put, List.setIfInBounds_toArray, List.set_cons_zero, List.set_cons_succ]
    with_reducible refine wpQuiet_step (fun K hK => ?_)
    refine k_quiet_if (by kernel_rfl) ?_
    refine ⟨.pointer (some ⟨nb, 0, none⟩), fun w' hw' => ?_, ?_⟩
    · first | (go_simp; done) | (go_simp; decide) | (go_simp; omega)
    with_reducible refine hK _ ?_
    clear hK K
    simp only [Act.put, List.setIfInBounds_toArray, List.set_cons_zero, List.set_cons_succ]
    with_reducible refine wpQuiet_step (fun K hK => ?_)
    refine k_quiet_if (by kernel_rfl) ?_
    refine ⟨.string p, fun w' hw' => ?_, ?_⟩
    · have t0 := stay hw' n0; go_simp
    with_reducible refine hK _ ?_
    clear hK K
    simp only [Act.put, List.setIfInBounds_toArray, List.set_cons_zero, List.set_cons_succ]
    with_reducible refine wpQuiet_step (fun K hK => ?_)
    refine k_quiet_if (by kernel_rfl) ?_
    refine ⟨.pointer (some ⟨xb, 0, none⟩), fun w' hw' => ?_, ?_⟩
    · first | (go_simp; done) | (go_simp; decide) | (go_simp; omega)
    with_reducible refine hK _ ?_
    clear hK K
    simp only [Act.put, List.setIfInBounds_toArray, List.set_cons_zero, List.set_cons_succ]
    with_reducible refine wpQuiet_step (fun K hK => ?_)
    refine k_quiet_if (by kernel_rfl) ?_
    refine ⟨.pointer (some ⟨xb, 0, none⟩), fun w' hw' => ?_, ?_⟩
    · first | (go_simp; done) | (go_simp; decide) | (go_simp; omega)
    with_reducible refine hK _ ?_
    clear hK K
    simp only [Act.put, List.setIfInBounds_toArray, List.set_cons_zero, List.set_cons_succ]
    with_reducible refine wpQuiet_step (fun K hK => ?_)
    refine k_quiet_if (by kernel_rfl) ?_
    refine ⟨.pointer (some ⟨xb, 0, none⟩), fun w' hw' => ?_, ?_⟩
    · first | (go_simp; done) | (go_simp; decide) | (go_simp; omega)
    with_reducible refine hK _ ?_
    clear hK K
    simp only [Act.put, List.setIfInBounds_toArray, List.set_cons_zero, List.set_cons_succ]
    with_reducible refine wpQuiet_step (fun K hK => ?_)
    refine k_quiet_if (by kernel_rfl) ?_
    refine ⟨.pointer (some ⟨xb, 1, none⟩), fun w' hw' => ?_, ?_⟩
    · first | (go_simp; done) | (go_simp; decide) | (go_simp; omega)
    with_reducible refine hK _ ?_
    clear hK K
    simp only [Act.put, List.setIfInBounds_toArray, List.set_cons_zero, List.set_cons_succ]
    with_reducible refine wpQuiet_step (fun K hK => ?_)
    refine k_quiet_if (by kernel_rfl) ?_
    refine ⟨.string pt, fun w' hw' => ?_, ?_⟩
    · have t0 := stay hw' i1; go_simp
    with_reducible refine hK _ ?_
    clear hK K
    simp only [Act.put, List.setIfInBounds_toArray, List.set_cons_zero, List.set_cons_succ]
    with_reducible refine wpQuiet_step (fun K hK => ?_)
    refine k_quiet_if (by kernel_rfl) ?_
    refine ⟨.bool true, fun w' hw' => ?_, ?_⟩
    · first | (go_simp; done) | (go_simp; decide) | (go_simp; omega)
    with_reducible refine hK _ ?_
    clear hK K
    simp only [Act.put, List.setIfInBounds_toArray, List.set_cons_zero, List.set_cons_succ]
    with_reducible refine wpQuiet_step (fun K hK => ?_)
    refine ⟨.bool true, fun w' hw' => ?_, ?_⟩
    · first | (go_simp; done) | (go_simp; decide) | (go_simp; omega)
    with_reducible refine hK _ ?_
    clear hK K
    simp only [Act.put, List.setIfInBounds_toArray, List.set_cons_zero, List.set_cons_succ]
    with_reducible refine wpQuiet_step (fun K hK => ?_)
    refine ⟨.bool true, fun w' hw' => ?_, ?_⟩
    · first | (go_simp; done) | (go_simp; decide) | (go_simp; omega)
    with_reducible refine hK _ ?_
    clear hK K
    simp only [Act.put, List.setIfInBounds_toArray, List.set_cons_zero, List.set_cons_succ]
    with_reducible refine wpQuiet_step (fun K hK => ?_)
    refine k_quiet_else (by kernel_rfl) ?_
    with_reducible refine hK _ ?_
    clear hK K
    simp only [Act.put, List.setIfInBounds_toArray, List.set_cons_zero, List.set_cons_succ]
    with_reducible refine wpQuiet_step (fun K hK => ?_)
    refine k_quiet_else (by kernel_rfl) ?_
    with_reducible refine hK _ ?_
    clear hK K
    simp only [Act.put, List.setIfInBounds_toArray, List.set_cons_zero, List.set_cons_succ]
    with_reducible refine wpQuiet_step (fun K hK => ?_)
    refine k_quiet_else (by kernel_rfl) ?_
    with_reducible refine hK _ ?_
    clear hK K
    simp only [Act.put, List.setIfInBounds_toArray, List.set_cons_zero, List.set_cons_succ]
    with_reducible refine wpQuiet_step (fun K hK => ?_)
    refine k_quiet_else (by kernel_rfl) ?_
    with_reducible refine hK _ ?_
    clear hK K
    simp only [Act.put, List.setIfInBounds_toArray, List.set_cons_zero, List.set_cons_succ]
    with_reducible refine wpQuiet_step (fun K hK => ?_)
    refine ⟨.bool true, fun w' hw' => ?_, ?_⟩
    · first | (go_simp; done) | (go_simp; decide) | (go_simp; omega)
    with_reducible refine hK _ ?_
    clear hK K
    simp only [Act.put, List.setIfInBounds_toArray, List.set_cons_zero, List.set_cons_succ]
    refine wpQuiet_nil ?_
    intro X1 hX1
    replace hB0 := hid_e (hB0.out.trans (hX1.mono hB0.out.size))
    clear hX1 hck n0 n1 n2 n3 n4 n5 n6 i0 i1 i2 i3 i4 i5 hpp hpq hp
    go_wp2_with fail
    go_ret
    exact ⟨by rw [← hrs.out, hse.out]; rfl, hB0.out⟩
end Go.Proofs.YtnlljodmkacmlaaGreatDoor.Chk
