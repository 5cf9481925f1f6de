import Derived.Test.YtnlljodmkacmlaaGreatDoorJW
/-! A copy of a list of items; a nil index. -/
namespace Go.Proofs.YtnlljodmkacmlaaGreatDoor
open Go Go.RowKit Ap Go.Shelf
attribute [local go_sem] Oper.semAt_some
theorem run_append_none {P : Program} (w : World) (t ty e : TypeId) (i : TypeInfo) (ht : P.underlying t = some (.slice e)) (hi : P.info? e = some i) (g n cap : Nat) (hn : n ≤ cap) (ax : Option Addr) (c : Nat) :
    (Builtin.append_ #[t, t] ty #[.slice (some ⟨g, 0, none⟩) n cap, .slice ax 0 c]).run P w = .ok (.slice (some ⟨g, 0, none⟩) n cap) w := by
  have hs : Src P i.size t (.slice ax 0 c) 0 [] w := by
    cases ax with
    | none => exact Src.ofNil w ht c
    | some a => exact Src.ofSlice w ht a 0 c [] (by simp) (fun j u h => by simp at h) (fun u h => by cases h)
  have := run_append_room_src (P := P) w t t ty e i ht hi g 0 n cap _ 0 [] hs (by omega) (fun j h => by simp at h) (fun j h => by simp at h)
  rw [this]
  rfl
theorem wpList_append_zero {P : Program} {ops : Array Oper} {rest : List Oper} {o : Oper} {a : Act} {Q : Exit → Act → World → Prop} (w : World) (hgd : o.guard = none) (s y : Operand) (t : TypeId)
    (ho : o.op = .call { callee := .builtin .append, args := #[s, y], argTypes := #[t, t] }) (e : TypeId) (i : TypeInfo) (ht : P.underlying t = some (.slice e)) (hi : P.info? e = some i)
    (g n cap : Nat) (hn : n ≤ cap) (hse : a.eval s = .slice (some ⟨g, 0, none⟩) n cap) (ax : Option Addr) (c : Nat) (hx : a.eval y = .slice ax 0 c)
    (h : wpList P ops Q rest (a.put o.dst (.slice (some ⟨g, 0, none⟩) n cap)) w) : wpList P ops Q (o :: rest) a w :=
  wpList_plain hgd fun K hK => by
    have hr := run_append_none (P := P) w t o.type e i ht hi g n cap hn ax c
    unfold Oper.wp execOp
    simp only [ho, resolve, invoke, builtin, Sem.run_bind, Sem.run_pure, Result.andThen_ok, List.map_toArray, List.map_cons, List.map_nil, hse, hx, hr]
    exact hK _ _ h
theorem item_info : ∃ ri, Tryz.prog.info? 60 = some ri ∧ ri.zero = some (.agg #[.string ⟨#[]⟩, .int .i64 0, .int .i64 0, .int .i64 0, .string ⟨#[]⟩, .slice none 0 0, .slice none 0 0]) ∧ ri.size = 7 ∧ ri.bytes = 104 := by
  have : (Tryz.prog.info? 60).map (fun i => (i.zero, i.size, i.bytes)) = some (some (.agg #[.string ⟨#[]⟩, .int .i64 0, .int .i64 0, .int .i64 0, .string ⟨#[]⟩, .slice none 0 0, .slice none 0 0]), 7, 104) := by kernel_rfl
  cases hq : Tryz.prog.info? 60 with
  | none => rw [hq] at this; cases this
  | some ri => rw [hq] at this; simp at this; exact ⟨ri, rfl, this.1, this.2.1, this.2.2⟩
/-- Items as they lie: their cells. -/
structure RawAt (w : World) (a : Option Addr) (n : Nat) (cs : List Value) : Prop where
  len : cs.length = n * 7
  at' : ∀ j u, cs[j]? = some u → ∃ b o, a = some ⟨b, o, none⟩ ∧ w.cell? ⟨b, o + j, none⟩ = some u
  one : ∀ u ∈ cs, u.oneCell' = true
set_option maxHeartbeats 4000000 in
theorem own_any (a : Option Addr) (n c : Nat) (cs : List Value) (w : World) (hR : RawAt w a n cs) (hn : n * 104 ≤ 140737488355328) : Calls Tryz.prog 9 #[.slice a n c] w fun e w' => Below w.heap.size w w' ∧ ∃ g c', e = .returned (.slice (some ⟨g, 0, none⟩) n c') ∧ w.heap.size ≤ g ∧ ∀ j u, cs[j]? = some u → w'.cell? ⟨g, j, none⟩ = some u := by
  obtain ⟨ri, hri, hri1, hri2, hri3⟩ := item_info
  have hB0 := hid_of ((Below.refl _ w).alloc (Nat.le_refl _) (.cells #[] 60))
  by_cases h0 : n = 0
  · subst h0
    have hcs : Hid (cs = []) := List.length_eq_zero_iff.1 (by rw [hR.len])
    clear hR
    go_enter Tryz.func9, Tryz.ntmps9
    go_wp2_with (at_builtin; refine wpList_append_zero _ rfl _ _ 31 rfl 60 ri Tryz.underlying31 hri w.heap.size 0 0 (Nat.le_refl _) rfl a c rfl ?_)
    go_ret
    exact ⟨hB0.out, w.heap.size, 0, rfl, Nat.le_refl _, fun j u h => by rw [hcs.out] at h; simp at h⟩
  · have hsrc : Hid (Src Tryz.prog 7 31 (.slice a n c) n cs (w.alloc (.cells #[] 60))) := by
      obtain ⟨b, o, rfl, -⟩ := hR.at' 0 _ (List.getElem?_eq_getElem (by rw [hR.len]; omega))
      refine Src.ofSlice _ Tryz.underlying31 ⟨b, o, none⟩ n c cs hR.len (fun j u hu => ?_) hR.one
      obtain ⟨b2, o2, e, hc⟩ := hR.at' j u hu
      cases e
      rw [add_plain]
      exact stay hB0.out hc
    have hn1 : Hid (0 < n ∧ 0 + n ≤ maxLen ∧ (0 + n) * 104 ≤ 140737488355328) := ⟨by omega, by unfold maxLen; omega, by omega⟩
    have hcap : Hid (¬ (0 + n ≤ 0)) := hid_of (by omega)
    clear h0 hn
    replace hR := hid_of hR
    go_enter Tryz.func9, Tryz.ntmps9
    go_wp2_with (at_builtin; refine wpList_append_rw _ rfl _ _ 31 rfl 60 ri _ 7 104 Tryz.underlying31 hri hri1 hri2 hri3 rfl w.heap.size _ 0 0 [] rfl rfl (Nat.le_refl _) (by unfold maxLen; omega) (fun j u hj => by simp at hj) _ rfl n cs hsrc.out (fun h' => absurd h' hcap.out) hn1.out.1 hn1.out.2.1 hn1.out.2.2 (by simp) ?_; intro g of c2 W3 hA; replace hA := hid_of hA)
    go_ret
    have hR2 := hA.out.row
    rcases hA.out.at' with ⟨-, -, h3⟩ | ⟨hg, ho, -⟩
    · exact absurd h3 hcap.out
    · subst hg ho
      rw [Nat.zero_add, List.nil_append] at hR2
      refine ⟨⟨hA.out.fr.os.trans hB0.out.os, hA.out.fr.tape.trans hB0.out.tape, hA.out.fr.output.trans hB0.out.output, Nat.le_trans hB0.out.size hA.out.fr.size, fun k hk => (hA.out.fr.block k (Nat.lt_of_lt_of_le hk hB0.out.size) (fun e => hcap.out e.2)).trans (hB0.out.block k hk)⟩, _, c2, rfl, hB0.out.size, fun j u hj => ?_⟩
      obtain ⟨b, o, e, -, hc⟩ := hR2.cell hj
      cases e
      rw [Nat.zero_add] at hc
      exact hc
set_option maxHeartbeats 1000000 in
theorem change_nil (v u : Value) (w : World) : Calls Tryz.prog 8 #[.pointer none, v, u] w fun e w' => e = .returned (.tuple #[.pointer none, .string ⟨#[]⟩, .int .i64 0]) ∧ w' = w := by
  go_enter Tryz.func8, Tryz.ntmps8
  go_wp2_with fail
  go_ret3
  exact ⟨rfl, rfl⟩
set_option maxHeartbeats 1000000 in
theorem spec_nil (w : World) : Calls Tryz.prog 10 #[.pointer none] w fun e w' => e = .returned (.agg #[.string ⟨#[]⟩, .string ⟨#[]⟩, .bool false]) ∧ Below w.heap.size w w' := by
  have HB := fun o => hid_of ((Below.refl _ w).alloc (Nat.le_refl _) o)
  go_enter Tryz.func10, Tryz.ntmps10
  go_wp2_with fail
  go_returns
  exact ⟨rfl, (HB _).out⟩
set_option maxHeartbeats 1000000 in
theorem ids_nil (op k x : Int) (s : ByteArray) (an : Option Addr) (ln cn : Nat) (ai : Option Addr) (li ci : Nat) (w : World) : Calls Tryz.prog 13 #[.pointer none, .int .i64 op, .agg #[.int .i64 k, .int .i64 x, .string s, .slice an ln cn, .slice ai li ci]] w fun e w' => e = .returned (.slice none 0 0) ∧ Below w.heap.size w w' := by
  have HB := fun o => hid_of ((Below.refl _ w).alloc (Nat.le_refl _) o)
  go_enter Tryz.func13, Tryz.ntmps13
  go_wp2_with fail
  go_ret
  exact ⟨rfl, (HB _).out⟩
set_option maxHeartbeats 1000000 in
theorem each_nil (w : World) : Calls Tryz.prog 25 #[.pointer none] w fun e w' => e = .returned (.func (.func 49) #[] #[]) ∧ w' = w := by
  go_enter Tryz.func25, Tryz.ntmps25
  go_wp2_with fail
  go_ret
  exact ⟨rfl, rfl⟩
set_option maxHeartbeats 2000000 in
theorem serves_nil (p : ByteArray) (op k x : Int) (s : ByteArray) (an : Option Addr) (ln cn : Nat) (ai : Option Addr) (li ci : Nat) (w : World) : Calls Tryz.prog 14 #[.pointer none, .agg #[.string p, .int .i64 op, .int .i64 k, .int .i64 x, .string s, .slice an ln cn, .slice ai li ci]] w fun e w' => e = .returned (.bool false) ∧ Below w.heap.size w w' := by
  have HB := hid_of ((Below.refl _ w).alloc (Nat.le_refl _) (.cells #[.string p, .int .i64 op, .int .i64 k, .int .i64 x, .string s, .slice an ln cn, .slice ai li ci] 30))
  go_enter Tryz.func14, Tryz.ntmps14
  go_wp2_with fail
  generalize w.alloc (.cells #[.string p, .int .i64 op, .int .i64 k, .int .i64 x, .string s, .slice an ln cn, .slice ai li ci] 30) = W1 at HB ⊢
  refine wp_region_quiet (C := fun w' => Below W1.heap.size W1 w') (by kernel_rfl) (by kernel_rfl) (below_drewN (Below.refl _ _) 1) ?_
  with_reducible refine wpQuiet_step (fun K hK => ?_)
  refine ⟨.pointer none, fun w' hw' => ?_, ?_⟩
  · first | (go_simp; done) | (go_simp; decide) | (go_simp; omega)
  with_reducible refine hK _ ?_
  clear hK K
  simp only [Act.put, List.setIfInBounds_toArray, List.set_cons_zero, List.set_cons_succ]
  with_reducible refine wpQuiet_step (fun K hK => ?_)
  refine ⟨.bool true, fun w' hw' => ?_, ?_⟩
  · first | (go_simp; done) | (go_simp; decide) | (go_simp; omega)
  with_reducible refine hK _ ?_
  clear hK K
  simp only [Act.put, List.setIfInBounds_toArray, List.set_cons_zero, List.set_cons_succ]
  with_reducible refine wpQuiet_step (fun K hK => ?_)
  refine ⟨.bool true, fun w' hw' => ?_, ?_⟩
  · first | (go_simp; done) | (go_simp; decide) | (go_simp; omega)
  with_reducible refine hK _ ?_
  clear hK K
  simp only [Act.put, List.setIfInBounds_toArray, List.set_cons_zero, List.set_cons_succ]
  with_reducible refine wpQuiet_step (fun K hK => ?_)
  refine k_quiet_else (by kernel_rfl) ?_
  with_reducible refine hK _ ?_
  clear hK K
  simp only [Act.put, List.setIfInBounds_toArray, List.set_cons_zero, List.set_cons_succ]
  with_reducible refine wpQuiet_step (fun K hK => ?_)
  refine k_quiet_else (by kernel_rfl) ?_
  with_reducible refine hK _ ?_
  clear hK K
  simp only [Act.put, List.setIfInBounds_toArray, List.set_cons_zero, List.set_cons_succ]
  with_reducible refine wpQuiet_step (fun K hK => ?_)
  refine k_quiet_else (by kernel_rfl) ?_
  with_reducible refine hK _ ?_
  clear hK K
  simp only [Act.put, List.setIfInBounds_toArray, List.set_cons_zero, List.set_cons_succ]
  with_reducible refine wpQuiet_step (fun K hK => ?_)
  refine k_quiet_else (by kernel_rfl) ?_
  with_reducible refine hK _ ?_
  clear hK K
  simp only [Act.put, List.setIfInBounds_toArray, List.set_cons_zero, List.set_cons_succ]
  with_reducible refine wpQuiet_step (fun K hK => ?_)
  refine k_quiet_else (by kernel_rfl) ?_
  with_reducible refine hK _ ?_
  clear hK K
  simp only [Act.put, List.setIfInBounds_toArray, List.set_cons_zero, List.set_cons_succ]
  with_reducible refine wpQuiet_step (fun K hK => ?_)
  refine k_quiet_else (by kernel_rfl) ?_
  with_reducible refine hK _ ?_
  clear hK K
  simp only [Act.put, List.setIfInBounds_toArray, List.set_cons_zero, List.set_cons_succ]
  with_reducible refine wpQuiet_step (fun K hK => ?_)
  refine k_quiet_else (by kernel_rfl) ?_
  with_reducible refine hK _ ?_
  clear hK K
  simp only [Act.put, List.setIfInBounds_toArray, List.set_cons_zero, List.set_cons_succ]
  with_reducible refine wpQuiet_step (fun K hK => ?_)
  refine k_quiet_else (by kernel_rfl) ?_
  with_reducible refine hK _ ?_
  clear hK K
  simp only [Act.put, List.setIfInBounds_toArray, List.set_cons_zero, List.set_cons_succ]
  with_reducible refine wpQuiet_step (fun K hK => ?_)
  refine ⟨.bool true, fun w' hw' => ?_, ?_⟩
  · first | (go_simp; done) | (go_simp; decide) | (go_simp; omega)
  with_reducible refine hK _ ?_
  clear hK K
  simp only [Act.put, List.setIfInBounds_toArray, List.set_cons_zero, List.set_cons_succ]
  with_reducible refine wpQuiet_step (fun K hK => ?_)
  refine ⟨.bool true, fun w' hw' => ?_, ?_⟩
  · first | (go_simp; done) | (go_simp; decide) | (go_simp; omega)
  with_reducible refine hK _ ?_
  clear hK K
  simp only [Act.put, List.setIfInBounds_toArray, List.set_cons_zero, List.set_cons_succ]
  with_reducible refine wpQuiet_step (fun K hK => ?_)
  refine k_quiet_else (by kernel_rfl) ?_
  with_reducible refine hK _ ?_
  clear hK K
  simp only [Act.put, List.setIfInBounds_toArray, List.set_cons_zero, List.set_cons_succ]
  with_reducible refine wpQuiet_step (fun K hK => ?_)
  refine k_quiet_else (by kernel_rfl) ?_
  with_reducible refine hK _ ?_
  clear hK K
  simp only [Act.put, List.setIfInBounds_toArray, List.set_cons_zero, List.set_cons_succ]
  with_reducible refine wpQuiet_step (fun K hK => ?_)
  refine k_quiet_else (by kernel_rfl) ?_
  with_reducible refine hK _ ?_
  clear hK K
  simp only [Act.put, List.setIfInBounds_toArray, List.set_cons_zero, List.set_cons_succ]
  with_reducible refine wpQuiet_step (fun K hK => ?_)
  refine k_quiet_else (by kernel_rfl) ?_
  with_reducible refine hK _ ?_
  clear hK K
  simp only [Act.put, List.setIfInBounds_toArray, List.set_cons_zero, List.set_cons_succ]
  with_reducible refine wpQuiet_step (fun K hK => ?_)
  refine ⟨.bool true, fun w' hw' => ?_, ?_⟩
  · first | (go_simp; done) | (go_simp; decide) | (go_simp; omega)
  with_reducible refine hK _ ?_
  clear hK K
  simp only [Act.put, List.setIfInBounds_toArray, List.set_cons_zero, List.set_cons_succ]
  refine wpQuiet_nil ?_
  intro X1 hX1
  replace HB := hid_of (HB.out.trans (hX1.mono HB.out.size))
  clear hX1
  go_wp2_with fail
  go_ret
  exact ⟨rfl, HB.out⟩
set_option maxHeartbeats 1000000 in
theorem none_seq (F : Fence) (r : Nat) (hf : F.fn 49) (hro : F.round = none) (w : World) :
    SeqStopsK F r Tryz.prog 49 #[] (fun _ : Fin 0 => #[undef, undef]) (fun _ _ => True) (fun ys => ys = []) (fun _ => True) 0 w := fun l J Jx W hW hJ _ hY h0 => by
  refine callsIn_of_wp Tryz.func49 rfl hf ?_ hro
  simp only [Tryz.ntmps49, List.size_toArray, List.length_cons, List.length_nil, Nat.reduceAdd, Nat.reduceSub, Array.replicate_succ, Array.replicate_zero, List.push_toArray, List.append_toArray, List.nil_append, List.cons_append]
  gi_wp2
  go_end0
  first | exact ⟨⟨_, rfl⟩, .inl ⟨_, rfl, h0⟩⟩ | exact ⟨⟨_, rfl⟩, .inl h0⟩
set_option maxHeartbeats 4000000 in
set_option maxRecDepth 100000 in
theorem entries_nil (w : World) : Calls Tryz.prog 12 #[.pointer none] w fun e w' => e = .returned (.slice none 0 0) ∧ Below w.heap.size w w' := by
  have HB := (Below.refl _ w).alloc (Nat.le_refl _) (.cells #[.slice none 0 0] 40)
  have hn := heap_alloc_new w (.cells #[.slice none 0 0] 40)
  obtain ⟨W0, hW0⟩ : ∃ W0, Hid (w.alloc (.cells #[.slice none 0 0] 40) = W0) := ⟨_, rfl⟩
  rw [hW0.out] at HB hn
  have hcmp : ∀ W : World, (binOp .eql 72 (.func (.func 49) #[] #[]) .nilFunc).run Tryz.prog W = .ok (.bool false) W := fun W => by kernel_rfl
  refine (callsIn_wide (n := 5)).1 ?_
  have hro : Fence.wide.round = none := rfl
  refine callsIn_of_wp_marks Tryz.func12 rfl trivial ?_ hro
  simp only [Tryz.ntmps12, List.size_toArray, List.length_cons, List.length_nil, Nat.reduceAdd, Nat.reduceSub, Array.replicate_succ, Array.replicate_zero, List.push_toArray, List.append_toArray, List.nil_append, List.cons_append]
  refine wpIn_wide.2 ?_
  go_wp2_with (rw [hW0.out])
  refine (each_nil _).mono ?_
  rintro e Z ⟨rfl, hZ⟩
  obtain rfl : W0 = Z := hZ.symm
  clear hZ
  go_wp2_with fail
  refine (wpIn_wide (n := 5)).1 ?_
  refine wpIn_rangeFunc_ownH hro (by decide) (gf := 49) (lb := #[]) rfl trivial (enters_of Tryz.func49 (by kernel_rfl) rfl)
    (none_seq Fence.wide _ trivial hro W0) (fun _ _ => trivial) (fun _ _ _ _ _ _ _ _ => trivial) (Below.refl _ _) (fun _ => rfl)
    (fun _ W => Box1 W w.heap.size (.slice none 0 0) ∧ Below w.heap.size w W)
    (fun _ _ _ => False) ?own (fun _ _ _ _ _ hs _ _ => hs) ?start (fun _ _ _ => False) ?ownA ?assign ?body ?done ?stop
  case own => exact OwnFrom.and (Own.from (fun pre A B row hs hg hr => hs.own hg hr) _) (ownFrom_below (Nat.le_refl _) HB.size)
  case start => exact ⟨box1_of hn, HB⟩
  case ownA => exact fun _ _ _ _ _ _ hs _ _ => hs
  case assign => exact fun _ _ x => x.elim0
  case body => exact fun _ _ x => x.elim0
  case done =>
    rintro D ys W hD rfl ⟨h1, hB⟩ hK
    obtain ⟨k0, -⟩ := h1
    have hw0 := HB.size
    have hB4 : Hid (Below w.heap.size w (W.putObj D (.deferred none))) := ⟨hB.os, hB.tape, hB.output, by simpa using hB.size, fun k hk => (World.putObj_heap_other (by omega)).trans (hB.block k hk)⟩
    clear hB
    go_wp2_with fail
    refine ⟨by simp, .inl ⟨_, _, rfl, run_takeDeferred hK, ?_⟩⟩
    exact ⟨.slice none 0 0, by simp [results, Tryz.results12, go_sem], rfl, hB4.out⟩
  case stop =>
    rintro D c pre W _ _ h _
    exact h.elim
end Go.Proofs.YtnlljodmkacmlaaGreatDoor
