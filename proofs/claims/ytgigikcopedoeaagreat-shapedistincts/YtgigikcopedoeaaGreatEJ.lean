import Derived.Test.YtgigikcopedoeaaGreatEG
import Derived.Test.YtgigikcopedoeaaGreatLG
/-! The document's put. -/
namespace Go.Proofs.YtgigikcopedoeaaGreat.Tree.Eq
open Go Go.RowKit Go.Stab

/-- Values appended to Values. -/
theorem wp_append_vals {o : Oper} {a : Act} {K : Act → World → Prop} {Q : Exit → Act → World → Prop} (w : World) (s x : Operand)
    (ho : o.op = .call { callee := .builtin .append, args := #[s, x], argTypes := #[23, 23] }) (base g n cap : Nat) (xs : List Value) (hrow : w.ownsRow base 25 5 (.slice (some ⟨g, 0, none⟩) n cap) n xs)
    (hs : a.eval s = .slice (some ⟨g, 0, none⟩) n cap) (ax : Option Addr) (k c : Nat) (ys : List Value) (hx : a.eval x = .slice ax k c) (hys : ys.length = k * 5) (hl : k = 0 ∨ ∃ b off, ax = some ⟨b, off, none⟩ ∧ CellsAt w b off ys) (h1 : ∀ u ∈ ys, u.oneCell' = true) (hb : (n + k) * 80 ≤ 140737488355328) (hbase : base ≤ w.heap.size)
    (h : ∀ g' cap' w', w'.ownsRow base 25 5 (.slice (some ⟨g', 0, none⟩) (n + k) cap') (n + k) (xs ++ ys) → w.grownBy w' (some g) → (g' = g ∨ g' = w.heap.size) → K (a.put o.dst (.slice (some ⟨g', 0, none⟩) (n + k) cap')) w') : Oper.wp Tryz.prog o a w K Q := by
  obtain ⟨i, hi, hz0, hz1, hz2⟩ := info_parts AV
  by_cases h0 : k = 0
  · subst h0
    have e : ys = [] := List.eq_nil_of_length_eq_zero (by omega)
    subst e
    have hcap : n ≤ cap := by
      rcases hrow.2 with ⟨hv, _⟩ | ⟨g', cap', cur, hv, hg, hh, hc, hm, hs, hr⟩
      · cases hv
      · cases hv; exact hc
    have hr := run_append_none (P := Tryz.prog) w 23 o.type 25 i Tryz.underlying23 hi g n cap hcap ax c
    unfold Oper.wp execOp
    simp only [ho, resolve, invoke, builtin, Sem.run_bind, Sem.run_pure, Result.andThen_ok, List.map_toArray, List.map_cons, List.map_nil, hs, hx, hr]
    exact h g cap w (by rw [List.append_nil]; exact hrow) (World.grownBy.refl w _) (.inl rfl)
  · obtain ⟨b, off, rfl, hc⟩ := hl.resolve_left h0
    refine wp_append_lies w s x 23 ho base 25 i _ 5 80 Tryz.underlying23 hi hz0 hz1 hz2 rfl (by decide) _ n xs hs hrow _ k c ys hx hys (fun j u hu => by rw [add_off]; exact hc j u hu) h1 (by omega) (by unfold maxLen; omega) hb hbase _ rfl ?_
    intro g' cap' w' h2 h3 h4 _
    exact h g' cap' w' h2 h3 (h4.elim (fun e => .inl (by simpa [Value.ownBlock] using e.symm)) .inr)
theorem wpList_append_vals {ops : Array Oper} {rest : List Oper} {o : Oper} {a : Act} {Q : Exit → Act → World → Prop} (hgd : o.guard = none) (w : World) (s x : Operand)
    (ho : o.op = .call { callee := .builtin .append, args := #[s, x], argTypes := #[23, 23] }) (base g n cap : Nat) (xs : List Value) (hrow : w.ownsRow base 25 5 (.slice (some ⟨g, 0, none⟩) n cap) n xs)
    (hs : a.eval s = .slice (some ⟨g, 0, none⟩) n cap) (ax : Option Addr) (k c : Nat) (ys : List Value) (hx : a.eval x = .slice ax k c) (hys : ys.length = k * 5) (hl : k = 0 ∨ ∃ b off, ax = some ⟨b, off, none⟩ ∧ CellsAt w b off ys) (h1 : ∀ u ∈ ys, u.oneCell' = true) (hb : (n + k) * 80 ≤ 140737488355328) (hbase : base ≤ w.heap.size)
    (h : ∀ g' cap' w', w'.ownsRow base 25 5 (.slice (some ⟨g', 0, none⟩) (n + k) cap') (n + k) (xs ++ ys) → w.grownBy w' (some g) → (g' = g ∨ g' = w.heap.size) → wpList Tryz.prog ops Q rest (a.put o.dst (.slice (some ⟨g', 0, none⟩) (n + k) cap')) w') : wpList Tryz.prog ops Q (o :: rest) a w :=
  wpList_plain hgd fun _ hK => wp_append_vals w s x ho base g n cap xs hrow hs ax k c ys hx hys hl h1 hb hbase fun g' cap' w' h2 h3 h4 => hK _ _ (h g' cap' w' h2 h3 h4)
theorem step_append_vals {ops : Array Oper} {o : Oper} {a : Act} {K : Act → World → Prop} {Q : Exit → Act → World → Prop} {E : Prop} (hgd : o.guard = none) (w : World) (s x : Operand)
    (ho : o.op = .call { callee := .builtin .append, args := #[s, x], argTypes := #[23, 23] }) (base g n cap : Nat) (xs : List Value) (hrow : w.ownsRow base 25 5 (.slice (some ⟨g, 0, none⟩) n cap) n xs)
    (hs : a.eval s = .slice (some ⟨g, 0, none⟩) n cap) (ax : Option Addr) (k c : Nat) (ys : List Value) (hx : a.eval x = .slice ax k c) (hys : ys.length = k * 5) (hl : k = 0 ∨ ∃ b off, ax = some ⟨b, off, none⟩ ∧ CellsAt w b off ys) (h1 : ∀ u ∈ ys, u.oneCell' = true) (hb : (n + k) * 80 ≤ 140737488355328) (hbase : base ≤ w.heap.size)
    (h : ∀ g' cap' w', w'.ownsRow base 25 5 (.slice (some ⟨g', 0, none⟩) (n + k) cap') (n + k) (xs ++ ys) → w.grownBy w' (some g) → (g' = g ∨ g' = w.heap.size) → K (a.put o.dst (.slice (some ⟨g', 0, none⟩) (n + k) cap')) w') : if Region.wanted o (yielded ops a.tmps) = true then Oper.wp Tryz.prog o a w K Q else E := by
  have hw : Region.wanted o (yielded ops a.tmps) = true := by simp [Region.wanted, hgd]
  rw [if_pos hw]
  exact wp_append_vals w s x ho base g n cap xs hrow hs ax k c ys hx hys hl h1 hb hbase h
theorem owns_vals (w : World) : (w.alloc (.cells #[] 25)).ownsRow w.heap.size 25 5 (.slice (some ⟨w.heap.size, 0, none⟩) 0 0) 0 [] :=
  ⟨rfl, .inr ⟨w.heap.size, 0, #[], rfl, Nat.le_refl _, heap_alloc_new w _, Nat.le_refl _, Nat.zero_le _, rfl, rfl⟩⟩
theorem vals_lie {W0 : World} {base : Nat} {w : World} {g n c : Nat} {es : List El} (h : LIn W0 base w (.slice (some ⟨g, 0, none⟩) n c) es) : CellsAt w g 0 (cellsE es) := fun j u hj => by
  rw [Nat.zero_add]
  rcases h.row.2 with ⟨e1, h0⟩ | ⟨g', cap, cur, e1, hg, hh, hc, hmx, hs, ht⟩
  · cases e1
  · cases e1
    rw [← ht] at hj
    have hjl := (List.getElem?_eq_some_iff.1 hj).1
    rw [List.getElem?_take_of_lt (by simp at hjl; omega), Array.getElem?_toList] at hj
    simp [World.cell?, hh, hj]
theorem cellsE_app (l r : List El) : cellsE (l ++ r) = cellsE l ++ cellsE r := by simp [cellsE, List.flatMap_append]
theorem cells_take {W : World} {g : Nat} {es : List El} (hf : ∀ e ∈ es, Five e.cs) (h : CellsAt W g 0 (cellsE es)) (p : Nat) : CellsAt W g 0 (cellsE (es.take p)) ∧ CellsAt W g (p * 5) (cellsE (es.drop p)) ∨ es.length < p := by
  rcases Nat.lt_or_ge es.length p with hp | hp
  · exact .inr hp
  · left
    have e := List.take_append_drop p es
    have hl : (cellsE (es.take p)).length = p * 5 := by rw [cellsE_len (fun e he => hf e (List.mem_of_mem_take he)), List.length_take, Nat.min_eq_left hp]
    rw [← e, cellsE_app] at h
    refine ⟨fun j u hj => h j u (by rw [List.getElem?_append_left (List.getElem?_eq_some_iff.1 hj).1]; exact hj), fun j u hj => ?_⟩
    have := h (p * 5 + j) u (by rw [List.getElem?_append_right (by omega), hl, Nat.add_sub_cancel_left]; exact hj)
    rwa [Nat.zero_add] at this
/-- Where it is put: behind the last that is not above it. -/
noncomputable def atT (v : Tr) : List Tr → Nat → Nat
  | _, 0 => 0
  | m, q + 1 => match m[q]? with | some u => if cmpT u v ≤ 0 then q + 1 else atT v m q | none => atT v m q
theorem atT_le (v : Tr) (m : List Tr) : ∀ q, atT v m q ≤ q
  | 0 => Nat.le_refl _
  | q + 1 => by
    have := atT_le v m q
    unfold atT
    split
    · split <;> omega
    · omega
theorem atT_step {v : Tr} {m : List Tr} {q : Nat} {u : Tr} (h : m[q]? = some u) : atT v m (q + 1) = if cmpT u v ≤ 0 then q + 1 else atT v m q := by rw [atT, h]
theorem atT_above {v : Tr} {m : List Tr} : ∀ (q i : Nat) (u : Tr), i < q → atT v m q ≤ i → m[i]? = some u → 0 < cmpT u v
  | 0, _, _, h, _, _ => by omega
  | q + 1, i, u, hi, ha, hu => by
    rcases Nat.lt_or_ge i q with h | h
    · cases hq : m[q]? with
      | none => rw [atT, hq] at ha; exact atT_above q i u h ha hu
      | some x =>
        rw [atT_step hq] at ha
        split at ha
        · omega
        · exact atT_above q i u h ha hu
    · obtain rfl : i = q := by omega
      rw [atT_step hu] at ha
      split at ha
      · omega
      · omega
theorem atT_below {v : Tr} {m : List Tr} (hup : Up ltT m) : ∀ (q i : Nat) (u : Tr), i < atT v m q → m[i]? = some u → cmpT u v ≤ 0
  | 0, _, _, h, _ => by simp [atT] at h
  | q + 1, i, u, hi, hu => by
    cases hq : m[q]? with
    | none => rw [atT, hq] at hi; exact atT_below hup q i u hi hu
    | some x =>
      rw [atT_step hq] at hi
      split at hi
      · rename_i hx
        rcases Nat.lt_or_ge i q with h | h
        · exact cmpT_trans u x v (ltT_le (up_lt hup h hu hq)) hx
        · obtain rfl : i = q := by omega
          rw [hq] at hu; cases hu; exact hx
      · exact atT_below hup q i u hi hu
theorem put_merge {v : Tr} {m : List Tr} (hup : Up ltT m) (hv : v ∉ m) : putT m v = m.take (atT v m m.length) ++ v :: m.drop (atT v m m.length) := by
  rw [putT_out hv]
  conv => lhs; rw [← List.take_append_drop (atT v m m.length) m]
  refine mergeL_last ltT v _ _ (fun x hx => ?_) (fun x hx => ?_)
  · obtain ⟨i, hi⟩ := List.mem_iff_getElem?.1 hx
    have hl := (List.getElem?_eq_some_iff.1 hi).1
    rw [List.length_take] at hl
    rw [List.getElem?_take_of_lt (by omega)] at hi
    have := atT_below (v := v) hup m.length i x (by omega) hi
    have a := cmpT_anti x v
    exact decide_eq_false (by omega)
  · obtain ⟨i, hi⟩ := List.mem_iff_getElem?.1 hx
    rw [List.getElem?_drop] at hi
    have hl := (List.getElem?_eq_some_iff.1 hi).1
    have := atT_above (v := v) m.length (atT v m m.length + i) x hl (by omega) hi
    have a := cmpT_anti x v
    exact decide_eq_true (by omega)
theorem putT_up {v : Tr} {m : List Tr} (hup : Up ltT m) : Up ltT (putT m v) := by
  by_cases hv : v ∈ m
  · rw [putT_in hv]; exact hup
  · rw [putT_out hv]; exact mergeL_up swoT m [v] hup ⟨(fun y hy => by cases hy), trivial⟩
theorem cell_al {W : World} {p : Addr} {u : Value} (o : Obj) (h : W.cell? p = some u) : (W.alloc o).cell? p = some u := stay ((Below.refl _ W).alloc (Nat.le_refl _) o) h
theorem cells_of {W : World} {b : Nat} {cs : List Value} {t : TypeId} {fr : Nat × Nat} (h : W.heap[b]? = some (.cells cs.toArray t fr)) : CellsAt W b 0 cs := fun j u hj => by
  unfold World.cell?
  rw [h]
  simpa using hj
theorem val_lies (w : World) (cs : List Value) : CellsAt (w.alloc (.cells cs.toArray 25)) w.heap.size 0 cs := fun j u hj => by
  unfold World.cell?
  rw [heap_alloc_new w]
  simpa using hj
theorem no_step {m : List Tr} {v u : Tr} {q : Nat} (h : v ∉ m.take q) (hu : m[q]? = some u) (hne : u ≠ v) : v ∉ m.take (q + 1) := by
  rw [List.take_add_one, hu, Option.toList]
  intro hm
  rcases List.mem_append.1 hm with h1 | h1
  · exact h h1
  · exact hne (List.mem_singleton.1 h1).symm
set_option maxHeartbeats 16000000 in
set_option maxRecDepth 100000 in
theorem put_in (W0 : World) (base : Nat) (a : Option Addr) (c n : Nat) (ms : List El) (v : Tr) (k1 x1 : Int) (s1 : ByteArray) (an1 : Option Addr) (ln1 cn1 : Nat) (ai1 : Option Addr) (li1 ci1 : Nat) (w : World) (hW0 : Below W0.heap.size W0 w) (hbase : base ≤ w.heap.size) (hn : ms.length = n) (hnn : n ≤ 1000000) (hL : LIn W0 base w (.slice a n c) ms) (hS : ∀ e ∈ ms, SmallT e.t) (hup : Up ltT (treesE ms)) (hm0 : n = 0 → a = none ∧ c = 0) (hv : VRep W0 v (five k1 x1 s1 (.slice an1 ln1 cn1) (.slice ai1 li1 ci1))) (hSv : SmallT v) :
    Calls Tryz.prog 50 #[.slice a n c, .agg #[.int .i64 k1, .int .i64 x1, .string s1, .slice an1 ln1 cn1, .slice ai1 li1 ci1]] w fun e w' => ∃ a' c' ks, e = .returned (.slice a' ks.length c') ∧ LIn W0 base w' (.slice a' ks.length c') ks ∧ treesE ks = putT (treesE ms) v ∧ (∀ k ∈ ks, SmallT k.t) ∧ (ks.length = 0 → a' = none ∧ c' = 0) ∧ ks.length ≤ n + 1 ∧ Below w.heap.size w w' := by
  have n0 : (0 : Int) ≤ (n : Int) := by omega
  have n1 : (n : Int) ≤ 1000000 := by omega
  obtain ⟨W1, hW1⟩ : ∃ W1, Hid (w.alloc (.cells #[.int .i64 k1, .int .i64 x1, .string s1, .slice an1 ln1 cn1, .slice ai1 li1 ci1] 25) = W1) := ⟨_, rfl⟩
  have hp1 : Hid (W1.heap[w.heap.size]? = some (.cells #[.int .i64 k1, .int .i64 x1, .string s1, .slice an1 ln1 cn1, .slice ai1 li1 ci1] 25 (0, 0))) := by rw [← hW1.out]; exact heap_alloc_new w _
  have hb1 : Hid (Below w.heap.size w W1) := by rw [← hW1.out]; exact (Below.refl _ w).alloc (Nat.le_refl _) _
  replace hn := hid_e hn
  replace hL := hid_e hL
  replace hS := hid_e hS
  replace hup := hid_e hup
  replace hW0 := hid_e hW0
  replace hv := hid_e hv
  replace hSv := hid_e hSv
  replace hm0 := hid_e hm0
  replace hbase := hid_e hbase
  go_enter Tryz.func50, Tryz.ntmps50
  go_wp2_with (rw [hW1.out])
  clear hW1
  go_loopw [5, 6] (fun av iv wr => ∃ (q p : Nat), av = .int .i64 p ∧ iv = .int .i64 q ∧ q ≤ n ∧ p ≤ q ∧ Hid (p = atT v (treesE ms) q) ∧ Hid (v ∉ (treesE ms).take q) ∧ Hid (Below W1.heap.size W1 wr)) (fun _ iv _ => n - (intOf iv).toNat)
  case atStart => exact ⟨0, 0, rfl, rfl, Nat.zero_le _, Nat.le_refl _, rfl, (by show _ ∉ _; simp), Below.refl _ _⟩
  case round =>
    obtain ⟨q, p, rfl, rfl, hq, hpq, hp, hno, hb⟩ := hrel
    have hbw : Hid (Below w.heap.size w wr) := hb1.out.trans (hb.out.mono hb1.out.size)
    have hWw : Hid (Below W0.heap.size W0 wr) := hW0.out.trans (hbw.out.mono hW0.out.size)
    have hpw := hid_e (block_keep hp1.out hb.out)
    obtain ⟨p0, p1, p2, p3, p4, -⟩ := row_cells hpw.out
    have q0 : (0 : Int) ≤ (q : Int) := by omega
    have q2 : (q : Int) ≤ 1000000 := by omega
    have pp0 : (0 : Int) ≤ (p : Int) := by omega
    have pp2 : (p : Int) ≤ 1000000 := by omega
    by_cases hlt : q < n
    · skip
      have q1 : (q : Int) < (n : Int) := by omega
      obtain ⟨e, he⟩ : ∃ e, Hid (ms[q]? = some e) := ⟨ms[q]'(by rw [hn.out]; omega), List.getElem?_eq_getElem (by rw [hn.out]; omega)⟩
      obtain ⟨g, ea, -, hc1, ⟨k2, x2, s2, an2, ln2, cn2, ai2, li2, ci2, hf⟩, hv1⟩ := hL.out.item he.out
      subst ea
      rw [hf] at hc1 hv1
      clear hf
      obtain ⟨v0, v1, v2, v3, v4⟩ := cells5 hc1
      have z0 := stay hbw.out v0
      have z1 := stay hbw.out v1
      have z2 := stay hbw.out v2
      have z3 := stay hbw.out v3
      have z4 := stay hbw.out v4
      clear v0 v1 v2 v3 v4 hc1
      have heq := hid_e (fun W (hW : Below wr.heap.size wr W) => equal_any e.t v (five k2 x2 s2 (.slice an2 ln2 cn2) (.slice ai2 li2 ci2)) (five k1 x1 s1 (.slice an1 ln1 cn1) (.slice ai1 li1 ci1)) W (VRep.keep (hWw.out.trans (hW.mono hWw.out.size)) _ _ hv1) (VRep.keep (hWw.out.trans (hW.mono hWw.out.size)) _ _ hv.out) (hS.out e (List.mem_of_getElem? he.out)))
      have hcm := hid_e (fun W (hW : Below wr.heap.size wr W) => rcompare_any e.t v (five k2 x2 s2 (.slice an2 ln2 cn2) (.slice ai2 li2 ci2)) (five k1 x1 s1 (.slice an1 ln1 cn1) (.slice ai1 li1 ci1)) W (VRep.keep (hWw.out.trans (hW.mono hWw.out.size)) _ _ hv1) (VRep.keep (hWw.out.trans (hW.mono hWw.out.size)) _ _ hv.out) (hS.out e (List.mem_of_getElem? he.out)) hSv.out)
      clear hv1
      have htq := hid_e (treesE_at he.out)
      go_upto_region 5 with fail
      by_cases het : e.t = v
      · skip
        rw [eqT_true het] at heq
        refine wp_region_quiet (C := fun w' => Below wr.heap.size wr w') (by kernel_rfl) (by kernel_rfl) (below_drewN (Below.refl _ _) 1) ?_
        with_reducible refine wpQuiet_step (fun K hK => ?_)
        refine ⟨.slice (some ⟨g, 0, none⟩) n c, fun w' hw' => ?_, ?_⟩
        · first | (go_simp; done) | (go_simp; decide) | (go_simp; omega)
        with_reducible refine hK _ ?_
        clear hK K
        simp only [Act.put, List.setIfInBounds_toArray, List.set_cons_zero, List.set_cons_succ]
        with_reducible refine wpQuiet_step (fun K hK => ?_)
        refine ⟨.int .i64 q, fun w' hw' => ?_, ?_⟩
        · first | (go_simp; done) | (go_simp; decide) | (go_simp; omega)
        with_reducible refine hK _ ?_
        clear hK K
        simp only [Act.put, List.setIfInBounds_toArray, List.set_cons_zero, List.set_cons_succ]
        with_reducible refine wpQuiet_step (fun K hK => ?_)
        refine ⟨.pointer (some ⟨g, q * 5, none⟩), fun w' hw' => ?_, ?_⟩
        · first | (go_simp; done) | (go_simp; decide) | (go_simp; omega)
        with_reducible refine hK _ ?_
        clear hK K
        simp only [Act.put, List.setIfInBounds_toArray, List.set_cons_zero, List.set_cons_succ]
        with_reducible refine wpQuiet_step (fun K hK => ?_)
        refine ⟨.agg #[.int .i64 k2, .int .i64 x2, .string s2, .slice an2 ln2 cn2, .slice ai2 li2 ci2], fun w' hw' => ?_, ?_⟩
        · have t0 := stay hw' z0; have t1 := stay hw' z1; have t2 := stay hw' z2; have t3 := stay hw' z3; have t4 := stay hw' z4; go_simp
        with_reducible refine hK _ ?_
        clear hK K
        simp only [Act.put, List.setIfInBounds_toArray, List.set_cons_zero, List.set_cons_succ]
        with_reducible refine wpQuiet_step (fun K hK => ?_)
        refine ⟨.agg #[.int .i64 k1, .int .i64 x1, .string s1, .slice an1 ln1 cn1, .slice ai1 li1 ci1], fun w' hw' => ?_, ?_⟩
        · have t0 := stay hw' p0; have t1 := stay hw' p1; have t2 := stay hw' p2; have t3 := stay hw' p3; have t4 := stay hw' p4; go_simp
        with_reducible refine hK _ ?_
        clear hK K
        simp only [Act.put, List.setIfInBounds_toArray, List.set_cons_zero, List.set_cons_succ]
        with_reducible refine wpQuiet_step (fun K hK => ?_)
        refine ⟨.bool true, fun w' hw' => ?_, ?_⟩
        · go_simp
          refine (heq.out w' hw').mono ?_
          rintro e w'' ⟨rfl, hb'⟩
          exact ⟨rfl, hw'.trans (hb'.mono hw'.size)⟩
        with_reducible refine hK _ ?_
        clear hK K
        simp only [Act.put, List.setIfInBounds_toArray, List.set_cons_zero, List.set_cons_succ]
        refine wpQuiet_nil ?_
        intro X1 hX1
        have hbX := hid_e (hbw.out.trans (hX1.mono hbw.out.size))
        have hin : Hid (putT (treesE ms) v = treesE ms) := putT_in (by rw [← het]; exact List.mem_of_getElem? htq.out)
        have hLX := hid_e (hL.out.keep hbX.out)
        have hnn2 := hn.out
        subst hnn2
        clear z0 z1 z2 z3 z4 p0 p1 p2 p3 p4 heq hcm hX1 hb hbw
        go_wp2_with fail
        go_ret
        exact ⟨_, _, ms, rfl, hLX.out, hin.out.symm, hS.out, (fun h => hm0.out (by simp [h])), by omega, hbX.out⟩
      · skip
        rw [eqT_false het] at heq
        refine wp_region_quiet (C := fun w' => Below wr.heap.size wr w') (by kernel_rfl) (by kernel_rfl) (below_drewN (Below.refl _ _) 1) ?_
        with_reducible refine wpQuiet_step (fun K hK => ?_)
        refine ⟨.slice (some ⟨g, 0, none⟩) n c, fun w' hw' => ?_, ?_⟩
        · first | (go_simp; done) | (go_simp; decide) | (go_simp; omega)
        with_reducible refine hK _ ?_
        clear hK K
        simp only [Act.put, List.setIfInBounds_toArray, List.set_cons_zero, List.set_cons_succ]
        with_reducible refine wpQuiet_step (fun K hK => ?_)
        refine ⟨.int .i64 q, fun w' hw' => ?_, ?_⟩
        · first | (go_simp; done) | (go_simp; decide) | (go_simp; omega)
        with_reducible refine hK _ ?_
        clear hK K
        simp only [Act.put, List.setIfInBounds_toArray, List.set_cons_zero, List.set_cons_succ]
        with_reducible refine wpQuiet_step (fun K hK => ?_)
        refine ⟨.pointer (some ⟨g, q * 5, none⟩), fun w' hw' => ?_, ?_⟩
        · first | (go_simp; done) | (go_simp; decide) | (go_simp; omega)
        with_reducible refine hK _ ?_
        clear hK K
        simp only [Act.put, List.setIfInBounds_toArray, List.set_cons_zero, List.set_cons_succ]
        with_reducible refine wpQuiet_step (fun K hK => ?_)
        refine ⟨.agg #[.int .i64 k2, .int .i64 x2, .string s2, .slice an2 ln2 cn2, .slice ai2 li2 ci2], fun w' hw' => ?_, ?_⟩
        · have t0 := stay hw' z0; have t1 := stay hw' z1; have t2 := stay hw' z2; have t3 := stay hw' z3; have t4 := stay hw' z4; go_simp
        with_reducible refine hK _ ?_
        clear hK K
        simp only [Act.put, List.setIfInBounds_toArray, List.set_cons_zero, List.set_cons_succ]
        with_reducible refine wpQuiet_step (fun K hK => ?_)
        refine ⟨.agg #[.int .i64 k1, .int .i64 x1, .string s1, .slice an1 ln1 cn1, .slice ai1 li1 ci1], fun w' hw' => ?_, ?_⟩
        · have t0 := stay hw' p0; have t1 := stay hw' p1; have t2 := stay hw' p2; have t3 := stay hw' p3; have t4 := stay hw' p4; go_simp
        with_reducible refine hK _ ?_
        clear hK K
        simp only [Act.put, List.setIfInBounds_toArray, List.set_cons_zero, List.set_cons_succ]
        with_reducible refine wpQuiet_step (fun K hK => ?_)
        refine ⟨.bool false, fun w' hw' => ?_, ?_⟩
        · go_simp
          refine (heq.out w' hw').mono ?_
          rintro e w'' ⟨rfl, hb'⟩
          exact ⟨rfl, hw'.trans (hb'.mono hw'.size)⟩
        with_reducible refine hK _ ?_
        clear hK K
        simp only [Act.put, List.setIfInBounds_toArray, List.set_cons_zero, List.set_cons_succ]
        refine wpQuiet_nil ?_
        intro X1 hX1
        replace z0 := stay hX1 z0
        replace z1 := stay hX1 z1
        replace z2 := stay hX1 z2
        replace z3 := stay hX1 z3
        replace z4 := stay hX1 z4
        replace p0 := stay hX1 p0
        replace p1 := stay hX1 p1
        replace p2 := stay hX1 p2
        replace p3 := stay hX1 p3
        replace p4 := stay hX1 p4
        have hb2 := hid_e (hb.out.trans (hX1.mono hb.out.size))
        obtain ⟨C, hC⟩ : ∃ C, Hid (cmpT e.t v = C) := ⟨_, rfl⟩
        rw [hC.out] at hcm
        have hcm2 := hid_e (fun W (hW : Below X1.heap.size X1 W) => hcm.out W (hX1.trans (hW.mono hX1.size)))
        have hno' := hid_e (no_step hno.out htq.out het)
        have hst := hid_e (atT_step (v := v) htq.out)
        rw [hC.out] at hst
        clear heq hcm hX1 hb hbw hno het hC
        go_upto_region 7 with fail
        by_cases hC0 : C ≤ 0
        · skip
          rw [if_pos hC0] at hst
          refine wp_region_quiet (C := fun w' => Below X1.heap.size X1 w') (by kernel_rfl) (by kernel_rfl) (below_drewN (Below.refl _ _) 1) ?_
          with_reducible refine wpQuiet_step (fun K hK => ?_)
          refine ⟨.slice (some ⟨g, 0, none⟩) n c, fun w' hw' => ?_, ?_⟩
          · first | (go_simp; done) | (go_simp; decide) | (go_simp; omega)
          with_reducible refine hK _ ?_
          clear hK K
          simp only [Act.put, List.setIfInBounds_toArray, List.set_cons_zero, List.set_cons_succ]
          with_reducible refine wpQuiet_step (fun K hK => ?_)
          refine ⟨.int .i64 q, fun w' hw' => ?_, ?_⟩
          · first | (go_simp; done) | (go_simp; decide) | (go_simp; omega)
          with_reducible refine hK _ ?_
          clear hK K
          simp only [Act.put, List.setIfInBounds_toArray, List.set_cons_zero, List.set_cons_succ]
          with_reducible refine wpQuiet_step (fun K hK => ?_)
          refine ⟨.pointer (some ⟨g, q * 5, none⟩), fun w' hw' => ?_, ?_⟩
          · first | (go_simp; done) | (go_simp; decide) | (go_simp; omega)
          with_reducible refine hK _ ?_
          clear hK K
          simp only [Act.put, List.setIfInBounds_toArray, List.set_cons_zero, List.set_cons_succ]
          with_reducible refine wpQuiet_step (fun K hK => ?_)
          refine ⟨.agg #[.int .i64 k2, .int .i64 x2, .string s2, .slice an2 ln2 cn2, .slice ai2 li2 ci2], fun w' hw' => ?_, ?_⟩
          · have t0 := stay hw' z0; have t1 := stay hw' z1; have t2 := stay hw' z2; have t3 := stay hw' z3; have t4 := stay hw' z4; go_simp
          with_reducible refine hK _ ?_
          clear hK K
          simp only [Act.put, List.setIfInBounds_toArray, List.set_cons_zero, List.set_cons_succ]
          with_reducible refine wpQuiet_step (fun K hK => ?_)
          refine ⟨.agg #[.int .i64 k1, .int .i64 x1, .string s1, .slice an1 ln1 cn1, .slice ai1 li1 ci1], fun w' hw' => ?_, ?_⟩
          · have t0 := stay hw' p0; have t1 := stay hw' p1; have t2 := stay hw' p2; have t3 := stay hw' p3; have t4 := stay hw' p4; go_simp
          with_reducible refine hK _ ?_
          clear hK K
          simp only [Act.put, List.setIfInBounds_toArray, List.set_cons_zero, List.set_cons_succ]
          with_reducible refine wpQuiet_step (fun K hK => ?_)
          refine ⟨.int .i64 C, fun w' hw' => ?_, ?_⟩
          · go_simp
            refine (hcm2.out w' hw').mono ?_
            rintro e w'' ⟨rfl, hb'⟩
            exact ⟨rfl, hw'.trans (hb'.mono hw'.size)⟩
          with_reducible refine hK _ ?_
          clear hK K
          simp only [Act.put, List.setIfInBounds_toArray, List.set_cons_zero, List.set_cons_succ]
          with_reducible refine wpQuiet_step (fun K hK => ?_)
          refine ⟨.bool true, fun w' hw' => ?_, ?_⟩
          · first | (go_simp; done) | (go_simp; decide) | (go_simp; omega)
          with_reducible refine hK _ ?_
          clear hK K
          simp only [Act.put, List.setIfInBounds_toArray, List.set_cons_zero, List.set_cons_succ]
          refine wpQuiet_nil ?_
          intro X2 hX2
          have hb' := hid_e (hb2.out.trans (hX2.mono hb2.out.size))
          clear z0 z1 z2 z3 z4 p0 p1 p2 p3 p4 hcm2 hX2 hb2
          go_wp2_with fail
          exact ⟨⟨q + 1, q + 1, by go_num, by go_num, by omega, by omega, hst.out.symm, hno', hb'⟩, by simp [intOf]; omega⟩
        · skip
          rw [if_neg hC0, ← hp.out] at hst
          refine wp_region_quiet (C := fun w' => Below X1.heap.size X1 w') (by kernel_rfl) (by kernel_rfl) (below_drewN (Below.refl _ _) 1) ?_
          with_reducible refine wpQuiet_step (fun K hK => ?_)
          refine ⟨.slice (some ⟨g, 0, none⟩) n c, fun w' hw' => ?_, ?_⟩
          · first | (go_simp; done) | (go_simp; decide) | (go_simp; omega)
          with_reducible refine hK _ ?_
          clear hK K
          simp only [Act.put, List.setIfInBounds_toArray, List.set_cons_zero, List.set_cons_succ]
          with_reducible refine wpQuiet_step (fun K hK => ?_)
          refine ⟨.int .i64 q, fun w' hw' => ?_, ?_⟩
          · first | (go_simp; done) | (go_simp; decide) | (go_simp; omega)
          with_reducible refine hK _ ?_
          clear hK K
          simp only [Act.put, List.setIfInBounds_toArray, List.set_cons_zero, List.set_cons_succ]
          with_reducible refine wpQuiet_step (fun K hK => ?_)
          refine ⟨.pointer (some ⟨g, q * 5, none⟩), fun w' hw' => ?_, ?_⟩
          · first | (go_simp; done) | (go_simp; decide) | (go_simp; omega)
          with_reducible refine hK _ ?_
          clear hK K
          simp only [Act.put, List.setIfInBounds_toArray, List.set_cons_zero, List.set_cons_succ]
          with_reducible refine wpQuiet_step (fun K hK => ?_)
          refine ⟨.agg #[.int .i64 k2, .int .i64 x2, .string s2, .slice an2 ln2 cn2, .slice ai2 li2 ci2], fun w' hw' => ?_, ?_⟩
          · have t0 := stay hw' z0; have t1 := stay hw' z1; have t2 := stay hw' z2; have t3 := stay hw' z3; have t4 := stay hw' z4; go_simp
          with_reducible refine hK _ ?_
          clear hK K
          simp only [Act.put, List.setIfInBounds_toArray, List.set_cons_zero, List.set_cons_succ]
          with_reducible refine wpQuiet_step (fun K hK => ?_)
          refine ⟨.agg #[.int .i64 k1, .int .i64 x1, .string s1, .slice an1 ln1 cn1, .slice ai1 li1 ci1], fun w' hw' => ?_, ?_⟩
          · have t0 := stay hw' p0; have t1 := stay hw' p1; have t2 := stay hw' p2; have t3 := stay hw' p3; have t4 := stay hw' p4; go_simp
          with_reducible refine hK _ ?_
          clear hK K
          simp only [Act.put, List.setIfInBounds_toArray, List.set_cons_zero, List.set_cons_succ]
          with_reducible refine wpQuiet_step (fun K hK => ?_)
          refine ⟨.int .i64 C, fun w' hw' => ?_, ?_⟩
          · go_simp
            refine (hcm2.out w' hw').mono ?_
            rintro e w'' ⟨rfl, hb'⟩
            exact ⟨rfl, hw'.trans (hb'.mono hw'.size)⟩
          with_reducible refine hK _ ?_
          clear hK K
          simp only [Act.put, List.setIfInBounds_toArray, List.set_cons_zero, List.set_cons_succ]
          with_reducible refine wpQuiet_step (fun K hK => ?_)
          refine ⟨.bool false, fun w' hw' => ?_, ?_⟩
          · first | (go_simp; done) | (go_simp; decide) | (go_simp; omega)
          with_reducible refine hK _ ?_
          clear hK K
          simp only [Act.put, List.setIfInBounds_toArray, List.set_cons_zero, List.set_cons_succ]
          refine wpQuiet_nil ?_
          intro X2 hX2
          have hb' := hid_e (hb2.out.trans (hX2.mono hb2.out.size))
          clear z0 z1 z2 z3 z4 p0 p1 p2 p3 p4 hcm2 hX2 hb2
          go_wp2_with fail
          exact ⟨⟨q + 1, p, by go_num, by go_num, by omega, by omega, hst.out.symm, hno', hb'⟩, by simp [intOf]; omega⟩
    · skip
      obtain rfl : q = n := by omega
      have q1 : ¬ (q : Int) < (q : Int) := by omega
      obtain ⟨n, hnq⟩ : ∃ n, n = q := ⟨_, rfl⟩
      subst hnq
      rw [List.take_of_length_le (by rw [treesE_len, hn.out]; exact Nat.le_refl _)] at hno
      have hput : Hid (putT (treesE ms) v = (treesE ms).take p ++ v :: (treesE ms).drop p) := by have h := put_merge hup.out hno.out; rw [treesE_len, hn.out, ← hp.out] at h; exact h
      obtain ⟨e0, he0⟩ : ∃ e0 : El, Hid (e0 = ⟨(five k1 x1 s1 (.slice an1 ln1 cn1) (.slice ai1 li1 ci1)), v⟩) := ⟨_, rfl⟩
      obtain ⟨ks, hks⟩ : ∃ ks, Hid (ks = ms.take p ++ e0 :: ms.drop p) := ⟨_, rfl⟩
      have htk : Hid (treesE ks = putT (treesE ms) v) := by rw [hput.out, hks.out, he0.out]; show _ = _; simp [treesE, List.map_take, List.map_drop]
      have hkl : Hid (ks.length = n + 1) := by rw [hks.out]; show _ = _; rw [List.length_append, List.length_cons, List.length_take, List.length_drop, hn.out]; omega
      have hck : Hid (cellsE ks = (cellsE (ms.take p)) ++ [.int .i64 k1, .int .i64 x1, .string s1, .slice an1 ln1 cn1, .slice ai1 li1 ci1] ++ (cellsE (ms.drop p))) := by rw [hks.out, he0.out]; show _ = _; simp [cellsE, five]
      have hmk : Hid (∀ k ∈ ks, k ∈ ms ∨ k = e0) := fun k hk => by rw [hks.out] at hk; rcases List.mem_append.1 hk with h | h; exact .inl (List.mem_of_mem_take h); rcases List.mem_cons.1 h with h | h; exact .inr h; exact .inl (List.mem_of_mem_drop h)
      have hkS : Hid (∀ k ∈ ks, SmallT k.t) := fun k hk => by rcases hmk.out k hk with h | h; exact hS.out k h; rw [h, he0.out]; exact hSv.out
      have hkf : Hid (∀ k ∈ ks, Five k.cs) := fun k hk => by rcases hmk.out k hk with h | h; exact hL.out.fives k h; rw [h, he0.out]; exact ⟨_, _, _, _, _, _, _, _, _, rfl⟩
      have hkr : Hid (∀ k ∈ ks, VRep W0 k.t k.cs) := fun k hk => by rcases hmk.out k hk with h | h; exact hL.out.reads k h; rw [h, he0.out]; exact hv.out
      clear hput hno hp hks he0 hmk
      have len1 : Hid ((cellsE (ms.take p)).length = p * 5) := by show _ = _; rw [cellsE_len (fun e he => hL.out.fives e (List.mem_of_mem_take he)), List.length_take, hn.out, Nat.min_eq_left hpq]
      have len2 : Hid ((cellsE (ms.drop p)).length = (n - p) * 5) := by show _ = _; rw [cellsE_len (fun e he => hL.out.fives e (List.mem_of_mem_drop he)), List.length_drop, hn.out]
      have one1 : Hid (∀ u ∈ (cellsE (ms.take p)), u.oneCell' = true) := cellsE_one (fun e he => hL.out.fives e (List.mem_of_mem_take he))
      have one2 : Hid (∀ u ∈ (cellsE (ms.drop p)), u.oneCell' = true) := cellsE_one (fun e he => hL.out.fives e (List.mem_of_mem_drop he))
      have one3 : Hid (∀ u ∈ ([.int .i64 k1, .int .i64 x1, .string s1, .slice an1 ln1 cn1, .slice ai1 li1 ci1] : List Value), u.oneCell' = true) := five_one _ _ _ _ _ _ _ _ _
      have hbd : Hid (Below w.heap.size w wr.drew) := below_drew hbw.out
      have rA := hid_e (owns_vals wr.drew)
      have rB := hid_e (rA.out.alloc (.cells #[.int .i64 k1, .int .i64 x1, .string s1, .slice an1 ln1 cn1, .slice ai1 li1 ci1] 25))
      have rC := hid_e (ownsRow_lo (owns_vals (wr.drew.alloc (.cells #[.int .i64 k1, .int .i64 x1, .string s1, .slice an1 ln1 cn1, .slice ai1 li1 ci1] 25))) (lo' := wr.drew.heap.size) (by rw [World.size_alloc]; omega))
      rw [World.size_alloc] at rC
      have bA : Hid (Below wr.drew.heap.size wr.drew (wr.drew.alloc (.cells #[] 25))) := (Below.refl _ _).alloc (Nat.le_refl _) _
      have bB : Hid (Below wr.drew.heap.size wr.drew ((wr.drew.alloc (.cells #[] 25)).alloc (.cells #[.int .i64 k1, .int .i64 x1, .string s1, .slice an1 ln1 cn1, .slice ai1 li1 ci1] 25))) := bA.out.alloc bA.out.size _
      have bC : Hid (Below wr.drew.heap.size wr.drew ((wr.drew.alloc (.cells #[.int .i64 k1, .int .i64 x1, .string s1, .slice an1 ln1 cn1, .slice ai1 li1 ci1] 25)).alloc (.cells #[] 25))) := ((Below.refl _ _).alloc (Nat.le_refl _) _).alloc (by rw [World.size_alloc]; omega) _
      have fA : Hid (∀ (g4 : Nat) (W : World), (wr.drew.alloc (.cells #[] 25)).grownBy W (some wr.drew.heap.size) → (g4 = wr.drew.heap.size ∨ g4 = (wr.drew.alloc (.cells #[] 25)).heap.size) → Below wr.drew.heap.size wr.drew W ∧ wr.drew.heap.size ≤ g4) := fun g4 W hg ha => ⟨bA.out.trans (grown_below hg bA.out.size (fun g h => by cases h; exact Nat.le_refl _)), by rcases ha with h | h; omega; rw [h]; exact bA.out.size⟩
      have fB : Hid (∀ (g4 : Nat) (W : World), ((wr.drew.alloc (.cells #[] 25)).alloc (.cells #[.int .i64 k1, .int .i64 x1, .string s1, .slice an1 ln1 cn1, .slice ai1 li1 ci1] 25)).grownBy W (some wr.drew.heap.size) → (g4 = wr.drew.heap.size ∨ g4 = ((wr.drew.alloc (.cells #[] 25)).alloc (.cells #[.int .i64 k1, .int .i64 x1, .string s1, .slice an1 ln1 cn1, .slice ai1 li1 ci1] 25)).heap.size) → Below wr.drew.heap.size wr.drew W ∧ wr.drew.heap.size ≤ g4 ∧ CellsAt W (wr.drew.heap.size + 1) 0 [.int .i64 k1, .int .i64 x1, .string s1, .slice an1 ln1 cn1, .slice ai1 li1 ci1]) := fun g4 W hg ha => ⟨bB.out.trans (grown_below hg bB.out.size (fun g h => by cases h; exact Nat.le_refl _)), (by rcases ha with h | h; omega; rw [h]; exact bB.out.size), by
        have h := (hg.block (wr.drew.heap.size + 1) (by simp) (by intro e; injection e with e; omega)).trans (new2 wr.drew (.cells #[] 25) (.cells #[.int .i64 k1, .int .i64 x1, .string s1, .slice an1 ln1 cn1, .slice ai1 li1 ci1] 25))
        exact cells_of h⟩
      have fC : Hid (∀ (g4 : Nat) (W : World), ((wr.drew.alloc (.cells #[.int .i64 k1, .int .i64 x1, .string s1, .slice an1 ln1 cn1, .slice ai1 li1 ci1] 25)).alloc (.cells #[] 25)).grownBy W (some (wr.drew.heap.size + 1)) → (g4 = wr.drew.heap.size + 1 ∨ g4 = ((wr.drew.alloc (.cells #[.int .i64 k1, .int .i64 x1, .string s1, .slice an1 ln1 cn1, .slice ai1 li1 ci1] 25)).alloc (.cells #[] 25)).heap.size) → Below wr.drew.heap.size wr.drew W ∧ wr.drew.heap.size ≤ g4 ∧ CellsAt W wr.drew.heap.size 0 [.int .i64 k1, .int .i64 x1, .string s1, .slice an1 ln1 cn1, .slice ai1 li1 ci1]) := fun g4 W hg ha => ⟨bC.out.trans (grown_below hg bC.out.size (fun g h => by cases h; exact Nat.le_succ _)), (by rcases ha with h | h; omega; rw [h]; exact bC.out.size), by
        have h := (hg.block wr.drew.heap.size (by simp; omega) (by intro e; injection e with e; omega)).trans (new1 wr.drew (.cells #[.int .i64 k1, .int .i64 x1, .string s1, .slice an1 ln1 cn1, .slice ai1 li1 ci1] 25) (.cells #[] 25))
        exact cells_of h⟩
      have snd : Hid (∀ (g4 g5 : Nat) (W W' : World), Below wr.drew.heap.size wr.drew W → wr.drew.heap.size ≤ g4 → W.grownBy W' (some g4) → (g5 = g4 ∨ g5 = W.heap.size) → Below wr.drew.heap.size wr.drew W' ∧ wr.drew.heap.size ≤ g5) := fun g4 g5 W W' h1 h2 h3 h4 => ⟨h1.trans (grown_below h3 h1.size (fun g h => by cases h; exact h2)), by rcases h4 with h | h; omega; rw [h]; exact h1.size⟩
      have fin : Hid (∀ (g6 c6 : Nat) (W : World), Below wr.drew.heap.size wr.drew W → W.ownsRow wr.drew.heap.size 25 5 (.slice (some ⟨g6, 0, none⟩) (p + 1 + (n - p)) c6) (p + 1 + (n - p)) ((cellsE (ms.take p)) ++ [.int .i64 k1, .int .i64 x1, .string s1, .slice an1 ln1 cn1, .slice ai1 li1 ci1] ++ (cellsE (ms.drop p))) → LIn W0 base W (.slice (some ⟨g6, 0, none⟩) ks.length c6) ks ∧ Below w.heap.size w W) := fun g6 c6 W hW hr => by
        have e1 : p + 1 + (n - p) = ks.length := by rw [hkl.out]; omega
        rw [e1, ← hck.out] at hr
        exact ⟨⟨ownsRow_lo hr (Nat.le_trans hbase.out hbd.out.size), hkf.out, hkr.out⟩, hbd.out.trans (hW.mono hbd.out.size)⟩
      have s0A : Hid (wr.drew.heap.size ≤ (wr.drew.alloc (.cells #[] 25)).heap.size) := bA.out.size
      have s0B : Hid (wr.drew.heap.size ≤ ((wr.drew.alloc (.cells #[] 25)).alloc (.cells #[.int .i64 k1, .int .i64 x1, .string s1, .slice an1 ln1 cn1, .slice ai1 li1 ci1] 25)).heap.size) := bB.out.size
      have s0C : Hid (wr.drew.heap.size ≤ ((wr.drew.alloc (.cells #[.int .i64 k1, .int .i64 x1, .string s1, .slice an1 ln1 cn1, .slice ai1 li1 ci1] 25)).alloc (.cells #[] 25)).heap.size) := bC.out.size
      have y0 : wr.drew.cell? ⟨w.heap.size, 0, none⟩ = some (.int .i64 k1) := p0
      have y1 : wr.drew.cell? ⟨w.heap.size, 1, none⟩ = some (.int .i64 x1) := p1
      have y2 : wr.drew.cell? ⟨w.heap.size, 2, none⟩ = some (.string s1) := p2
      have y3 : wr.drew.cell? ⟨w.heap.size, 3, none⟩ = some (.slice an1 ln1 cn1) := p3
      have y4 : wr.drew.cell? ⟨w.heap.size, 4, none⟩ = some (.slice ai1 li1 ci1) := p4
      have hkl0 : Hid (ks.length ≤ n + 1) := by rw [hkl.out]; exact hid_e (Nat.le_refl _)
      clear hb1 hb hpw hp1
      go_upto_region 9 with fail
      by_cases hz : n = 0
      · skip
        obtain ⟨rfl, rfl⟩ := hm0.out hz
        obtain rfl : p = 0 := by omega
        subst hz
        have src1 : Hid (∀ (Z : World), Below wr.drew.heap.size wr.drew Z → ((0 : Nat) = 0 ∨ ∃ b off, (none : Option Addr) = some ⟨b, off, none⟩ ∧ CellsAt Z b off (cellsE (ms.take 0)))) := fun _ _ => .inl rfl
        have e3 : cellsE (ms.drop 0) = [] := List.eq_nil_of_length_eq_zero (by have := len2.out; omega)
        go_region_held3 (fun W => W.cell? ⟨w.heap.size, 0, none⟩ = some (.int .i64 k1) ∧ W.cell? ⟨w.heap.size, 1, none⟩ = some (.int .i64 x1) ∧ W.cell? ⟨w.heap.size, 2, none⟩ = some (.string s1) ∧ W.cell? ⟨w.heap.size, 3, none⟩ = some (.slice an1 ln1 cn1) ∧ W.cell? ⟨w.heap.size, 4, none⟩ = some (.slice ai1 li1 ci1)) (refine ⟨?_, ?_, ?_, ?_, ?_⟩ <;> repeat (first | assumption | refine cell_al _ ?_)) (first
          | (refine step_append_vals rfl _ _ _ rfl wr.drew.heap.size wr.drew.heap.size 0 0 [] rA.out rfl none 0 _ (cellsE (ms.take 0)) rfl len1.out (src1.out _ bA.out) one1.out (by omega) s0A.out ?_; intro g4 c4 w4 hown4 hgrow4 hat4; rw [Nat.zero_add, List.nil_append] at hown4; rw [Nat.zero_add]; have row4 := hid_e hown4; obtain ⟨b4, own4⟩ := fA.out g4 w4 hgrow4 hat4; replace b4 := hid_e b4; replace own4 := hid_e own4;  have xa0 := stay b4.out y0; have xa1 := stay b4.out y1; have xa2 := stay b4.out y2; have xa3 := stay b4.out y3; have xa4 := stay b4.out y4; clear hown4 hgrow4 hat4 rA rB rC)
          | (refine step_append_vals rfl _ _ _ rfl wr.drew.heap.size wr.drew.heap.size 0 0 [] rB.out rfl none 0 _ (cellsE (ms.take 0)) rfl len1.out (src1.out _ bB.out) one1.out (by omega) s0B.out ?_; intro g4 c4 w4 hown4 hgrow4 hat4; rw [Nat.zero_add, List.nil_append] at hown4; rw [Nat.zero_add]; have row4 := hid_e hown4; obtain ⟨b4, own4, vB⟩ := fB.out g4 w4 hgrow4 hat4; replace b4 := hid_e b4; replace own4 := hid_e own4; replace vB := hid_e vB; have xa0 := stay b4.out y0; have xa1 := stay b4.out y1; have xa2 := stay b4.out y2; have xa3 := stay b4.out y3; have xa4 := stay b4.out y4; clear hown4 hgrow4 hat4 rA rB rC)
          | (refine step_append_vals rfl _ _ _ rfl wr.drew.heap.size (wr.drew.heap.size + 1) 0 0 [] rC.out rfl none 0 _ (cellsE (ms.take 0)) rfl len1.out (src1.out _ bC.out) one1.out (by omega) s0C.out ?_; intro g4 c4 w4 hown4 hgrow4 hat4; rw [Nat.zero_add, List.nil_append] at hown4; rw [Nat.zero_add]; have row4 := hid_e hown4; obtain ⟨b4, own4, vC⟩ := fC.out g4 w4 hgrow4 hat4; replace b4 := hid_e b4; replace own4 := hid_e own4; replace vC := hid_e vC; have xa0 := stay b4.out y0; have xa1 := stay b4.out y1; have xa2 := stay b4.out y2; have xa3 := stay b4.out y3; have xa4 := stay b4.out y4; clear hown4 hgrow4 hat4 rA rB rC)
          | (refine step_append_vals rfl _ _ _ rfl wr.drew.heap.size g4 0 c4 (cellsE (ms.take 0)) (row4.out.alloc (.cells #[.int .i64 k1, .int .i64 x1, .string s1, .slice an1 ln1 cn1, .slice ai1 li1 ci1] 25)) rfl (some ⟨w4.heap.size, 0, none⟩) 1 1 [.int .i64 k1, .int .i64 x1, .string s1, .slice an1 ln1 cn1, .slice ai1 li1 ci1] rfl rfl (.inr ⟨_, _, rfl, val_lies w4 [.int .i64 k1, .int .i64 x1, .string s1, .slice an1 ln1 cn1, .slice ai1 li1 ci1]⟩) one3.out (by omega) (by rw [World.size_alloc]; have := b4.out.size; omega) ?_; intro g5 c5 w5 hown5 hgrow5 hat5; have row5 := hid_e hown5; obtain ⟨b5, own5⟩ := snd.out g4 g5 _ w5 (b4.out.alloc b4.out.size _) own4.out hgrow5 hat5; replace b5 := hid_e b5; replace own5 := hid_e own5; have xb0 := stay b5.out y0; have xb1 := stay b5.out y1; have xb2 := stay b5.out y2; have xb3 := stay b5.out y3; have xb4 := stay b5.out y4; clear hown5 hgrow5 hat5 row4 xa0 xa1 xa2 xa3 xa4)
          | (refine step_append_vals rfl _ _ _ rfl wr.drew.heap.size g4 0 c4 (cellsE (ms.take 0)) row4.out rfl (some ⟨wr.drew.heap.size + 1, 0, none⟩) 1 1 [.int .i64 k1, .int .i64 x1, .string s1, .slice an1 ln1 cn1, .slice ai1 li1 ci1] rfl rfl (.inr ⟨_, _, rfl, vB.out⟩) one3.out (by omega) b4.out.size ?_; intro g5 c5 w5 hown5 hgrow5 hat5; have row5 := hid_e hown5; obtain ⟨b5, own5⟩ := snd.out g4 g5 _ w5 b4.out own4.out hgrow5 hat5; replace b5 := hid_e b5; replace own5 := hid_e own5; have xb0 := stay b5.out y0; have xb1 := stay b5.out y1; have xb2 := stay b5.out y2; have xb3 := stay b5.out y3; have xb4 := stay b5.out y4; clear hown5 hgrow5 hat5 row4 xa0 xa1 xa2 xa3 xa4)
          | (refine step_append_vals rfl _ _ _ rfl wr.drew.heap.size g4 0 c4 (cellsE (ms.take 0)) row4.out rfl (some ⟨wr.drew.heap.size, 0, none⟩) 1 1 [.int .i64 k1, .int .i64 x1, .string s1, .slice an1 ln1 cn1, .slice ai1 li1 ci1] rfl rfl (.inr ⟨_, _, rfl, vC.out⟩) one3.out (by omega) b4.out.size ?_; intro g5 c5 w5 hown5 hgrow5 hat5; have row5 := hid_e hown5; obtain ⟨b5, own5⟩ := snd.out g4 g5 _ w5 b4.out own4.out hgrow5 hat5; replace b5 := hid_e b5; replace own5 := hid_e own5; have xb0 := stay b5.out y0; have xb1 := stay b5.out y1; have xb2 := stay b5.out y2; have xb3 := stay b5.out y3; have xb4 := stay b5.out y4; clear hown5 hgrow5 hat5 row4 xa0 xa1 xa2 xa3 xa4)
          | (refine step_append_vals rfl _ _ _ rfl wr.drew.heap.size g5 (0 + 1) c5 ((cellsE (ms.take 0)) ++ [.int .i64 k1, .int .i64 x1, .string s1, .slice an1 ln1 cn1, .slice ai1 li1 ci1]) row5.out rfl none 0 _ [] rfl rfl (.inl rfl) (fun u hu => by cases hu) (by omega) b5.out.size ?_; intro g6 c6 w6 hown6 hgrow6 hat6;  obtain ⟨hLf, hbf⟩ := fin.out g6 c6 w6 (snd.out g5 g6 _ w6 b5.out own5.out hgrow6 hat6).1 (by first | exact hown6 | (rw [e3]; simpa using hown6)); replace hLf := hid_e hLf; replace hbf := hid_e hbf; have b6 := hid_e (snd.out g5 g6 _ w6 b5.out own5.out hgrow6 hat6).1; have xc0 := stay b6.out y0; have xc1 := stay b6.out y1; have xc2 := stay b6.out y2; have xc3 := stay b6.out y3; have xc4 := stay b6.out y4; clear hown6 hgrow6 hat6 row5 xb0 xb1 xb2 xb3 xb4))
        all_goals
          go_wp2_with fail
          go_ret
          exact ⟨some ⟨g6, 0, none⟩, c6, ks, by first | rfl | (simp [hkl.out]; done) | (simp [hkl.out]; omega), hLf.out, htk.out, hkS.out, (fun h => by have := hkl.out; first | omega | (rw [h] at this; simp at this)), hkl0.out, hbf.out⟩
      obtain ⟨g, eg⟩ := hL.out.addr hn.out (by omega)
      subst eg
      have hcap := hL.out.cap
      have hcl : Hid (CellsAt w g 0 (cellsE (ms.take p)) ∧ CellsAt w g (p * 5) (cellsE (ms.drop p))) := by rcases cells_take hL.out.fives (vals_lie hL.out) p with h | h; exact h; rw [hn.out] at h; omega
      have src1 : Hid (∀ (Z : World), Below wr.drew.heap.size wr.drew Z → (p = 0 ∨ ∃ b off, (some (⟨g, 0, none⟩ : Addr)) = some ⟨b, off, none⟩ ∧ CellsAt Z b off (cellsE (ms.take p)))) := fun Z hZ => .inr ⟨g, 0, rfl, fun j u hj => stay (hbd.out.trans (hZ.mono hbd.out.size)) (hcl.out.1 j u hj)⟩
      have pc1 : (p : Int) ≤ (c : Int) := by omega
      have pc2 : p ≤ c := by omega
      have pn1 : (p : Int) ≤ (n : Int) := by omega
      have nc1 : (n : Int) ≤ (c : Int) := by omega
      by_cases hpc : c = p
      · skip
        subst hpc
        have e3 : cellsE (ms.drop c) = [] := List.eq_nil_of_length_eq_zero (by have := len2.out; omega)
        have e4 : n - c = 0 := by omega
        go_region_held3 (fun W => W.cell? ⟨w.heap.size, 0, none⟩ = some (.int .i64 k1) ∧ W.cell? ⟨w.heap.size, 1, none⟩ = some (.int .i64 x1) ∧ W.cell? ⟨w.heap.size, 2, none⟩ = some (.string s1) ∧ W.cell? ⟨w.heap.size, 3, none⟩ = some (.slice an1 ln1 cn1) ∧ W.cell? ⟨w.heap.size, 4, none⟩ = some (.slice ai1 li1 ci1)) (refine ⟨?_, ?_, ?_, ?_, ?_⟩ <;> repeat (first | assumption | refine cell_al _ ?_)) (first
          | (refine step_append_vals rfl _ _ _ rfl wr.drew.heap.size wr.drew.heap.size 0 0 [] rA.out rfl (some ⟨g, 0, none⟩) c _ (cellsE (ms.take c)) rfl len1.out (src1.out _ bA.out) one1.out (by omega) s0A.out ?_; intro g4 c4 w4 hown4 hgrow4 hat4; rw [Nat.zero_add, List.nil_append] at hown4; rw [Nat.zero_add]; have row4 := hid_e hown4; obtain ⟨b4, own4⟩ := fA.out g4 w4 hgrow4 hat4; replace b4 := hid_e b4; replace own4 := hid_e own4;  have xa0 := stay b4.out y0; have xa1 := stay b4.out y1; have xa2 := stay b4.out y2; have xa3 := stay b4.out y3; have xa4 := stay b4.out y4; clear hown4 hgrow4 hat4 rA rB rC)
          | (refine step_append_vals rfl _ _ _ rfl wr.drew.heap.size wr.drew.heap.size 0 0 [] rB.out rfl (some ⟨g, 0, none⟩) c _ (cellsE (ms.take c)) rfl len1.out (src1.out _ bB.out) one1.out (by omega) s0B.out ?_; intro g4 c4 w4 hown4 hgrow4 hat4; rw [Nat.zero_add, List.nil_append] at hown4; rw [Nat.zero_add]; have row4 := hid_e hown4; obtain ⟨b4, own4, vB⟩ := fB.out g4 w4 hgrow4 hat4; replace b4 := hid_e b4; replace own4 := hid_e own4; replace vB := hid_e vB; have xa0 := stay b4.out y0; have xa1 := stay b4.out y1; have xa2 := stay b4.out y2; have xa3 := stay b4.out y3; have xa4 := stay b4.out y4; clear hown4 hgrow4 hat4 rA rB rC)
          | (refine step_append_vals rfl _ _ _ rfl wr.drew.heap.size (wr.drew.heap.size + 1) 0 0 [] rC.out rfl (some ⟨g, 0, none⟩) c _ (cellsE (ms.take c)) rfl len1.out (src1.out _ bC.out) one1.out (by omega) s0C.out ?_; intro g4 c4 w4 hown4 hgrow4 hat4; rw [Nat.zero_add, List.nil_append] at hown4; rw [Nat.zero_add]; have row4 := hid_e hown4; obtain ⟨b4, own4, vC⟩ := fC.out g4 w4 hgrow4 hat4; replace b4 := hid_e b4; replace own4 := hid_e own4; replace vC := hid_e vC; have xa0 := stay b4.out y0; have xa1 := stay b4.out y1; have xa2 := stay b4.out y2; have xa3 := stay b4.out y3; have xa4 := stay b4.out y4; clear hown4 hgrow4 hat4 rA rB rC)
          | (refine step_append_vals rfl _ _ _ rfl wr.drew.heap.size g4 c c4 (cellsE (ms.take c)) (row4.out.alloc (.cells #[.int .i64 k1, .int .i64 x1, .string s1, .slice an1 ln1 cn1, .slice ai1 li1 ci1] 25)) rfl (some ⟨w4.heap.size, 0, none⟩) 1 1 [.int .i64 k1, .int .i64 x1, .string s1, .slice an1 ln1 cn1, .slice ai1 li1 ci1] rfl rfl (.inr ⟨_, _, rfl, val_lies w4 [.int .i64 k1, .int .i64 x1, .string s1, .slice an1 ln1 cn1, .slice ai1 li1 ci1]⟩) one3.out (by omega) (by rw [World.size_alloc]; have := b4.out.size; omega) ?_; intro g5 c5 w5 hown5 hgrow5 hat5; have row5 := hid_e hown5; obtain ⟨b5, own5⟩ := snd.out g4 g5 _ w5 (b4.out.alloc b4.out.size _) own4.out hgrow5 hat5; replace b5 := hid_e b5; replace own5 := hid_e own5; have xb0 := stay b5.out y0; have xb1 := stay b5.out y1; have xb2 := stay b5.out y2; have xb3 := stay b5.out y3; have xb4 := stay b5.out y4; clear hown5 hgrow5 hat5 row4 xa0 xa1 xa2 xa3 xa4)
          | (refine step_append_vals rfl _ _ _ rfl wr.drew.heap.size g4 c c4 (cellsE (ms.take c)) row4.out rfl (some ⟨wr.drew.heap.size + 1, 0, none⟩) 1 1 [.int .i64 k1, .int .i64 x1, .string s1, .slice an1 ln1 cn1, .slice ai1 li1 ci1] rfl rfl (.inr ⟨_, _, rfl, vB.out⟩) one3.out (by omega) b4.out.size ?_; intro g5 c5 w5 hown5 hgrow5 hat5; have row5 := hid_e hown5; obtain ⟨b5, own5⟩ := snd.out g4 g5 _ w5 b4.out own4.out hgrow5 hat5; replace b5 := hid_e b5; replace own5 := hid_e own5; have xb0 := stay b5.out y0; have xb1 := stay b5.out y1; have xb2 := stay b5.out y2; have xb3 := stay b5.out y3; have xb4 := stay b5.out y4; clear hown5 hgrow5 hat5 row4 xa0 xa1 xa2 xa3 xa4)
          | (refine step_append_vals rfl _ _ _ rfl wr.drew.heap.size g4 c c4 (cellsE (ms.take c)) row4.out rfl (some ⟨wr.drew.heap.size, 0, none⟩) 1 1 [.int .i64 k1, .int .i64 x1, .string s1, .slice an1 ln1 cn1, .slice ai1 li1 ci1] rfl rfl (.inr ⟨_, _, rfl, vC.out⟩) one3.out (by omega) b4.out.size ?_; intro g5 c5 w5 hown5 hgrow5 hat5; have row5 := hid_e hown5; obtain ⟨b5, own5⟩ := snd.out g4 g5 _ w5 b4.out own4.out hgrow5 hat5; replace b5 := hid_e b5; replace own5 := hid_e own5; have xb0 := stay b5.out y0; have xb1 := stay b5.out y1; have xb2 := stay b5.out y2; have xb3 := stay b5.out y3; have xb4 := stay b5.out y4; clear hown5 hgrow5 hat5 row4 xa0 xa1 xa2 xa3 xa4)
          | (refine step_append_vals rfl _ _ _ rfl wr.drew.heap.size g5 (c + 1) c5 ((cellsE (ms.take c)) ++ [.int .i64 k1, .int .i64 x1, .string s1, .slice an1 ln1 cn1, .slice ai1 li1 ci1]) row5.out rfl (some (⟨g, 0, none⟩ : Addr)) 0 _ [] rfl rfl (.inl rfl) (fun u hu => by cases hu) (by omega) b5.out.size ?_; intro g6 c6 w6 hown6 hgrow6 hat6;  obtain ⟨hLf, hbf⟩ := fin.out g6 c6 w6 (snd.out g5 g6 _ w6 b5.out own5.out hgrow6 hat6).1 (by first | exact hown6 | (rw [e3, e4]; simpa using hown6)); replace hLf := hid_e hLf; replace hbf := hid_e hbf; have b6 := hid_e (snd.out g5 g6 _ w6 b5.out own5.out hgrow6 hat6).1; have xc0 := stay b6.out y0; have xc1 := stay b6.out y1; have xc2 := stay b6.out y2; have xc3 := stay b6.out y3; have xc4 := stay b6.out y4; clear hown6 hgrow6 hat6 row5 xb0 xb1 xb2 xb3 xb4))
        all_goals
          go_wp2_with fail
          go_ret
          exact ⟨some ⟨g6, 0, none⟩, c6, ks, by first | rfl | (simp [hkl.out]; omega), hLf.out, htk.out, hkS.out, (fun h => by have := hkl.out; first | omega | (rw [h] at this; simp at this)), hkl0.out, hbf.out⟩
      have pc3 : ¬ (c = p) := hpc
      have pc4 : (p : Int) < (c : Int) := by omega
      have pc5 : p < c := by omega
      go_region_held3 (fun W => W.cell? ⟨w.heap.size, 0, none⟩ = some (.int .i64 k1) ∧ W.cell? ⟨w.heap.size, 1, none⟩ = some (.int .i64 x1) ∧ W.cell? ⟨w.heap.size, 2, none⟩ = some (.string s1) ∧ W.cell? ⟨w.heap.size, 3, none⟩ = some (.slice an1 ln1 cn1) ∧ W.cell? ⟨w.heap.size, 4, none⟩ = some (.slice ai1 li1 ci1)) (refine ⟨?_, ?_, ?_, ?_, ?_⟩ <;> repeat (first | assumption | refine cell_al _ ?_)) (first
        | (refine step_append_vals rfl _ _ _ rfl wr.drew.heap.size wr.drew.heap.size 0 0 [] rA.out rfl (some ⟨g, 0, none⟩) p _ (cellsE (ms.take p)) rfl len1.out (src1.out _ bA.out) one1.out (by omega) s0A.out ?_; intro g4 c4 w4 hown4 hgrow4 hat4; rw [Nat.zero_add, List.nil_append] at hown4; rw [Nat.zero_add]; have row4 := hid_e hown4; obtain ⟨b4, own4⟩ := fA.out g4 w4 hgrow4 hat4; replace b4 := hid_e b4; replace own4 := hid_e own4;  have xa0 := stay b4.out y0; have xa1 := stay b4.out y1; have xa2 := stay b4.out y2; have xa3 := stay b4.out y3; have xa4 := stay b4.out y4; clear hown4 hgrow4 hat4 rA rB rC)
        | (refine step_append_vals rfl _ _ _ rfl wr.drew.heap.size wr.drew.heap.size 0 0 [] rB.out rfl (some ⟨g, 0, none⟩) p _ (cellsE (ms.take p)) rfl len1.out (src1.out _ bB.out) one1.out (by omega) s0B.out ?_; intro g4 c4 w4 hown4 hgrow4 hat4; rw [Nat.zero_add, List.nil_append] at hown4; rw [Nat.zero_add]; have row4 := hid_e hown4; obtain ⟨b4, own4, vB⟩ := fB.out g4 w4 hgrow4 hat4; replace b4 := hid_e b4; replace own4 := hid_e own4; replace vB := hid_e vB; have xa0 := stay b4.out y0; have xa1 := stay b4.out y1; have xa2 := stay b4.out y2; have xa3 := stay b4.out y3; have xa4 := stay b4.out y4; clear hown4 hgrow4 hat4 rA rB rC)
        | (refine step_append_vals rfl _ _ _ rfl wr.drew.heap.size (wr.drew.heap.size + 1) 0 0 [] rC.out rfl (some ⟨g, 0, none⟩) p _ (cellsE (ms.take p)) rfl len1.out (src1.out _ bC.out) one1.out (by omega) s0C.out ?_; intro g4 c4 w4 hown4 hgrow4 hat4; rw [Nat.zero_add, List.nil_append] at hown4; rw [Nat.zero_add]; have row4 := hid_e hown4; obtain ⟨b4, own4, vC⟩ := fC.out g4 w4 hgrow4 hat4; replace b4 := hid_e b4; replace own4 := hid_e own4; replace vC := hid_e vC; have xa0 := stay b4.out y0; have xa1 := stay b4.out y1; have xa2 := stay b4.out y2; have xa3 := stay b4.out y3; have xa4 := stay b4.out y4; clear hown4 hgrow4 hat4 rA rB rC)
        | (refine step_append_vals rfl _ _ _ rfl wr.drew.heap.size g4 p c4 (cellsE (ms.take p)) (row4.out.alloc (.cells #[.int .i64 k1, .int .i64 x1, .string s1, .slice an1 ln1 cn1, .slice ai1 li1 ci1] 25)) rfl (some ⟨w4.heap.size, 0, none⟩) 1 1 [.int .i64 k1, .int .i64 x1, .string s1, .slice an1 ln1 cn1, .slice ai1 li1 ci1] rfl rfl (.inr ⟨_, _, rfl, val_lies w4 [.int .i64 k1, .int .i64 x1, .string s1, .slice an1 ln1 cn1, .slice ai1 li1 ci1]⟩) one3.out (by omega) (by rw [World.size_alloc]; have := b4.out.size; omega) ?_; intro g5 c5 w5 hown5 hgrow5 hat5; have row5 := hid_e hown5; obtain ⟨b5, own5⟩ := snd.out g4 g5 _ w5 (b4.out.alloc b4.out.size _) own4.out hgrow5 hat5; replace b5 := hid_e b5; replace own5 := hid_e own5; have xb0 := stay b5.out y0; have xb1 := stay b5.out y1; have xb2 := stay b5.out y2; have xb3 := stay b5.out y3; have xb4 := stay b5.out y4; clear hown5 hgrow5 hat5 row4 xa0 xa1 xa2 xa3 xa4)
        | (refine step_append_vals rfl _ _ _ rfl wr.drew.heap.size g4 p c4 (cellsE (ms.take p)) row4.out rfl (some ⟨wr.drew.heap.size + 1, 0, none⟩) 1 1 [.int .i64 k1, .int .i64 x1, .string s1, .slice an1 ln1 cn1, .slice ai1 li1 ci1] rfl rfl (.inr ⟨_, _, rfl, vB.out⟩) one3.out (by omega) b4.out.size ?_; intro g5 c5 w5 hown5 hgrow5 hat5; have row5 := hid_e hown5; obtain ⟨b5, own5⟩ := snd.out g4 g5 _ w5 b4.out own4.out hgrow5 hat5; replace b5 := hid_e b5; replace own5 := hid_e own5; have xb0 := stay b5.out y0; have xb1 := stay b5.out y1; have xb2 := stay b5.out y2; have xb3 := stay b5.out y3; have xb4 := stay b5.out y4; clear hown5 hgrow5 hat5 row4 xa0 xa1 xa2 xa3 xa4)
        | (refine step_append_vals rfl _ _ _ rfl wr.drew.heap.size g4 p c4 (cellsE (ms.take p)) row4.out rfl (some ⟨wr.drew.heap.size, 0, none⟩) 1 1 [.int .i64 k1, .int .i64 x1, .string s1, .slice an1 ln1 cn1, .slice ai1 li1 ci1] rfl rfl (.inr ⟨_, _, rfl, vC.out⟩) one3.out (by omega) b4.out.size ?_; intro g5 c5 w5 hown5 hgrow5 hat5; have row5 := hid_e hown5; obtain ⟨b5, own5⟩ := snd.out g4 g5 _ w5 b4.out own4.out hgrow5 hat5; replace b5 := hid_e b5; replace own5 := hid_e own5; have xb0 := stay b5.out y0; have xb1 := stay b5.out y1; have xb2 := stay b5.out y2; have xb3 := stay b5.out y3; have xb4 := stay b5.out y4; clear hown5 hgrow5 hat5 row4 xa0 xa1 xa2 xa3 xa4)
        | (refine step_append_vals rfl _ _ _ rfl wr.drew.heap.size g5 (p + 1) c5 ((cellsE (ms.take p)) ++ [.int .i64 k1, .int .i64 x1, .string s1, .slice an1 ln1 cn1, .slice ai1 li1 ci1]) row5.out rfl (some (⟨g, p * 5, none⟩ : Addr)) (n - p) _ (cellsE (ms.drop p)) rfl len2.out (.inr ⟨g, p * 5, rfl, fun j u hj => stay (hbd.out.trans (b5.out.mono hbd.out.size)) (hcl.out.2 j u hj)⟩) one2.out (by omega) b5.out.size ?_; intro g6 c6 w6 hown6 hgrow6 hat6;  obtain ⟨hLf, hbf⟩ := fin.out g6 c6 w6 (snd.out g5 g6 _ w6 b5.out own5.out hgrow6 hat6).1 (by first | exact hown6 | simpa using hown6); replace hLf := hid_e hLf; replace hbf := hid_e hbf; have b6 := hid_e (snd.out g5 g6 _ w6 b5.out own5.out hgrow6 hat6).1; have xc0 := stay b6.out y0; have xc1 := stay b6.out y1; have xc2 := stay b6.out y2; have xc3 := stay b6.out y3; have xc4 := stay b6.out y4; clear hown6 hgrow6 hat6 row5 xb0 xb1 xb2 xb3 xb4))
      all_goals
        go_wp2_with fail
        go_ret
        exact ⟨some ⟨g6, 0, none⟩, c6, ks, by first | rfl | (simp [hkl.out]; omega), hLf.out, htk.out, hkS.out, (fun h => by have := hkl.out; first | omega | (rw [h] at this; simp at this)), hkl0.out, hbf.out⟩
end Go.Proofs.YtgigikcopedoeaaGreat.Tree.Eq
/-! Distinct, the document's. -/
namespace Go.Proofs.YtgigikcopedoeaaGreat.Tree.Eq
open Go Go.RowKit Go.Stab

/-- What is looked at in a document; in all of them. -/
noncomputable def candD (l : List ByteArray) (d : Dc) : List Tr := candL (allF (SizeOf.sizeOf d.t) d.t l)
noncomputable def candA (ds : List Dc) (l : List ByteArray) : List Tr := ds.flatMap (candD l)
theorem candA_step {ds : List Dc} {l : List ByteArray} {q : Nat} {d : Dc} (h : ds[q]? = some d) : candA (ds.take (q + 1)) l = candA (ds.take q) l ++ candD l d := by
  unfold candA
  rw [List.take_add_one, h, List.flatMap_append]
  simp
theorem candD_len {l : List ByteArray} {d : Dc} {N : Nat} (h : partsT d.t ≤ N) : (candD l d).length ≤ N := by
  have h1 := candL_len (allF (SizeOf.sizeOf d.t) d.t l)
  have h2 := allF_parts (SizeOf.sizeOf d.t) l d.t
  unfold candD
  omega
theorem candD_small {l : List ByteArray} {d : Dc} (h : SmallT d.t) : SmallL (candD l d) := candL_small (allF_small _ l d.t h)
theorem candA_len {ds : List Dc} {l : List ByteArray} {N : Nat} (h : ∀ d ∈ ds, partsT d.t ≤ N) : ∀ q, (candA (ds.take q) l).length ≤ q * N
  | 0 => by simp [candA]
  | q + 1 => by
    have ih := candA_len (l := l) h q
    cases hq : ds[q]? with
    | none => rw [List.take_add_one, hq, Option.toList, List.append_nil, Nat.add_mul]; omega
    | some d => rw [candA_step hq, List.length_append, Nat.add_mul, Nat.one_mul]; have := candD_len (l := l) (h d (List.mem_of_getElem? hq)); omega
theorem fold_take {A C : List Tr} {r : Nat} {u : Tr} (h : C[r]? = some u) : (A ++ C.take (r + 1)).foldl putT [] = putT ((A ++ C.take r).foldl putT []) u := by
  rw [List.take_add_one, h, Option.toList, ← List.append_assoc, List.foldl_append]
  rfl
set_option maxHeartbeats 8000000 in
set_option maxRecDepth 100000 in
theorem rdistinct_in (a : Option Addr) (c n : Nat) (ds : List Dc) (pa : Option Addr) (pc pl : Nat) (l : List ByteArray) (W0 w : World) (hW0 : Below W0.heap.size W0 w) (hn : ds.length = n) (hnn : n ≤ 150) (hD : DocsAt W0 a ds) (hR : Reads' W0 ds) (hP : ∀ d ∈ ds, partsT d.t ≤ 5000) (hT : ∀ d ∈ ds, SmallT d.t) (hpl : l.length = pl) (hPr : Reads W0 (.slice pa pl pc) l) (hS : ∀ s ∈ l, s.size ≤ 9223372036854775806) (hl : pl ≤ 9223372036854775806) :
    Calls Tryz.prog 24 #[.slice a n c, .slice pa pl pc] w fun e w' => ∃ a' c' ks, e = .returned (.slice a' ks.length c') ∧ LIn W0 w.heap.size w' (.slice a' ks.length c') ks ∧ treesE ks = (candA ds l).foldl putT [] ∧ Below w.heap.size w w' := by
  have n0 : (0 : Int) ≤ (n : Int) := by omega
  have n1 : (n : Int) ≤ 150 := by omega
  replace hn := hid_e hn
  replace hD := hid_e hD
  replace hR := hid_e hR
  replace hP := hid_e hP
  replace hT := hid_e hT
  replace hpl := hid_e hpl
  replace hPr := hid_e hPr
  replace hS := hid_e hS
  replace hW0 := hid_e hW0
  go_enter Tryz.func24, Tryz.ntmps24
  go_wp2_with fail
  go_loopw [5, 6, 7, 8] (fun mv iv _ _ wr => ∃ (q m : Nat) (ao : Option Addr) (co : Nat) (ks : List El), mv = .slice ao m co ∧ iv = .int .i64 q ∧ q ≤ n ∧ m ≤ q * 5000 ∧ Hid (ks.length = m) ∧ Hid (LIn W0 w.heap.size wr (.slice ao m co) ks) ∧ Hid (treesE ks = (candA (ds.take q) l).foldl putT []) ∧ Hid (Up ltT (treesE ks)) ∧ Hid (∀ k ∈ ks, SmallT k.t) ∧ Hid (m = 0 → ao = none ∧ co = 0) ∧ Hid (Below w.heap.size w wr)) (fun _ iv _ _ _ => n - (intOf iv).toNat)
  case atStart => exact ⟨0, 0, none, 0, [], rfl, rfl, Nat.zero_le _, Nat.zero_le _, rfl, LIn.nil _ _ _, (by show _ = _; simp [treesE, candA]), trivial, (fun k hk => by cases hk), (fun _ => ⟨rfl, rfl⟩), Below.refl _ _⟩
  case round =>
    obtain ⟨q, m, ao, co, ks, rfl, rfl, hq, hmq, hkl, hK, hfo, hup, hkS, hm0, hb⟩ := hrel
    have hb0 : Hid (Below W0.heap.size W0 wr) := hW0.out.trans (hb.out.mono hW0.out.size)
    have q0 : (0 : Int) ≤ (q : Int) := by omega
    have q2 : (q : Int) ≤ 150 := by omega
    by_cases hlt : q < n
    · have q1 : (q : Int) < (n : Int) := by omega
      obtain ⟨d, hd⟩ : ∃ d, Hid (ds[q]? = some d) := ⟨ds[q]'(by rw [hn.out]; omega), List.getElem?_eq_getElem (by rw [hn.out]; omega)⟩
      obtain ⟨b, o, ea, hc1⟩ := (hD.out.keep hb0.out) q d hd.out
      subst ea
      unfold Dc.cells at hc1
      obtain ⟨x0, x1, x2, x3, x4, x5, x6⟩ := cells7 hc1
      clear hc1
      have hdm := hid_e (List.mem_of_getElem? hd.out)
      have call := hid_e (rcand_any d.t d.k d.x d.s d.an d.ln d.cn d.ai d.li d.ci pa pc l W0 wr hb0.out (hR.out d hdm.out) (by rw [hpl.out]; exact hPr.out) hS.out (by rw [hpl.out]; exact hl) (Nat.le_trans (hP.out d hdm.out) (by decide)))
      rw [hpl.out] at call
      have hst := hid_e (candA_step (l := l) hd.out)
      obtain ⟨C, hC⟩ : ∃ C, Hid (candL (allF (SizeOf.sizeOf d.t) d.t l) = C) := ⟨_, rfl⟩
      have hCd : Hid (candD l d = C) := hC.out
      rw [hCd.out] at hst
      have hCl : Hid (C.length ≤ 5000) := by rw [← hCd.out]; exact candD_len (hP.out d hdm.out)
      have hCs : Hid (SmallL C) := by rw [← hCd.out]; exact candD_small (hT.out d hdm.out)
      rw [hC.out] at call
      obtain ⟨N, hN⟩ : ∃ N, Hid (C.length = N) := ⟨_, rfl⟩
      rw [hN.out] at call hCl
      have hN5 : N ≤ 5000 := hCl.out
      have N0 : (0 : Int) ≤ (N : Int) := by omega
      have N1 : (N : Int) ≤ 5000 := by omega
      clear hC hCd hCl
      go_wp2_with fail
      refine call.out.mono ?_
      rintro e W2 ⟨a2, c2, rfl, hL2, hb2⟩
      have hb2' := hid_e (hb.out.trans (hb2.mono hb.out.size))
      have hK2 := hid_e (hK.out.keep hb2)
      replace hL2 := hid_e hL2
      clear hb2 hb hK call x0 x1 x2 x3 x4 x5 x6
      obtain ⟨wo, hwo⟩ : ∃ wo, wo = wr := ⟨_, rfl⟩
      subst hwo
      go_wp2_with fail
      go_loopw [5, 8] (fun mv kv wr => ∃ (r m : Nat) (ao : Option Addr) (co : Nat) (ks : List El), mv = .slice ao m co ∧ kv = .int .i64 r ∧ r ≤ N ∧ m ≤ q * 5000 + r ∧ Hid (ks.length = m) ∧ Hid (LIn W0 w.heap.size wr (.slice ao m co) ks) ∧ Hid (treesE ks = (candA (ds.take q) l ++ C.take r).foldl putT []) ∧ Hid (Up ltT (treesE ks)) ∧ Hid (∀ k ∈ ks, SmallT k.t) ∧ Hid (m = 0 → ao = none ∧ co = 0) ∧ Hid (Below W2.heap.size W2 wr)) (fun _ kv _ => N - (intOf kv).toNat)
      case atStart => exact ⟨0, m, ao, co, ks, rfl, rfl, Nat.zero_le _, hmq, hkl, hK2, (by show _ = _; rw [hfo.out]; simp), hup, hkS, hm0, Below.refl _ _⟩
      case round =>
        clear hK2 hfo hup hkS hm0 hkl hmq
        obtain ⟨r, m, ao, co, ks, rfl, rfl, hr, hmq, hkl, hK, hfo, hup, hkS, hm0, hb⟩ := hrel
        have r0 : (0 : Int) ≤ (r : Int) := by omega
        have r2 : (r : Int) ≤ 5000 := by omega
        have hbw : Hid (Below w.heap.size w wr) := hb2'.out.trans (hb.out.mono hb2'.out.size)
        by_cases hrN : r < N
        · have r1 : (r : Int) < (N : Int) := by omega
          obtain ⟨u, hu⟩ : ∃ u, Hid (C[r]? = some u) := ⟨C[r]'(by rw [hN.out]; omega), List.getElem?_eq_getElem (by rw [hN.out]; omega)⟩
          obtain ⟨g, o, k1, x1, s1, an1, ln1, cn1, ai1, li1, ci1, ea, hlb, hc1, hv1⟩ := hL2.out.item hu.out
          subst ea
          obtain ⟨v0, v1, v2, v3, v4⟩ := cells5 hc1
          have z0 := stay hb.out v0
          have z1 := stay hb.out v1
          have z2 := stay hb.out v2
          have z3 := stay hb.out v3
          have z4 := stay hb.out v4
          have call := hid_e (put_in W0 w.heap.size ao co m ks u k1 x1 s1 an1 ln1 cn1 ai1 li1 ci1 wr (hW0.out.trans (hbw.out.mono hW0.out.size)) hbw.out.size hkl.out (by omega) hK.out hkS.out hup.out hm0.out hv1 (SmallL.at hCs.out hu.out))
          have hft := hid_e (fold_take (A := candA (ds.take q) l) hu.out)
          rw [← hfo.out] at hft
          have hup' := hid_e (putT_up (v := u) hup.out)
          clear v0 v1 v2 v3 v4 hc1 hv1 hlb hup hfo
          go_wp2_with fail
          refine call.out.mono ?_
          rintro e W3 ⟨a3, c3, ks3, rfl, hK3, ht3, hS3, hz3, hle3, hb3⟩
          have hb' := hid_e (hb.out.trans (hb3.mono hb.out.size))
          rw [← ht3] at hft hup'
          obtain ⟨m3, hm3⟩ : ∃ m3, Hid (ks3.length = m3) := ⟨_, rfl⟩
          rw [hm3.out] at hK3 hz3 hle3 ⊢
          replace hK3 := hid_e hK3
          replace hz3 := hid_e hz3
          replace hS3 := hid_e hS3
          clear call z0 z1 z2 z3 z4 hb3 hb hbw hK ht3
          go_wp2_with fail
          exact ⟨⟨r + 1, m3, a3, c3, ks3, rfl, by go_num, by omega, by omega, hm3, hK3, hft.out.symm, hup', hS3, hz3, hb'⟩, by simp [intOf]; omega⟩
        · obtain rfl : r = N := by omega
          have r1 : ¬ (r : Int) < (r : Int) := by omega
          have hfo' : Hid (treesE ks = (candA (ds.take (q + 1)) l).foldl putT []) := by
            rw [hst.out]
            have h := hfo.out
            rw [show C.take r = C from List.take_of_length_le (by rw [hN.out]; exact Nat.le_refl _)] at h
            exact h
          clear hfo
          go_wp2_with fail
          exact ⟨⟨q + 1, m, ao, co, ks, rfl, by go_num, by omega, by omega, hkl, hK, hfo', hup, hkS, hm0, hbw⟩, by simp [intOf]; omega⟩
    · obtain rfl : q = n := by omega
      have q1 : ¬ (q : Int) < (q : Int) := by omega
      rw [List.take_of_length_le (by rw [hn.out]; exact Nat.le_refl _)] at hfo
      have hkl' := hkl.out
      subst hkl'
      go_wp2_with fail
      go_ret
      exact ⟨_, _, ks, rfl, hK.out, hfo.out, hb.out⟩
end Go.Proofs.YtgigikcopedoeaaGreat.Tree.Eq
/-! Distinct, the code's. -/
namespace Go.Proofs.YtgigikcopedoeaaGreat.Tree.Eq
open Go Go.RowKit Go.Stab

theorem els_of {W : World} : ∀ (ts : List Tr) (xs : List Value), ItemsRep W ts xs → ∃ es : List El, treesE es = ts ∧ cellsE es = xs ∧ ∀ e ∈ es, Five e.cs ∧ VRep W e.t e.cs
  | [], xs, h => by
    have e : xs = [] := by simpa [ItemsRep] using h
    exact ⟨[], rfl, by rw [e]; rfl, fun e he => by cases he⟩
  | t :: ts, xs, h => by
    unfold ItemsRep at h
    obtain ⟨cs, r, rfl, h5, hv, hr⟩ := h
    obtain ⟨es, h1, h2, h3⟩ := els_of ts r hr
    obtain ⟨k, x, s, an, ln, cn, ai, li, ci, e⟩ := vrep_five hv
    refine ⟨⟨cs, t⟩ :: es, by simpa [treesE] using h1, by simpa [cellsE] using h2, fun e' he' => ?_⟩
    rcases List.mem_cons.1 he' with h | h
    · rw [h]; exact ⟨⟨k, x, s, an, ln, cn, ai, li, ci, e⟩, hv⟩
    · exact h3 e' h
theorem fold_len : ∀ (l A : List Tr), (l.foldl unlT A).length ≤ A.length + l.length
  | [], A => by simp
  | v :: l, A => by
    have h := fold_len l (unlT A v)
    have h2 : (unlT A v).length ≤ A.length + 1 := by
      by_cases hv : v ∈ A
      · rw [unlT_in hv]; omega
      · rw [unlT_out hv]; simp
    rw [List.foldl_cons, List.length_cons]
    omega
theorem dd_len (l : List Tr) : (ddT l).length ≤ l.length := by have := fold_len l []; simpa [ddT] using this
theorem small_candA {ds : List Dc} {l : List ByteArray} (h : ∀ d ∈ ds, SmallT d.t) : SmallL (candA ds l) := smallL_iff.2 (fun u hu => by
  unfold candA at hu
  obtain ⟨d, hd, hu⟩ := List.mem_flatMap.1 hu
  exact smallL_iff.1 (candD_small (h d hd)) u hu)
set_option maxHeartbeats 8000000 in
set_option maxRecDepth 100000 in
theorem distinct_in (a : Option Addr) (c n : Nat) (ds : List Dc) (pa : Option Addr) (pc pl : Nat) (l : List ByteArray) (W0 w : World) (hW0 : Below W0.heap.size W0 w) (hn : ds.length = n) (hnn : n ≤ 150) (hD : DocsAt W0 a ds) (hR : Reads' W0 ds) (hP : ∀ d ∈ ds, partsT d.t ≤ 5000) (hT : ∀ d ∈ ds, SmallT d.t) (hpl : l.length = pl) (hPr : Reads W0 (.slice pa pl pc) l) (hS : ∀ s ∈ l, s.size ≤ 9223372036854775806) (hl : pl ≤ 9223372036854775806) :
    Calls Tryz.prog 23 #[.slice a n c, .slice pa pl pc] w fun e w' => ∃ v ks, e = .returned v ∧ LIn W0 w.heap.size w' v ks ∧ treesE ks = (candA ds l).foldl putT [] ∧ ks.length ≤ 750000 ∧ Below w.heap.size w w' := by
  have n0 : (0 : Int) ≤ (n : Int) := by omega
  have n1 : (n : Int) ≤ 150 := by omega
  replace hn := hid_e hn
  replace hD := hid_e hD
  replace hR := hid_e hR
  replace hP := hid_e hP
  replace hT := hid_e hT
  replace hpl := hid_e hpl
  replace hPr := hid_e hPr
  replace hS := hid_e hS
  replace hW0 := hid_e hW0
  have hlen := hid_e (fun q => candA_len (l := l) hP.out q)
  go_enter Tryz.func23, Tryz.ntmps23
  go_wp2_with fail
  go_loopw [5, 7, 10] (fun fv _ iv wr => ∃ (q m : Nat) (ao : Option Addr) (co : Nat) (xs : List Value), fv = .slice ao m co ∧ iv = .int .i64 q ∧ q ≤ n ∧ Hid ((candA (ds.take q) l).length = m) ∧ Hid (wr.ownsRow w.heap.size 25 5 (.slice ao m co) m xs) ∧ Hid (ItemsRep W0 (candA (ds.take q) l) xs) ∧ Hid (Below w.heap.size w wr)) (fun _ _ iv _ => n - (intOf iv).toNat)
  case atStart => exact ⟨0, 0, none, 0, [], rfl, rfl, Nat.zero_le _, rfl, World.ownsRow_nil _ _ _ _, (by show ItemsRep W0 [] []; unfold ItemsRep; rfl), Below.refl _ _⟩
  case round =>
    obtain ⟨q, m, ao, co, xs, rfl, rfl, hq, hm, hrow, hI, hb⟩ := hrel
    have hb0 : Hid (Below W0.heap.size W0 wr) := hW0.out.trans (hb.out.mono hW0.out.size)
    have q0 : (0 : Int) ≤ (q : Int) := by omega
    have q2 : (q : Int) ≤ 150 := by omega
    by_cases hlt : q < n
    · have q1 : (q : Int) < (n : Int) := by omega
      obtain ⟨d, hd⟩ : ∃ d, Hid (ds[q]? = some d) := ⟨ds[q]'(by rw [hn.out]; omega), List.getElem?_eq_getElem (by rw [hn.out]; omega)⟩
      obtain ⟨b, o, ea, hc1⟩ := (hD.out.keep hb0.out) q d hd.out
      subst ea
      unfold Dc.cells at hc1
      obtain ⟨x0, x1, x2, x3, x4, x5, x6⟩ := cells7 hc1
      clear hc1
      have hdm := hid_e (List.mem_of_getElem? hd.out)
      have hst := hid_e (candA_step (l := l) hd.out)
      have hl1 := hid_e (hlen.out (q + 1))
      rw [hst.out, List.length_append, hm.out] at hl1
      have hbA : Hid (Below w.heap.size w (wr.alloc (.cells #[.string d.id, .int .i64 d.ver, .int .i64 d.k, .int .i64 d.x, .string d.s, .slice d.an d.ln d.cn, .slice d.ai d.li d.ci] 50))) := hb.out.alloc hb.out.size _
      have call := hid_e (all_any (SizeOf.sizeOf d.t) W0 d.t d.k d.x d.s d.an d.ln d.cn d.ai d.li d.ci (.slice pa pl pc) l (wr.alloc (.cells #[.string d.id, .int .i64 d.ver, .int .i64 d.k, .int .i64 d.x, .string d.s, .slice d.an d.ln d.cn, .slice d.ai d.li d.ci] 50)) (Nat.le_refl _) (hW0.out.trans (hbA.out.mono hW0.out.size)) (hR.out d hdm.out) hPr.out hS.out (by rw [hpl.out]; exact hl) (Nat.le_trans (hP.out d hdm.out) (by decide)))
      have hrowA := hid_e (hrow.out.alloc (.cells #[.string d.id, .int .i64 d.ver, .int .i64 d.k, .int .i64 d.x, .string d.s, .slice d.an d.ln d.cn, .slice d.ai d.li d.ci] 50))
      have hwA : Hid (∀ g, (Value.slice ao m co).ownBlock = some g → g < wr.heap.size) := fun g hg => (ownsRow_ge hrow.out hg).2
      go_wp2_with fail
      refine call.out.mono ?_
      rintro e W2 ⟨fv, xs2, rfl, hown2, hI2, hb2⟩
      rw [Nat.zero_add] at hown2
      rw [List.nil_append] at hI2
      obtain ⟨a2, c2, e2⟩ := ownsRow_slice hown2
      subst e2
      have hL2 := hid_e (row_in hown2 hI2 rfl)
      have hbW : Hid (Below w.heap.size w W2) := hbA.out.trans (hb2.mono hbA.out.size)
      have hrow2 := hid_e (ownsRow_below hrowA.out hb2)
      have hdis : Hid (∀ b o, a2 = some ⟨b, o, none⟩ → (Value.slice ao m co).ownBlock ≠ some b) := fun b o e h => by
        subst e
        have h1 := (ownsRow_ge hown2 (g := b) rfl).1
        have h2 := hwA.out b h
        rw [World.size_alloc] at h1
        omega
      obtain ⟨R, hR2⟩ : ∃ R, Hid (allF (SizeOf.sizeOf d.t) d.t l = R) := ⟨_, rfl⟩
      have hcd : Hid (candD l d = candL R) := by rw [← hR2.out]; exact hid_e rfl
      rw [hR2.out] at hL2
      rw [hR2.out]
      rw [hcd.out] at hst hl1
      have call2 := hid_e (laid_in a2 c2 R.length R W0 W2 w.heap.size m ao co (candA (ds.take q) l) xs (hW0.out.trans (hbW.out.mono hW0.out.size)) rfl hL2.out hW0.out.size hbW.out.size hrow2.out hI.out hdis.out (by have := hl1.out; omega))
      obtain ⟨RL, hRL⟩ : ∃ RL, Hid (R.length = RL) := ⟨_, rfl⟩
      rw [hRL.out] at call2 ⊢
      have hO : Hid (∀ g, (Value.slice ao m co).ownBlock = some g → w.heap.size ≤ g) := fun g hg => (ownsRow_ge hrow.out hg).1
      clear call hown2 hI2 hb2 hL2 hrowA hwA hrow hb hbA x0 x1 x2 x3 x4 x5 x6
      go_wp2_with fail
      refine call2.out.mono ?_
      rintro e W3 ⟨a3, c3, xs3, rfl, hown3, hI3, hg3, -⟩
      have hb3 : Hid (Below w.heap.size w W3) := hbW.out.trans (grown_below hg3 hbW.out.size hO.out)
      rw [← hst.out] at hI3
      obtain ⟨m3, hm3⟩ : ∃ m3, Hid (m + (candL R).length = m3) := ⟨_, rfl⟩
      have hlm : Hid ((candA (ds.take (q + 1)) l).length = m3) := by rw [hst.out, List.length_append, hm.out]; exact hm3
      rw [hm3.out] at hown3 ⊢
      replace hown3 := hid_e hown3
      replace hI3 := hid_e hI3
      clear call2 hg3 hbW hrow2 hI hst hl1
      go_wp2_with fail
      exact ⟨⟨q + 1, m3, a3, c3, xs3, rfl, by go_num, by omega, hlm, hown3, hI3, hb3⟩, by simp [intOf]; omega⟩
    · obtain rfl : q = n := by omega
      have q1 : ¬ (q : Int) < (q : Int) := by omega
      have hlq := hid_e (hlen.out q)
      rw [List.take_of_length_le (by rw [hn.out]; exact Nat.le_refl _)] at hm hI hlq
      obtain ⟨es, t1, t2, t3⟩ := els_of _ _ hI.out
      have hel : Hid (es.length = m) := by rw [← treesE_len, t1]; exact hm
      have hLes : Hid (LIn W0 w.heap.size wr (.slice ao m co) es) := ⟨by rw [hel.out, t2]; exact hrow.out, fun e he => (t3 e he).1, fun e he => (t3 e he).2⟩
      have hSe : Hid (∀ e ∈ es, SmallT e.t) := fun e he => smallL_iff.1 (small_candA (l := l) hT.out) e.t (by rw [← t1]; exact List.mem_map_of_mem he)
      have hmb : m ≤ 750000 := by have h := hlq.out; rw [hm.out] at h; omega
      have call := hid_e (osort_in W0 w.heap.size ao co m es wr hb0.out hel.out (by omega) hLes.out hSe.out hb.out.size)
      replace t1 := hid_e t1
      clear t2 t3 hI hrow hlq hm hLes
      go_wp2_with fail
      refine call.out.mono ?_
      rintro e W2 ⟨rfl, hL2, hb2⟩
      have hbW : Hid (Below w.heap.size w W2) := hb.out.trans (hb2.mono hb.out.size)
      have hsl : Hid ((sortE es).length = m) := by rw [← hel.out]; exact isort_length _ _
      have hst : Hid (treesE (sortE es) = isort ltT (candA ds l)) := by rw [sortE_trees, t1.out]; exact hid_e rfl
      have hupS : Hid (Up ltT (treesE (sortE es))) := by rw [hst.out]; exact isort_up swoT _
      have call2 := hid_e (unlike_in W0 w.heap.size (some ⟨wr.heap.size, 0, none⟩) m m (sortE es) W2 (hW0.out.trans (hbW.out.mono hW0.out.size)) hsl.out (by omega) hL2 (fun e he => hSe.out e (mem_sortE he)) hupS.out)
      clear call hL2 hb2 hb
      go_wp2_with fail
      refine call2.out.mono ?_
      rintro e W3 ⟨v, ks, rfl, hK, ht, -, hb3⟩
      have hbF : Hid (Below w.heap.size w W3) := hbW.out.trans (hb3.mono hbW.out.size)
      have hKF : Hid (LIn W0 w.heap.size W3 v ks) := ⟨ownsRow_lo hK.row hbW.out.size, hK.fives, hK.reads⟩
      have htF : Hid (treesE ks = (candA ds l).foldl putT []) := by rw [ht, hst.out, dd_all]; exact hid_e rfl
      have hkl : Hid (ks.length ≤ 750000) := by
        have h1 := dd_len (treesE (sortE es))
        rw [← ht, treesE_len, treesE_len, hsl.out] at h1
        show _ ≤ _
        omega
      obtain ⟨va, vc, ev⟩ := hKF.out.slice
      subst ev
      clear call2 hK ht hb3 hbW
      go_wp2_with fail
      go_ret
      first | exact ⟨_, ks, rfl, hKF.out, htF.out, hkl.out, hbF.out⟩ | exact ⟨_, rfl, ks, hKF.out, htF.out, hkl.out, hbF.out⟩
end Go.Proofs.YtgigikcopedoeaaGreat.Tree.Eq
