import Derived.Test.YthafhemlnninbaaGreatXB
import Derived.Test.YthafhemlnninbaaGreatSL
import Derived.Deep.AppendSrc
import Derived.Deep.AppendLies
import Derived.Deep.RegionLaw
/-! The document's Order, given its comparison. -/
namespace Go.Proofs.YthafhemlnninbaaGreat.Tree
open Go Go.RowKit Go.Stab

def cellsD (ls : List Dc) : List Value := ls.flatMap Dc.cells
theorem cellsD_len : (ls : List Dc) → (cellsD ls).length = ls.length * 7
  | [] => rfl
  | d :: ls => by
    show (d.cells ++ cellsD ls).length = (ls.length + 1) * 7
    rw [List.length_append, cellsD_len ls]
    show 7 + ls.length * 7 = _
    omega
theorem cellsD_at : (ls : List Dc) → (q : Nat) → (d : Dc) → ls[q]? = some d → ∀ j u, d.cells[j]? = some u → (cellsD ls)[q * 7 + j]? = some u
  | [], _, _, h, _, _, _ => by simp at h
  | e0 :: es, 0, e, h, j, u, hj => by
    have : e0 = e := by simpa using h
    subst this
    show (e0.cells ++ cellsD es)[0 * 7 + j]? = some u
    rw [List.getElem?_append_left (by have := (List.getElem?_eq_some_iff.1 hj).1; omega)]
    simpa using hj
  | e0 :: es, q + 1, e, h, j, u, hj => by
    show (e0.cells ++ cellsD es)[(q + 1) * 7 + j]? = some u
    have h5 : e0.cells.length = 7 := rfl
    rw [List.getElem?_append_right (by omega), show (q + 1) * 7 + j - e0.cells.length = q * 7 + j by omega]
    exact cellsD_at es q e (by simpa using h) j u hj
theorem cellsD_one (ls : List Dc) : ∀ u ∈ cellsD ls, u.oneCell' = true := fun u hu => by
  obtain ⟨d, -, hd⟩ := List.mem_flatMap.1 hu
  unfold Dc.cells at hd
  simp only [List.mem_cons, List.not_mem_nil, or_false] at hd
  rcases hd with rfl | rfl | rfl | rfl | rfl | rfl | rfl <;> rfl
/-- Documents in a row of their own. -/
def DRow (base : Nat) (w : World) (v : Value) (ls : List Dc) : Prop := w.ownsRow base 50 7 v ls.length (cellsD ls)
theorem row_cell {w : World} {lo : Nat} {e : TypeId} {size g n cap : Nat} {xs : List Value} (h : w.ownsRow lo e size (.slice (some ⟨g, 0, none⟩) n cap) n xs) : ∀ j u, xs[j]? = some u → w.cell? ⟨g, j, none⟩ = some u := by
  intro j u hj
  obtain ⟨h1, h2⟩ := h
  rcases h2 with ⟨hv, _⟩ | ⟨g', cap', cur, hv, hg, hh, hc, hm, hs, hr⟩
  · cases hv
  · cases hv
    have hlt := (List.getElem?_eq_some_iff.1 hj).1
    rw [← hr, List.getElem?_take_of_lt (by rw [← h1]; exact hlt), Array.getElem?_toList] at hj
    simp [World.cell?, hh, hj]
theorem DRow.slice {base : Nat} {w : World} {v : Value} {ls : List Dc} (h : DRow base w v ls) : ∃ a c, v = .slice a ls.length c := ownsRow_slice h
theorem DRow.docs {base : Nat} {w : World} {a : Option Addr} {n c : Nat} {ls : List Dc} (h : DRow base w (.slice a n c) ls) : DocsAt w a ls := fun i d hd => by
  rcases h.2 with ⟨e, h0⟩ | ⟨g, cap, cur, e, hg, hh, hc, hm, hs, ht⟩
  · have : ls = [] := List.eq_nil_of_length_eq_zero h0
    subst this
    simp at hd
  · obtain ⟨rfl, rfl, rfl⟩ : a = _ ∧ n = _ ∧ c = _ := by simpa using e
    refine ⟨g, 0, rfl, fun j u hj => ?_⟩
    rw [Nat.zero_add]
    exact row_cell h _ u (cellsD_at ls i d hd j u hj)
theorem DRow.cap {base : Nat} {w : World} {g n c : Nat} {ls : List Dc} (h : DRow base w (.slice (some ⟨g, 0, none⟩) n c) ls) : ls.length ≤ c ∧ c ≤ 9223372036854775807 := by
  rcases h.2 with ⟨e, h0⟩ | ⟨g', cap, cur, e, hg, hh, hc, hm, hs, ht⟩
  · cases e
  · cases e
    exact ⟨hc, by unfold maxLen at hm; omega⟩
theorem run_append_none {P : Program} (w : World) (t ty e : TypeId) (i : TypeInfo) (ht : P.underlying t = some (.slice e)) (hi : P.info? e = some i) (g n cap : Nat) (hn : n ≤ cap) (ax : Option Addr) (c : Nat) :
    (Builtin.append_ #[t, t] ty #[.slice (some ⟨g, 0, none⟩) n cap, .slice ax 0 c]).run P w = .ok (.slice (some ⟨g, 0, none⟩) n cap) w := by
  have hs : Src P i.size t (.slice ax 0 c) 0 [] w := by
    cases ax with
    | none => exact Src.ofNil w ht c
    | some a => exact Src.ofSlice w ht a 0 c [] (by simp) (fun j u h => by simp at h) (fun u h => by cases h)
  have := run_append_room_src (P := P) w t t ty e i ht hi g 0 n cap _ 0 [] hs (by omega) (fun j h => by simp at h) (fun j h => by simp at h)
  rw [this]
  rfl
/-- Documents appended to documents. -/
theorem wp_append_docs {o : Oper} {a : Act} {K : Act → World → Prop} {Q : Exit → Act → World → Prop} (w : World) (s x : Operand)
    (ho : o.op = .call { callee := .builtin .append, args := #[s, x], argTypes := #[26, 26] }) (base g n cap : Nat) (xs : List Value) (hrow : w.ownsRow base 50 7 (.slice (some ⟨g, 0, none⟩) n cap) n xs)
    (hs : a.eval s = .slice (some ⟨g, 0, none⟩) n cap) (ax : Option Addr) (k c : Nat) (ys : List Value) (hx : a.eval x = .slice ax k c) (hys : ys.length = k * 7) (hl : k = 0 ∨ ∃ b off, ax = some ⟨b, off, none⟩ ∧ CellsAt w b off ys) (h1 : ∀ u ∈ ys, u.oneCell' = true) (hb : (n + k) * 104 ≤ 140737488355328) (hbase : base ≤ w.heap.size)
    (h : ∀ g' cap' w', w'.ownsRow base 50 7 (.slice (some ⟨g', 0, none⟩) (n + k) cap') (n + k) (xs ++ ys) → w.grownBy w' (some g) → (g' = g ∨ g' = w.heap.size) → K (a.put o.dst (.slice (some ⟨g', 0, none⟩) (n + k) cap')) w') : Oper.wp Tryz.prog o a w K Q := by
  obtain ⟨i, hi, hz0, hz1, hz2⟩ := info_parts AD
  by_cases h0 : k = 0
  · subst h0
    have e : ys = [] := List.eq_nil_of_length_eq_zero (by omega)
    subst e
    have hcap : n ≤ cap := by
      rcases hrow.2 with ⟨hv, _⟩ | ⟨g', cap', cur, hv, hg, hh, hc, hm, hs, hr⟩
      · cases hv
      · cases hv; exact hc
    have hr := run_append_none (P := Tryz.prog) w 26 o.type 50 i Tryz.underlying26 hi g n cap hcap ax c
    unfold Oper.wp execOp
    simp only [ho, resolve, invoke, builtin, Sem.run_bind, Sem.run_pure, Result.andThen_ok, List.map_toArray, List.map_cons, List.map_nil, hs, hx, hr]
    exact h g cap w (by rw [List.append_nil]; exact hrow) (World.grownBy.refl w _) (.inl rfl)
  · obtain ⟨b, off, rfl, hc⟩ := hl.resolve_left h0
    refine wp_append_lies w s x 26 ho base 50 i _ 7 104 Tryz.underlying26 hi hz0 hz1 hz2 rfl (by decide) _ n xs hs hrow _ k c ys hx hys (fun j u hu => by rw [add_off]; exact hc j u hu) h1 (by omega) (by unfold maxLen; omega) hb hbase _ rfl ?_
    intro g' cap' w' h2 h3 h4 _
    exact h g' cap' w' h2 h3 (h4.elim (fun e => .inl (by simpa [Value.ownBlock] using e.symm)) .inr)
theorem wpList_append_docs {ops : Array Oper} {rest : List Oper} {o : Oper} {a : Act} {Q : Exit → Act → World → Prop} (hgd : o.guard = none) (w : World) (s x : Operand)
    (ho : o.op = .call { callee := .builtin .append, args := #[s, x], argTypes := #[26, 26] }) (base g n cap : Nat) (xs : List Value) (hrow : w.ownsRow base 50 7 (.slice (some ⟨g, 0, none⟩) n cap) n xs)
    (hs : a.eval s = .slice (some ⟨g, 0, none⟩) n cap) (ax : Option Addr) (k c : Nat) (ys : List Value) (hx : a.eval x = .slice ax k c) (hys : ys.length = k * 7) (hl : k = 0 ∨ ∃ b off, ax = some ⟨b, off, none⟩ ∧ CellsAt w b off ys) (h1 : ∀ u ∈ ys, u.oneCell' = true) (hb : (n + k) * 104 ≤ 140737488355328) (hbase : base ≤ w.heap.size)
    (h : ∀ g' cap' w', w'.ownsRow base 50 7 (.slice (some ⟨g', 0, none⟩) (n + k) cap') (n + k) (xs ++ ys) → w.grownBy w' (some g) → (g' = g ∨ g' = w.heap.size) → wpList Tryz.prog ops Q rest (a.put o.dst (.slice (some ⟨g', 0, none⟩) (n + k) cap')) w') : wpList Tryz.prog ops Q (o :: rest) a w :=
  wpList_plain hgd fun _ hK => wp_append_docs w s x ho base g n cap xs hrow hs ax k c ys hx hys hl h1 hb hbase fun g' cap' w' h2 h3 h4 => hK _ _ (h g' cap' w' h2 h3 h4)
theorem step_append_docs {ops : Array Oper} {o : Oper} {a : Act} {K : Act → World → Prop} {Q : Exit → Act → World → Prop} {E : Prop} (hgd : o.guard = none) (w : World) (s x : Operand)
    (ho : o.op = .call { callee := .builtin .append, args := #[s, x], argTypes := #[26, 26] }) (base g n cap : Nat) (xs : List Value) (hrow : w.ownsRow base 50 7 (.slice (some ⟨g, 0, none⟩) n cap) n xs)
    (hs : a.eval s = .slice (some ⟨g, 0, none⟩) n cap) (ax : Option Addr) (k c : Nat) (ys : List Value) (hx : a.eval x = .slice ax k c) (hys : ys.length = k * 7) (hl : k = 0 ∨ ∃ b off, ax = some ⟨b, off, none⟩ ∧ CellsAt w b off ys) (h1 : ∀ u ∈ ys, u.oneCell' = true) (hb : (n + k) * 104 ≤ 140737488355328) (hbase : base ≤ w.heap.size)
    (h : ∀ g' cap' w', w'.ownsRow base 50 7 (.slice (some ⟨g', 0, none⟩) (n + k) cap') (n + k) (xs ++ ys) → w.grownBy w' (some g) → (g' = g ∨ g' = w.heap.size) → K (a.put o.dst (.slice (some ⟨g', 0, none⟩) (n + k) cap')) w') : if Region.wanted o (yielded ops a.tmps) = true then Oper.wp Tryz.prog o a w K Q else E := by
  have hw : Region.wanted o (yielded ops a.tmps) = true := by simp [Region.wanted, hgd]
  rw [if_pos hw]
  exact wp_append_docs w s x ho base g n cap xs hrow hs ax k c ys hx hys hl h1 hb hbase h
theorem owns_docs (w : World) : (w.alloc (.cells #[] 50)).ownsRow w.heap.size 50 7 (.slice (some ⟨w.heap.size, 0, none⟩) 0 0) 0 [] :=
  ⟨rfl, .inr ⟨w.heap.size, 0, #[], rfl, Nat.le_refl _, heap_alloc_new w _, Nat.le_refl _, Nat.zero_le _, rfl, rfl⟩⟩
theorem docs_lie {w : World} {a : Option Addr} {ds : List Dc} (h : DocsAt w a ds) : ds.length = 0 ∨ ∃ b off, a = some ⟨b, off, none⟩ ∧ CellsAt w b off (cellsD ds) := by
  rcases Nat.eq_zero_or_pos ds.length with h0 | h0
  · exact .inl h0
  · obtain ⟨b, off, e, -⟩ := h 0 ds[0] (List.getElem?_eq_getElem h0)
    refine .inr ⟨b, off, e, fun j u hj => ?_⟩
    have hjl := (List.getElem?_eq_some_iff.1 hj).1
    rw [cellsD_len] at hjl
    obtain ⟨q, r, hr, rfl⟩ : ∃ q r, r < 7 ∧ j = q * 7 + r := ⟨j / 7, j % 7, by omega, by omega⟩
    have hq : q < ds.length := by omega
    obtain ⟨b', o', e', hc⟩ := h q ds[q] (List.getElem?_eq_getElem hq)
    rw [e] at e'
    cases e'
    obtain ⟨u', hu'⟩ : ∃ u', (ds[q]).cells[r]? = some u' := ⟨_, List.getElem?_eq_getElem (show r < 7 from hr)⟩
    have h2 := cellsD_at ds q ds[q] (List.getElem?_eq_getElem hq) r u' hu'
    rw [hj] at h2
    cases h2
    rw [← Nat.add_assoc]
    exact hc r u hu'
def lenS : Value → Nat
  | .slice _ n _ => n
  | _ => 0
/-- Where the document's Order stands. -/
def RO (lt : Dc → Dc → Bool) (ds : List Dc) (w : World) (n : Nat) (mv lv : Value) (wr : World) : Prop := ∃ (q m : Nat) (dn ls : List Dc) (ao : Option Addr) (co gl cl : Nat), mv = .slice ao q co ∧ lv = .slice (some ⟨gl, 0, none⟩) m cl ∧ m ≤ n ∧ q ≤ n ∧ Hid (dn.length = q) ∧ Hid (ls.length = m) ∧ Hid (isort lt ds = dn ++ isort lt ls) ∧ Hid (∀ x ∈ ls, x ∈ ds) ∧ Hid (DRow w.heap.size wr (.slice ao q co) dn) ∧ Hid (DRow w.heap.size wr (.slice (some ⟨gl, 0, none⟩) m cl) ls) ∧ Hid ((Value.slice ao q co).ownBlock ≠ some gl) ∧ Hid (Below w.heap.size w wr)
theorem cellsD_append (l r : List Dc) : cellsD (l ++ r) = cellsD l ++ cellsD r := by simp [cellsD, List.flatMap_append]
set_option maxHeartbeats 8000000 in
set_option maxRecDepth 100000 in
theorem rorder_any (sv : Value) (a : Option Addr) (c n : Nat) (ds : List Dc) (w : World) (lt : Dc → Dc → Bool) (O : Swo lt) (cn : Dc → Dc → Int) (hlt : ∀ x y, lt x y = decide (cn x y < 0))
    (hcmp : ∀ x ∈ ds, ∀ y ∈ ds, ∀ W, Below w.heap.size w W → Calls Tryz.prog 22 #[sv, .agg x.cells.toArray, .agg y.cells.toArray] W fun e W' => e = .returned (.int .i64 (cn x y)) ∧ Below W.heap.size W W')
    (hn : ds.length = n) (hnn : n ≤ 1000000) (hV : DocsAt w a ds) :
    Calls Tryz.prog 15 #[sv, .slice a n c] w fun e w' => ∃ v, e = .returned v ∧ DRow w.heap.size w' v (isort lt ds) ∧ Below w.heap.size w w' := by
  have n0 : (0 : Int) ≤ (n : Int) := by omega
  have n1 : (n : Int) ≤ 1000000 := by omega
  obtain ⟨i0, hi, hz0, hz1, hz2⟩ := info_parts AD
  have hrow0 := hid_e (owns_docs w)
  have hbe : Hid (Below w.heap.size w (w.alloc (.cells #[] 50))) := (Below.refl _ w).alloc (Nat.le_refl _) _
  have hlie := hid_e (docs_lie (hV.keep hbe.out))
  have hcl := hid_e (cellsD_len ds)
  rw [hn] at hlie hcl
  have hsz0 : Hid (w.heap.size ≤ (w.alloc (.cells #[] 50)).heap.size) := by rw [World.size_alloc]; show _ ≤ _; omega
  replace hn := hid_e hn
  replace hlt := hid_e hlt
  replace hcmp := hid_e hcmp
  clear hV
  go_enter Tryz.func15, Tryz.ntmps15
  go_wp2_with (at_builtin; refine wpList_append_docs rfl _ _ _ rfl w.heap.size w.heap.size 0 0 [] hrow0.out rfl _ n c (cellsD ds) rfl hcl.out hlie.out (cellsD_one ds) (by omega) hsz0.out ?_; intro gl cl w1 hown1 hgrow1 hat1; rw [Nat.zero_add, List.nil_append] at hown1; rw [Nat.zero_add]; replace hown1 := hid_e hown1; replace hgrow1 := hid_e hgrow1; replace hat1 := hid_e hat1)
  have hb1 : Hid (Below w.heap.size w w1) := hbe.out.trans (grown_below hgrow1.out hsz0.out (fun g hg => by cases hg; exact Nat.le_refl _))
  have hL1 : Hid (DRow w.heap.size w1 (.slice (some ⟨gl, 0, none⟩) n cl) ds) := by show World.ownsRow _ _ _ _ _ _ _; rw [hn.out]; exact hown1.out
  clear hrow0 hbe hlie hcl hsz0 hown1 hgrow1 hat1
  go_loopw [5, 6, 7, 8] (fun mv lv _ _ wr => RO lt ds w n mv lv wr) (fun _ lv _ _ _ => lenS lv)
  case atStart => exact ⟨0, n, [], ds, none, 0, gl, cl, rfl, rfl, Nat.le_refl _, Nat.zero_le _, rfl, hn, rfl, (fun x hx => hx), World.ownsRow_nil _ _ _ _, hL1, (by show (Value.slice none 0 0).ownBlock ≠ some gl; simp [Value.ownBlock]), hb1⟩
  case round =>
    clear hL1 hb1
    obtain ⟨q, m, dn, ls, ao, co, gl, cl, rfl, rfl, hmn, hqn, hdq, hlm, hso, hmem, hD, hL, hne, hb⟩ := hrel
    by_cases hm0 : m = 0
    · subst hm0
      have hls : Hid (isort lt ds = dn) := by
        have e : ls = [] := List.eq_nil_of_length_eq_zero hlm.out
        have h := hso.out
        rw [e] at h
        exact h.trans (by simp [isort])
      go_wp2_with fail
      go_ret
      exact ⟨_, rfl, by rw [hls.out]; exact hD.out, hb.out⟩
    · have m0 : (0 : Int) < (m : Int) := by omega
      have m1 : (m : Int) ≤ 1000000 := by omega
      have hf0 : Hid (Fst lt ls 0 1) := Fst.one (by rw [hlm.out]; omega)
      go_wp2_with fail
      go_loopw [7, 8] (fun av iv wy => ∃ (p i : Nat), av = .int .i64 p ∧ iv = .int .i64 i ∧ i ≤ m ∧ Hid (Fst lt ls p i) ∧ Hid (Below wr.heap.size wr wy)) (fun _ iv _ => m - (intOf iv).toNat)
      case atStart => exact ⟨0, 1, rfl, rfl, by omega, hf0, Below.refl _ _⟩
      case round =>
        clear hf0
        obtain ⟨wo, hwo⟩ : ∃ wo, wo = wr := ⟨_, rfl⟩
        subst hwo
        obtain ⟨p, i, rfl, rfl, him, hF, hbi⟩ := hrel
        have hbW : Hid (Below w.heap.size w wo) := hb.out.trans (hbi.out.mono hb.out.size)
        have hpi := hF.out.pi
        have p1 : (p : Int) < (m : Int) := by omega
        have p0 : (0 : Int) ≤ (p : Int) := by omega
        obtain ⟨x, hx⟩ : ∃ x, Hid (ls[p]? = some x) := ⟨ls[p]'(by rw [hlm.out]; omega), List.getElem?_eq_getElem (by rw [hlm.out]; omega)⟩
        have hLw : Hid (DRow w.heap.size wo (.slice (some ⟨gl, 0, none⟩) m cl) ls) := ownsRow_below hL.out hbi.out
        obtain ⟨b', o', ea, hcx⟩ := hLw.out.docs p x hx.out
        cases ea
        rw [Nat.zero_add] at hcx
        unfold Dc.cells at hcx
        obtain ⟨x0, x1, x2, x3, x4, x5, x6⟩ := cells7 hcx
        clear hcx
        by_cases hil : i < m
        · have i1 : (i : Int) < (m : Int) := by omega
          have i0 : (0 : Int) ≤ (i : Int) := by omega
          obtain ⟨y, hy⟩ : ∃ y, Hid (ls[i]? = some y) := ⟨ls[i]'(by rw [hlm.out]; omega), List.getElem?_eq_getElem (by rw [hlm.out]; omega)⟩
          obtain ⟨b', o', ea, hcy⟩ := hLw.out.docs i y hy.out
          cases ea
          rw [Nat.zero_add] at hcy
          unfold Dc.cells at hcy
          obtain ⟨y0, y1, y2, y3, y4, y5, y6⟩ := cells7 hcy
          clear hcy
          have call := hid_e (fun W (hW : Below wo.heap.size wo W) => hcmp.out y (hmem.out y (List.mem_of_getElem? hy.out)) x (hmem.out x (List.mem_of_getElem? hx.out)) W (hbW.out.trans (hW.mono hbW.out.size)))
          unfold Dc.cells at call
          obtain ⟨C, hC⟩ : ∃ C, Hid (cn y x = C) := ⟨_, rfl⟩
          simp only [hC.out] at call
          have hCl : Hid (lt y x = decide (C < 0)) := by show _ = _; rw [hlt.out, hC.out]
          go_upto_region 8 with fail
          refine wp_region_quiet (C := fun w' => Below wo.heap.size wo w') (by kernel_rfl) (by kernel_rfl) (below_drewN (Below.refl _ _) 1) ?_
          with_reducible refine wpQuiet_step (fun K hK => ?_)
          refine ⟨sv, fun w' hw' => ?_, ?_⟩
          · first | (go_simp; done) | (go_simp; decide) | (go_simp; omega)
          with_reducible refine hK _ ?_
          clear hK K
          simp only [Act.put, List.setIfInBounds_toArray, List.set_cons_zero, List.set_cons_succ]
          with_reducible refine wpQuiet_step (fun K hK => ?_)
          refine ⟨.slice (some ⟨gl, 0, none⟩) m cl, fun w' hw' => ?_, ?_⟩
          · first | (go_simp; done) | (go_simp; decide) | (go_simp; omega)
          with_reducible refine hK _ ?_
          clear hK K
          simp only [Act.put, List.setIfInBounds_toArray, List.set_cons_zero, List.set_cons_succ]
          with_reducible refine wpQuiet_step (fun K hK => ?_)
          refine ⟨.int .i64 i, fun w' hw' => ?_, ?_⟩
          · first | (go_simp; done) | (go_simp; decide) | (go_simp; omega)
          with_reducible refine hK _ ?_
          clear hK K
          simp only [Act.put, List.setIfInBounds_toArray, List.set_cons_zero, List.set_cons_succ]
          with_reducible refine wpQuiet_step (fun K hK => ?_)
          refine ⟨.pointer (some ⟨gl, i * 7, none⟩), fun w' hw' => ?_, ?_⟩
          · first | (go_simp; done) | (go_simp; decide) | (go_simp; omega)
          with_reducible refine hK _ ?_
          clear hK K
          simp only [Act.put, List.setIfInBounds_toArray, List.set_cons_zero, List.set_cons_succ]
          with_reducible refine wpQuiet_step (fun K hK => ?_)
          refine ⟨.agg #[.string y.id, .int .i64 y.ver, .int .i64 y.k, .int .i64 y.x, .string y.s, .slice y.an y.ln y.cn, .slice y.ai y.li y.ci], fun w' hw' => ?_, ?_⟩
          · have t0 := stay hw' y0
            have t1 := stay hw' y1
            have t2 := stay hw' y2
            have t3 := stay hw' y3
            have t4 := stay hw' y4
            have t5 := stay hw' y5
            have t6 := stay hw' y6
            go_simp
          with_reducible refine hK _ ?_
          clear hK K
          simp only [Act.put, List.setIfInBounds_toArray, List.set_cons_zero, List.set_cons_succ]
          with_reducible refine wpQuiet_step (fun K hK => ?_)
          refine ⟨.slice (some ⟨gl, 0, none⟩) m cl, fun w' hw' => ?_, ?_⟩
          · first | (go_simp; done) | (go_simp; decide) | (go_simp; omega)
          with_reducible refine hK _ ?_
          clear hK K
          simp only [Act.put, List.setIfInBounds_toArray, List.set_cons_zero, List.set_cons_succ]
          with_reducible refine wpQuiet_step (fun K hK => ?_)
          refine ⟨.int .i64 p, fun w' hw' => ?_, ?_⟩
          · first | (go_simp; done) | (go_simp; decide) | (go_simp; omega)
          with_reducible refine hK _ ?_
          clear hK K
          simp only [Act.put, List.setIfInBounds_toArray, List.set_cons_zero, List.set_cons_succ]
          with_reducible refine wpQuiet_step (fun K hK => ?_)
          refine ⟨.pointer (some ⟨gl, p * 7, none⟩), fun w' hw' => ?_, ?_⟩
          · first | (go_simp; done) | (go_simp; decide) | (go_simp; omega)
          with_reducible refine hK _ ?_
          clear hK K
          simp only [Act.put, List.setIfInBounds_toArray, List.set_cons_zero, List.set_cons_succ]
          with_reducible refine wpQuiet_step (fun K hK => ?_)
          refine ⟨.agg #[.string x.id, .int .i64 x.ver, .int .i64 x.k, .int .i64 x.x, .string x.s, .slice x.an x.ln x.cn, .slice x.ai x.li x.ci], fun w' hw' => ?_, ?_⟩
          · have t0 := stay hw' x0
            have t1 := stay hw' x1
            have t2 := stay hw' x2
            have t3 := stay hw' x3
            have t4 := stay hw' x4
            have t5 := stay hw' x5
            have t6 := stay hw' x6
            go_simp
          with_reducible refine hK _ ?_
          clear hK K
          simp only [Act.put, List.setIfInBounds_toArray, List.set_cons_zero, List.set_cons_succ]
          with_reducible refine wpQuiet_step (fun K hK => ?_)
          refine ⟨.int .i64 C, fun w' hw' => ?_, ?_⟩
          · go_simp
            refine (call.out w' hw').mono ?_
            rintro e w'' ⟨rfl, hb'⟩
            exact ⟨rfl, hw'.trans (hb'.mono hw'.size)⟩
          with_reducible refine hK _ ?_
          clear hK K
          simp only [Act.put, List.setIfInBounds_toArray, List.set_cons_zero, List.set_cons_succ]
          by_cases hz : C < 0
          · have hF' : Hid (Fst lt ls i (i + 1)) := hF.out.next O hy.out hx.out (by rw [hCl.out]; exact decide_eq_true hz)
            with_reducible refine wpQuiet_step (fun K hK => ?_)
            refine ⟨.bool true, fun w' hw' => ?_, ?_⟩
            · first | (go_simp; done) | (go_simp; decide) | (go_simp; omega)
            with_reducible refine hK _ ?_
            clear hK K
            simp only [Act.put, List.setIfInBounds_toArray, List.set_cons_zero, List.set_cons_succ]
            refine wpQuiet_nil ?_
            intro X1 hX1
            have hb' := hid_e (hbi.out.trans (hX1.mono hbi.out.size))
            clear x0 x1 x2 x3 x4 x5 x6 y0 y1 y2 y3 y4 y5 y6 call hX1 hbi hbW hLw hC hCl
            go_wp2_with fail
            exact ⟨⟨i, i + 1, rfl, by go_num, by omega, hF', hb'⟩, by simp [intOf]; omega⟩
          · have hF' : Hid (Fst lt ls p (i + 1)) := hF.out.stay hy.out hx.out (by rw [hCl.out]; exact decide_eq_false hz)
            with_reducible refine wpQuiet_step (fun K hK => ?_)
            refine ⟨.bool false, fun w' hw' => ?_, ?_⟩
            · first | (go_simp; done) | (go_simp; decide) | (go_simp; omega)
            with_reducible refine hK _ ?_
            clear hK K
            simp only [Act.put, List.setIfInBounds_toArray, List.set_cons_zero, List.set_cons_succ]
            refine wpQuiet_nil ?_
            intro X1 hX1
            have hb' := hid_e (hbi.out.trans (hX1.mono hbi.out.size))
            clear x0 x1 x2 x3 x4 x5 x6 y0 y1 y2 y3 y4 y5 y6 call hX1 hbi hbW hLw hC hCl
            go_wp2_with fail
            exact ⟨⟨p, i + 1, rfl, by go_num, by omega, hF', hb'⟩, by simp [intOf]; omega⟩
        · obtain rfl : i = m := by omega
          have i1 : ¬ (i : Int) < (i : Int) := by omega
          have hfst : Hid (isort lt ls = x :: isort lt (ls.take p ++ ls.drop (p + 1))) := Fst.done O (by rw [hlm.out]; exact hF.out) hx.out
          have hDw : Hid (DRow w.heap.size wo (.slice ao q co) dn) := ownsRow_below hD.out hbi.out
          have hrow2 : Hid ((wo.alloc (.cells #[.string x.id, .int .i64 x.ver, .int .i64 x.k, .int .i64 x.x, .string x.s, .slice x.an x.ln x.cn, .slice x.ai x.li x.ci] 50)).ownsRow w.heap.size 50 7 (.slice ao q co) q (cellsD dn)) := by
            have h := hDw.out
            unfold DRow at h
            rw [hdq.out] at h
            exact h.alloc _
          have hbb : Hid (w.heap.size ≤ (wo.alloc (.cells #[.string x.id, .int .i64 x.ver, .int .i64 x.k, .int .i64 x.x, .string x.s, .slice x.an x.ln x.cn, .slice x.ai x.li x.ci] 50)).heap.size) := by rw [World.size_alloc]; show _ ≤ _; have := hbW.out.size; omega
          have hgl : Hid (w.heap.size ≤ gl ∧ gl < wo.heap.size) := ownsRow_ge hLw.out rfl
          have hql : Hid (q + i = n) := by
            have h := congrArg List.length hso.out
            rw [isort_length, List.length_append, isort_length, hn.out, hdq.out, hlm.out] at h
            exact h.symm
          have hq1 : q + 1 ≤ 1000000 := by have := hql.out; omega
          clear hF hD hL hbi
          go_upto_region 11 with (at_builtin; refine wpList_append_lies _ rfl _ _ 26 rfl w.heap.size 50 i0 _ 7 104 Tryz.underlying26 hi hz0 hz1 hz2 rfl (by decide) (.slice ao q co) q (cellsD dn) rfl hrow2.out _ 1 1 [.string x.id, .int .i64 x.ver, .int .i64 x.k, .int .i64 x.x, .string x.s, .slice x.an x.ln x.cn, .slice x.ai x.li x.ci] rfl rfl (World.news_of_block (heap_alloc_new wo _)) (by intro u hu; simp only [List.mem_cons, List.not_mem_nil, or_false] at hu; rcases hu with rfl | rfl | rfl | rfl | rfl | rfl | rfl <;> rfl) (by decide) (by unfold maxLen; omega) (by omega) hbb.out _ rfl ?_; intro g3 c3 w3 hown3 hgrow3 hat3 hlt3; replace hown3 := hid_e hown3; replace hgrow3 := hid_e hgrow3; replace hat3 := hid_e hat3; clear hlt3)
          have hL3 : Hid (DRow w.heap.size w3 (.slice (some ⟨gl, 0, none⟩) i cl) ls) := ownsRow_keep hLw.out (fun g hg => by
            obtain rfl : gl = g := by simpa [Value.ownBlock] using hg
            exact (hgrow3.out.block gl (by rw [World.size_alloc]; have := hgl.out; omega) (fun e => hne.out e.symm)).trans (Below.heap_alloc wo _ gl hgl.out.2))
          have hD3 : Hid (DRow w.heap.size w3 (.slice (some ⟨g3, 0, none⟩) (q + 1) c3) (dn ++ [x])) := by
            show World.ownsRow _ _ _ _ _ _ _
            rw [List.length_append, hdq.out, cellsD_append, show cellsD [x] = x.cells by simp [cellsD]]
            exact hown3.out
          have hg3 : Hid (g3 ≠ gl) := by
            intro e
            rcases hat3.out with h | h
            · exact hne.out (by rw [h, e])
            · rw [World.size_alloc] at h; have := hgl.out; omega
          have hb3 : Hid (Below w.heap.size w w3) := (hbW.out.alloc hbW.out.size _).trans (grown_below hgrow3.out hbb.out (fun g hg => (ownsRow_ge hDw.out hg).1))
          have hgl3 : Hid (gl < w3.heap.size ∧ g3 < w3.heap.size) := ⟨(ownsRow_ge hL3.out rfl).2, (ownsRow_ge hD3.out rfl).2⟩
          clear hown3 hgrow3 hat3 hrow2 hbb hDw hLw hbW x0 x1 x2 x3 x4 x5 x6 hgl
          have hrowN := hid_e (owns_docs w3.drew)
          have hbe : Hid (Below w3.heap.size w3 (w3.drew.alloc (.cells #[] 50))) := (below_drew (Below.refl _ w3)).alloc (Nat.le_refl _) _
          have hsE : Hid (w3.drew.heap.size ≤ (w3.drew.alloc (.cells #[] 50)).heap.size) := by rw [World.size_alloc]; show _ ≤ _; omega
          have hdoc := hid_e (hL3.out.docs)
          have src1 : Hid (p = 0 ∨ ∃ b off, some (⟨gl, 0, none⟩ : Addr) = some ⟨b, off, none⟩ ∧ CellsAt (w3.drew.alloc (.cells #[] 50)) b off (cellsD (ls.take p))) := by
            have h := docs_lie (w := w3.drew.alloc (.cells #[] 50)) (a := some ⟨gl, 0, none⟩) (ds := ls.take p) (fun j d hd => by
              have hjl := (List.getElem?_eq_some_iff.1 hd).1
              rw [List.length_take] at hjl
              rw [List.getElem?_take_of_lt (by omega)] at hd
              obtain ⟨b, off, e, hc⟩ := hdoc.out j d hd
              exact ⟨b, off, e, fun r u hu => stay hbe.out (hc r u hu)⟩)
            rw [List.length_take, Nat.min_eq_left (by rw [hlm.out]; omega)] at h
            exact h
          have len1 : Hid ((cellsD (ls.take p)).length = p * 7) := by show _ = _; rw [cellsD_len, List.length_take, Nat.min_eq_left (by rw [hlm.out]; omega)]
          have hcapl : Hid (i ≤ cl ∧ cl ≤ 9223372036854775807) := by have h := hL3.out.cap; rw [hlm.out] at h; exact h
          obtain ⟨P1, hP1⟩ : ∃ P1 : Nat, Hid (p + 1 = P1) := ⟨_, rfl⟩
          have eP : (p : Int) + 1 = (P1 : Int) := by have := hP1.out; omega
          have wP : IntKind.i64.wrap (P1 : Int) = (P1 : Int) := Sorted.wrap_in (by omega) (by have := hP1.out; omega)
          have bP : (P1 : Int) ≤ (i : Int) := by have := hP1.out; omega
          have bP' : P1 ≤ i := by omega
          have bC : i ≤ cl := hcapl.out.1
          have bC' : (i : Int) ≤ (cl : Int) := by omega
          have pP : (0 : Int) ≤ (P1 : Int) := by omega
          have pc : p ≤ cl := by omega
          have len2 : Hid ((cellsD (ls.drop P1)).length = (i - P1) * 7) := by show _ = _; rw [cellsD_len, List.length_drop, hlm.out]
          have hfst' : Hid (isort lt ls = x :: isort lt (ls.take p ++ ls.drop P1)) := by rw [← hP1.out]; exact hfst.out
          have hbe4 : Hid (∀ W, (w3.drew.alloc (.cells #[] 50)).grownBy W (some w3.drew.heap.size) → w3.drew.heap.size ≤ W.heap.size ∧ Below w3.heap.size w3 W) := by
            intro W hW
            have h1 : Below w3.heap.size w3 W := hbe.out.trans (grown_below hW hbe.out.size (fun g hg => by cases hg; exact Nat.le_refl _))
            exact ⟨h1.size, h1⟩
          have hnew : Hid (∀ (g : Nat) (W : World), (w3.drew.alloc (.cells #[] 50)).grownBy W (some w3.drew.heap.size) → (g = w3.drew.heap.size ∨ g = (w3.drew.alloc (.cells #[] 50)).heap.size) → w3.heap.size ≤ g) := by
            intro g W _ hg
            rcases hg with h | h
            · rw [h]; exact Nat.le_refl _
            · rw [h, World.size_alloc]; exact Nat.le_succ _
          have last : Hid (∀ (g4 g5 : Nat) (w4 w5 : World), Below w3.heap.size w3 w4 → w3.heap.size ≤ g4 → w4.grownBy w5 (some g4) → (g5 = g4 ∨ g5 = w4.heap.size) → DRow w.heap.size w5 (.slice (some ⟨g3, 0, none⟩) (q + 1) c3) (dn ++ [x]) ∧ w3.heap.size ≤ g5 ∧ g3 < w3.heap.size ∧ Below w.heap.size w w5) := by
            intro g4 g5 w4 w5 h1 h2 h3 h4
            have h5 : Below w3.heap.size w3 w5 := h1.trans (grown_below h3 h1.size (fun g hg => by cases hg; exact h2))
            refine ⟨ownsRow_below hD3.out h5, ?_, hgl3.out.2, hb3.out.trans (h5.mono hb3.out.size)⟩
            rcases h4 with h | h
            · omega
            · rw [h]; exact h1.size
          have fins : Hid (p + (i - P1) ≤ n ∧ q + 1 ≤ n ∧ p + (i - P1) < i) := by show _ ∧ _ ∧ _; have := hP1.out; have := hql.out; omega
          by_cases hcap : cl = P1
          · subst hcap
            have mk2 : Hid (∀ W : World, (w3.drew.alloc (.cells #[] 50)).grownBy W (some w3.drew.heap.size) → True) := fun _ _ => trivial
            have hdr : Hid (ls.drop cl = []) := List.drop_eq_nil_of_le (by rw [hlm.out]; exact bC)
            go_region_law (first | (refine step_append_docs rfl _ _ _ rfl w3.drew.heap.size w3.drew.heap.size 0 0 [] hrowN.out rfl (some ⟨gl, 0, none⟩) p _ (cellsD (ls.take p)) rfl len1.out src1.out (cellsD_one _) (by omega) hsE.out ?_; intro g4 c4 w4 hown4 hgrow4 hat4; rw [Nat.zero_add, List.nil_append] at hown4; rw [Nat.zero_add]; have row4 := hid_e hown4; have sz4 := hid_e (hbe4.out w4 hgrow4); have src2 := hid_e (mk2.out w4 hgrow4); have new4 := hid_e (hnew.out g4 w4 hgrow4 hat4); clear hown4 hgrow4 hat4) | (refine step_append_docs rfl _ _ _ rfl w3.drew.heap.size g4 p c4 (cellsD (ls.take p)) row4.out rfl (some (⟨gl, 0, none⟩ : Addr)) 0 _ ([] : List Value) rfl rfl (.inl rfl) (fun u hu => by cases hu) (by omega) sz4.out.1 ?_; intro g5 c5 w5 hown5 hgrow5 hat5; rw [Nat.add_zero, List.append_nil] at hown5; rw [Nat.add_zero]; have row5 := hid_e hown5; have fin5 := hid_e (last.out g4 g5 w4 w5 sz4.out.2 new4.out hgrow5 hat5); clear hown5 hgrow5 hat5))
            all_goals
              go_wp2_with fail
              exact ⟨⟨q + 1, p, dn ++ [x], ls.take p ++ ls.drop cl, some ⟨g3, 0, none⟩, c3, g5, c5, rfl, rfl, by have := fins.out.1; omega, fins.out.2.1, by show _ = _; rw [List.length_append, hdq.out]; rfl, by show _ = _; have := hP1.out; rw [List.length_append, List.length_take, List.length_drop, hlm.out]; omega, by show _ = _; rw [hso.out, hfst'.out]; simp, (fun y hy => hmem.out y (by rcases List.mem_append.1 hy with h | h; exact List.mem_of_mem_take h; exact List.mem_of_mem_drop h)), fin5.out.1, (by
                have h := row5.out
                show World.ownsRow _ _ _ _ _ _ _
                rw [hdr.out, List.append_nil, List.length_take, hlm.out, Nat.min_eq_left (by have := hP1.out; omega)]
                exact ownsRow_lo h hb3.out.size), (by show (Value.slice (some ⟨g3, 0, none⟩) (q + 1) c3).ownBlock ≠ some g5; have := fin5.out.2.1; have := fin5.out.2.2.1; simp [Value.ownBlock]; omega), fin5.out.2.2.2⟩, by simp only [lenS]; have := fins.out.2.2; omega⟩
          · have _sk := True.intro
            have mk2 : Hid (∀ W, (w3.drew.alloc (.cells #[] 50)).grownBy W (some w3.drew.heap.size) → (i - P1 = 0 ∨ ∃ b off, (some (⟨gl, P1 * 7, none⟩ : Addr)) = some ⟨b, off, none⟩ ∧ CellsAt W b off (cellsD (ls.drop P1)))) := by
              intro W hW
              have hbW := (hbe4.out W hW).2
              have h := docs_lie (w := W) (a := some ⟨gl, P1 * 7, none⟩) (ds := ls.drop P1) (fun j d hd => by
                rw [List.getElem?_drop] at hd
                obtain ⟨b, off, e, hc⟩ := hdoc.out (P1 + j) d hd
                cases e
                refine ⟨gl, P1 * 7, rfl, fun r u hu => stay hbW ?_⟩
                have h9 := hc r u hu
                rw [Nat.zero_add] at h9
                rw [← Nat.add_mul]
                exact h9)
              rw [List.length_drop, hlm.out] at h
              exact h
            go_region_law (first | (refine step_append_docs rfl _ _ _ rfl w3.drew.heap.size w3.drew.heap.size 0 0 [] hrowN.out rfl (some ⟨gl, 0, none⟩) p _ (cellsD (ls.take p)) rfl len1.out src1.out (cellsD_one _) (by omega) hsE.out ?_; intro g4 c4 w4 hown4 hgrow4 hat4; rw [Nat.zero_add, List.nil_append] at hown4; rw [Nat.zero_add]; have row4 := hid_e hown4; have sz4 := hid_e (hbe4.out w4 hgrow4); have src2 := hid_e (mk2.out w4 hgrow4); have new4 := hid_e (hnew.out g4 w4 hgrow4 hat4); clear hown4 hgrow4 hat4) | (refine step_append_docs rfl _ _ _ rfl w3.drew.heap.size g4 p c4 (cellsD (ls.take p)) row4.out rfl (some (⟨gl, P1 * 7, none⟩ : Addr)) (i - P1) _ (cellsD (ls.drop P1)) rfl len2.out src2.out (cellsD_one _) (by omega) sz4.out.1 ?_; intro g5 c5 w5 hown5 hgrow5 hat5; have row5 := hid_e hown5; have fin5 := hid_e (last.out g4 g5 w4 w5 sz4.out.2 new4.out hgrow5 hat5); clear hown5 hgrow5 hat5))
            all_goals
              go_wp2_with fail
              exact ⟨⟨q + 1, p + (i - P1), dn ++ [x], ls.take p ++ ls.drop P1, some ⟨g3, 0, none⟩, c3, g5, c5, rfl, rfl, fins.out.1, fins.out.2.1, by show _ = _; rw [List.length_append, hdq.out]; rfl, by show _ = _; have := hP1.out; rw [List.length_append, List.length_take, List.length_drop, hlm.out]; omega, by show _ = _; rw [hso.out, hfst'.out]; simp, (fun y hy => hmem.out y (by rcases List.mem_append.1 hy with h | h; exact List.mem_of_mem_take h; exact List.mem_of_mem_drop h)), fin5.out.1, (by
                have h := row5.out
                rw [← cellsD_append] at h
                show World.ownsRow _ _ _ _ _ _ _
                rw [List.length_append, List.length_take, List.length_drop, hlm.out, Nat.min_eq_left (by have := hP1.out; omega)]
                exact ownsRow_lo h hb3.out.size), (by show (Value.slice (some ⟨g3, 0, none⟩) (q + 1) c3).ownBlock ≠ some g5; have := fin5.out.2.1; have := fin5.out.2.2.1; simp [Value.ownBlock]; omega), fin5.out.2.2.2⟩, by simp only [lenS]; exact fins.out.2.2⟩
end Go.Proofs.YthafhemlnninbaaGreat.Tree
