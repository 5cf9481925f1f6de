import Derived.Test.YtgigikcopedoeaaGreatEJ
import Derived.Test.YtgigikcopedoeaaGreatYA
import Derived.Deep.RegionHeld3
/-! Rows of documents, blocks that may be written, what many lets in. -/
namespace Go.Proofs.YtgigikcopedoeaaGreat.Tree.Eq
open Go Go.RowKit Go.Stab

theorem AD : (Tryz.prog.info? 50).map (fun i => (i.zero, i.size, i.bytes)) = some (some (.agg #[.string ⟨#[]⟩, .int .i64 0, .int .i64 0, .int .i64 0, .string ⟨#[]⟩, .slice none 0 0, .slice none 0 0]), 7, 104) := by kernel_rfl
/-- A block of cells that may be written. -/
def Blk (w : World) (b : Nat) (t : TypeId) (len : Nat) : Prop := ∃ cur, w.heap[b]? = some (.cells cur t (0, 0)) ∧ cur.size = len
theorem Blk.but {w w' : World} {b : Nat} {t : TypeId} {len : Nat} (h : Blk w b t len) (hb : SortedV.But b w w') : Blk w' b t len := by
  obtain ⟨cur, h1, h2⟩ := h
  obtain ⟨cur', h3, h4⟩ := hb.shape _ _ _ h1
  exact ⟨cur', h3, h4.trans h2⟩
theorem Blk.keep {w w' : World} {b : Nat} {t : TypeId} {len : Nat} (h : Blk w b t len) (hb : Below w.heap.size w w') : Blk w' b t len := h.but (SortedV.But.of_below hb)
theorem Blk.cell {w : World} {b : Nat} {t : TypeId} {len : Nat} (h : Blk w b t len) {j : Nat} (hj : j < len) : ∃ u, w.cell? ⟨b, j, none⟩ = some u := by
  obtain ⟨cur, h1, h2⟩ := h
  exact ⟨cur[j]'(by omega), by simp [World.cell?, h1]⟩
theorem Blk.soft {w : World} {b : Nat} {t : TypeId} {len : Nat} (h : Blk w b t len) (j : Nat) : w.frozen? ⟨b, j, none⟩ = false := by
  obtain ⟨cur, h1, h2⟩ := h
  simp [World.frozen?, h1]
theorem Blk.lt {w : World} {b : Nat} {t : TypeId} {len : Nat} (h : Blk w b t len) : b < w.heap.size := by
  obtain ⟨cur, h1, h2⟩ := h
  exact (Array.getElem?_eq_some_iff.1 h1).1
def cellsD (ls : List Dc) : List Value := ls.flatMap Dc.cells
theorem cellsD_len : (ls : List Dc) → (cellsD ls).length = ls.length * 7
  | [] => rfl
  | d :: ls => by
    show (d.cells ++ cellsD ls).length = (ls.length + 1) * 7
    rw [List.length_append, cellsD_len ls]
    show 7 + ls.length * 7 = _
    omega
theorem cellsD_at : (ls : List Dc) → (q : Nat) → (d : Dc) → ls[q]? = some d → ∀ j u, d.cells[j]? = some u → (cellsD ls)[q * 7 + j]? = some u
  | [], _, _, h, _, _, _ => by simp at h
  | e0 :: es, 0, e, h, j, u, hj => by
    have : e0 = e := by simpa using h
    subst this
    show (e0.cells ++ cellsD es)[0 * 7 + j]? = some u
    rw [List.getElem?_append_left (by have := (List.getElem?_eq_some_iff.1 hj).1; omega)]
    simpa using hj
  | e0 :: es, q + 1, e, h, j, u, hj => by
    show (e0.cells ++ cellsD es)[(q + 1) * 7 + j]? = some u
    have h5 : e0.cells.length = 7 := rfl
    rw [List.getElem?_append_right (by omega), show (q + 1) * 7 + j - e0.cells.length = q * 7 + j by omega]
    exact cellsD_at es q e (by simpa using h) j u hj
theorem cellsD_one (ls : List Dc) : ∀ u ∈ cellsD ls, u.oneCell' = true := fun u hu => by
  obtain ⟨d, -, hd⟩ := List.mem_flatMap.1 hu
  unfold Dc.cells at hd
  simp only [List.mem_cons, List.not_mem_nil, or_false] at hd
  rcases hd with rfl | rfl | rfl | rfl | rfl | rfl | rfl <;> rfl
/-- Documents in a row of their own. -/
def DRow (base : Nat) (w : World) (v : Value) (ls : List Dc) : Prop := w.ownsRow base 50 7 v ls.length (cellsD ls)
theorem row_cell {w : World} {lo : Nat} {e : TypeId} {size g n cap : Nat} {xs : List Value} (h : w.ownsRow lo e size (.slice (some ⟨g, 0, none⟩) n cap) n xs) : ∀ j u, xs[j]? = some u → w.cell? ⟨g, j, none⟩ = some u := by
  intro j u hj
  obtain ⟨h1, h2⟩ := h
  rcases h2 with ⟨hv, _⟩ | ⟨g', cap', cur, hv, hg, hh, hc, hm, hs, hr⟩
  · cases hv
  · cases hv
    have hlt := (List.getElem?_eq_some_iff.1 hj).1
    rw [← hr, List.getElem?_take_of_lt (by rw [← h1]; exact hlt), Array.getElem?_toList] at hj
    simp [World.cell?, hh, hj]
theorem DRow.slice {base : Nat} {w : World} {v : Value} {ls : List Dc} (h : DRow base w v ls) : ∃ a c, v = .slice a ls.length c := ownsRow_slice h
theorem DRow.docs {base : Nat} {w : World} {a : Option Addr} {n c : Nat} {ls : List Dc} (h : DRow base w (.slice a n c) ls) : DocsAt w a ls := fun i d hd => by
  rcases h.2 with ⟨e, h0⟩ | ⟨g, cap, cur, e, hg, hh, hc, hm, hs, ht⟩
  · have : ls = [] := List.eq_nil_of_length_eq_zero h0
    subst this
    simp at hd
  · obtain ⟨rfl, rfl, rfl⟩ : a = _ ∧ n = _ ∧ c = _ := by simpa using e
    refine ⟨g, 0, rfl, fun j u hj => ?_⟩
    rw [Nat.zero_add]
    exact row_cell h _ u (cellsD_at ls i d hd j u hj)
theorem DRow.cap {base : Nat} {w : World} {g n c : Nat} {ls : List Dc} (h : DRow base w (.slice (some ⟨g, 0, none⟩) n c) ls) : ls.length ≤ c ∧ c ≤ 9223372036854775807 := by
  rcases h.2 with ⟨e, h0⟩ | ⟨g', cap, cur, e, hg, hh, hc, hm, hs, ht⟩
  · cases e
  · cases e
    exact ⟨hc, by unfold maxLen at hm; omega⟩
theorem run_append_none {P : Program} (w : World) (t ty e : TypeId) (i : TypeInfo) (ht : P.underlying t = some (.slice e)) (hi : P.info? e = some i) (g n cap : Nat) (hn : n ≤ cap) (ax : Option Addr) (c : Nat) :
    (Builtin.append_ #[t, t] ty #[.slice (some ⟨g, 0, none⟩) n cap, .slice ax 0 c]).run P w = .ok (.slice (some ⟨g, 0, none⟩) n cap) w := by
  have hs : Src P i.size t (.slice ax 0 c) 0 [] w := by
    cases ax with
    | none => exact Src.ofNil w ht c
    | some a => exact Src.ofSlice w ht a 0 c [] (by simp) (fun j u h => by simp at h) (fun u h => by cases h)
  have := run_append_room_src (P := P) w t t ty e i ht hi g 0 n cap _ 0 [] hs (by omega) (fun j h => by simp at h) (fun j h => by simp at h)
  rw [this]
  rfl
/-- Documents appended to documents. -/
theorem wp_append_docs {o : Oper} {a : Act} {K : Act → World → Prop} {Q : Exit → Act → World → Prop} (w : World) (s x : Operand)
    (ho : o.op = .call { callee := .builtin .append, args := #[s, x], argTypes := #[26, 26] }) (base g n cap : Nat) (xs : List Value) (hrow : w.ownsRow base 50 7 (.slice (some ⟨g, 0, none⟩) n cap) n xs)
    (hs : a.eval s = .slice (some ⟨g, 0, none⟩) n cap) (ax : Option Addr) (k c : Nat) (ys : List Value) (hx : a.eval x = .slice ax k c) (hys : ys.length = k * 7) (hl : k = 0 ∨ ∃ b off, ax = some ⟨b, off, none⟩ ∧ CellsAt w b off ys) (h1 : ∀ u ∈ ys, u.oneCell' = true) (hb : (n + k) * 104 ≤ 140737488355328) (hbase : base ≤ w.heap.size)
    (h : ∀ g' cap' w', w'.ownsRow base 50 7 (.slice (some ⟨g', 0, none⟩) (n + k) cap') (n + k) (xs ++ ys) → w.grownBy w' (some g) → (g' = g ∨ g' = w.heap.size) → K (a.put o.dst (.slice (some ⟨g', 0, none⟩) (n + k) cap')) w') : Oper.wp Tryz.prog o a w K Q := by
  obtain ⟨i, hi, hz0, hz1, hz2⟩ := info_parts AD
  by_cases h0 : k = 0
  · subst h0
    have e : ys = [] := List.eq_nil_of_length_eq_zero (by omega)
    subst e
    have hcap : n ≤ cap := by
      rcases hrow.2 with ⟨hv, _⟩ | ⟨g', cap', cur, hv, hg, hh, hc, hm, hs, hr⟩
      · cases hv
      · cases hv; exact hc
    have hr := run_append_none (P := Tryz.prog) w 26 o.type 50 i Tryz.underlying26 hi g n cap hcap ax c
    unfold Oper.wp execOp
    simp only [ho, resolve, invoke, builtin, Sem.run_bind, Sem.run_pure, Result.andThen_ok, List.map_toArray, List.map_cons, List.map_nil, hs, hx, hr]
    exact h g cap w (by rw [List.append_nil]; exact hrow) (World.grownBy.refl w _) (.inl rfl)
  · obtain ⟨b, off, rfl, hc⟩ := hl.resolve_left h0
    refine wp_append_lies w s x 26 ho base 50 i _ 7 104 Tryz.underlying26 hi hz0 hz1 hz2 rfl (by decide) _ n xs hs hrow _ k c ys hx hys (fun j u hu => by rw [add_off]; exact hc j u hu) h1 (by omega) (by unfold maxLen; omega) hb hbase _ rfl ?_
    intro g' cap' w' h2 h3 h4 _
    exact h g' cap' w' h2 h3 (h4.elim (fun e => .inl (by simpa [Value.ownBlock] using e.symm)) .inr)
theorem wpList_append_docs {ops : Array Oper} {rest : List Oper} {o : Oper} {a : Act} {Q : Exit → Act → World → Prop} (hgd : o.guard = none) (w : World) (s x : Operand)
    (ho : o.op = .call { callee := .builtin .append, args := #[s, x], argTypes := #[26, 26] }) (base g n cap : Nat) (xs : List Value) (hrow : w.ownsRow base 50 7 (.slice (some ⟨g, 0, none⟩) n cap) n xs)
    (hs : a.eval s = .slice (some ⟨g, 0, none⟩) n cap) (ax : Option Addr) (k c : Nat) (ys : List Value) (hx : a.eval x = .slice ax k c) (hys : ys.length = k * 7) (hl : k = 0 ∨ ∃ b off, ax = some ⟨b, off, none⟩ ∧ CellsAt w b off ys) (h1 : ∀ u ∈ ys, u.oneCell' = true) (hb : (n + k) * 104 ≤ 140737488355328) (hbase : base ≤ w.heap.size)
    (h : ∀ g' cap' w', w'.ownsRow base 50 7 (.slice (some ⟨g', 0, none⟩) (n + k) cap') (n + k) (xs ++ ys) → w.grownBy w' (some g) → (g' = g ∨ g' = w.heap.size) → wpList Tryz.prog ops Q rest (a.put o.dst (.slice (some ⟨g', 0, none⟩) (n + k) cap')) w') : wpList Tryz.prog ops Q (o :: rest) a w :=
  wpList_plain hgd fun _ hK => wp_append_docs w s x ho base g n cap xs hrow hs ax k c ys hx hys hl h1 hb hbase fun g' cap' w' h2 h3 h4 => hK _ _ (h g' cap' w' h2 h3 h4)
theorem step_append_docs {ops : Array Oper} {o : Oper} {a : Act} {K : Act → World → Prop} {Q : Exit → Act → World → Prop} {E : Prop} (hgd : o.guard = none) (w : World) (s x : Operand)
    (ho : o.op = .call { callee := .builtin .append, args := #[s, x], argTypes := #[26, 26] }) (base g n cap : Nat) (xs : List Value) (hrow : w.ownsRow base 50 7 (.slice (some ⟨g, 0, none⟩) n cap) n xs)
    (hs : a.eval s = .slice (some ⟨g, 0, none⟩) n cap) (ax : Option Addr) (k c : Nat) (ys : List Value) (hx : a.eval x = .slice ax k c) (hys : ys.length = k * 7) (hl : k = 0 ∨ ∃ b off, ax = some ⟨b, off, none⟩ ∧ CellsAt w b off ys) (h1 : ∀ u ∈ ys, u.oneCell' = true) (hb : (n + k) * 104 ≤ 140737488355328) (hbase : base ≤ w.heap.size)
    (h : ∀ g' cap' w', w'.ownsRow base 50 7 (.slice (some ⟨g', 0, none⟩) (n + k) cap') (n + k) (xs ++ ys) → w.grownBy w' (some g) → (g' = g ∨ g' = w.heap.size) → K (a.put o.dst (.slice (some ⟨g', 0, none⟩) (n + k) cap')) w') : if Region.wanted o (yielded ops a.tmps) = true then Oper.wp Tryz.prog o a w K Q else E := by
  have hw : Region.wanted o (yielded ops a.tmps) = true := by simp [Region.wanted, hgd]
  rw [if_pos hw]
  exact wp_append_docs w s x ho base g n cap xs hrow hs ax k c ys hx hys hl h1 hb hbase h
theorem owns_docs (w : World) : (w.alloc (.cells #[] 50)).ownsRow w.heap.size 50 7 (.slice (some ⟨w.heap.size, 0, none⟩) 0 0) 0 [] :=
  ⟨rfl, .inr ⟨w.heap.size, 0, #[], rfl, Nat.le_refl _, heap_alloc_new w _, Nat.le_refl _, Nat.zero_le _, rfl, rfl⟩⟩
theorem docs_lie {w : World} {a : Option Addr} {ds : List Dc} (h : DocsAt w a ds) : ds.length = 0 ∨ ∃ b off, a = some ⟨b, off, none⟩ ∧ CellsAt w b off (cellsD ds) := by
  rcases Nat.eq_zero_or_pos ds.length with h0 | h0
  · exact .inl h0
  · obtain ⟨b, off, e, -⟩ := h 0 ds[0] (List.getElem?_eq_getElem h0)
    refine .inr ⟨b, off, e, fun j u hj => ?_⟩
    have hjl := (List.getElem?_eq_some_iff.1 hj).1
    rw [cellsD_len] at hjl
    obtain ⟨q, r, hr, rfl⟩ : ∃ q r, r < 7 ∧ j = q * 7 + r := ⟨j / 7, j % 7, by omega, by omega⟩
    have hq : q < ds.length := by omega
    obtain ⟨b', o', e', hc⟩ := h q ds[q] (List.getElem?_eq_getElem hq)
    rw [e] at e'
    cases e'
    obtain ⟨u', hu'⟩ : ∃ u', (ds[q]).cells[r]? = some u' := ⟨_, List.getElem?_eq_getElem (show r < 7 from hr)⟩
    have h2 := cellsD_at ds q ds[q] (List.getElem?_eq_getElem hq) r u' hu'
    rw [hj] at h2
    cases h2
    rw [← Nat.add_assoc]
    exact hc r u hu'
def lenS : Value → Nat
  | .slice _ n _ => n
  | _ => 0
/-- Where the document's Order stands. -/
def RO (lt : Dc → Dc → Bool) (ds : List Dc) (w : World) (n : Nat) (mv lv : Value) (wr : World) : Prop := ∃ (q m : Nat) (dn ls : List Dc) (ao : Option Addr) (co gl cl : Nat), mv = .slice ao q co ∧ lv = .slice (some ⟨gl, 0, none⟩) m cl ∧ m ≤ n ∧ q ≤ n ∧ Hid (dn.length = q) ∧ Hid (ls.length = m) ∧ Hid (isort lt ds = dn ++ isort lt ls) ∧ Hid (∀ x ∈ ls, x ∈ ds) ∧ Hid (DRow w.heap.size wr (.slice ao q co) dn) ∧ Hid (DRow w.heap.size wr (.slice (some ⟨gl, 0, none⟩) m cl) ls) ∧ Hid ((Value.slice ao q co).ownBlock ≠ some gl) ∧ Hid (Below w.heap.size w wr)
theorem cellsD_append (l r : List Dc) : cellsD (l ++ r) = cellsD l ++ cellsD r := by simp [cellsD, List.flatMap_append]
set_option maxHeartbeats 4000000 in
set_option maxRecDepth 100000 in
theorem many_exact (a : Option Addr) (c n : Nat) (ds : List Dc) (w : World) (hn : ds.length = n) (hnn : n ≤ 4611686018427387904) (hV : DocsAt w a ds) (hR : Reads' w ds) (hS : ∀ d ∈ ds, SmallT d.t) :
    Calls Tryz.prog 8 #[.slice a n c] w fun e w' => SomeB (fun z => z = false → n ≤ 150 ∧ ∀ d ∈ ds, partsT d.t ≤ 5000) e ∧ Below w.heap.size w w' := by
  have n0 : (0 : Int) ≤ (n : Int) := by omega
  have n1 : (n : Int) ≤ 4611686018427387904 := by omega
  replace hn := hid_e hn
  replace hV := hid_e hV
  replace hR := hid_e hR
  replace hS := hid_e hS
  obtain ⟨P, hP⟩ : ∃ P : Bool → Prop, ∀ z, P z ↔ (z = false → n ≤ 150 ∧ ∀ d ∈ ds, partsT d.t ≤ 5000) := ⟨_, fun _ => Iff.rfl⟩
  suffices h : Calls Tryz.prog 8 #[.slice a n c] w fun e w' => SomeB P e ∧ Below w.heap.size w w' from h.mono (by rintro e w' ⟨⟨z, e1, h1⟩, h2⟩; exact ⟨⟨z, e1, (hP z).1 h1⟩, h2⟩)
  have hPt : Hid (P true) := (hP true).2 (fun h => by cases h)
  have hPf : Hid (n ≤ 150 → (∀ d ∈ ds, partsT d.t ≤ 5000) → P false) := fun h h' => (hP false).2 (fun _ => ⟨h, h'⟩)
  clear hP
  go_enter Tryz.func8, Tryz.ntmps8
  go_wp2_with fail
  go_loopw [3, 4] (fun nv iv wr => ∃ (q : Nat) (z : Int), nv = .int .i64 z ∧ iv = .int .i64 q ∧ q ≤ n ∧ Hid (0 ≤ z ∧ z ≤ 8796093031953 ∧ (z ≤ 5000 → z = (partsL ((ds.map Dc.t).take q) : Nat))) ∧ Hid (Below w.heap.size w wr)) (fun _ iv _ => n - (intOf iv).toNat)
  case atStart => exact ⟨0, 0, rfl, rfl, Nat.zero_le _, ⟨by omega, by omega, fun _ => by simp [partsL]⟩, Below.refl _ _⟩
  case round =>
    obtain ⟨q, z, rfl, rfl, hq, hzz, hb⟩ := hrel
    by_cases hlt : q < n ∧ z ≤ 5000
    · obtain ⟨hlt, hz⟩ := hlt
      have q1 : (q : Int) < (n : Int) := by omega
      have q0 : (0 : Int) ≤ (q : Int) := by omega
      obtain ⟨d, hd⟩ : ∃ d, Hid (ds[q]? = some d) := ⟨ds[q]'(by rw [hn.out]; omega), List.getElem?_eq_getElem (by rw [hn.out]; omega)⟩
      obtain ⟨b, o, ea, hc1⟩ := (hV.out.keep hb.out) q d hd.out
      subst ea
      have call := hid_e (parts_exact d.t _ 5000 wr (VRep.keep hb.out _ _ (hR.out d (List.mem_of_getElem? hd.out))) (hS.out d (List.mem_of_getElem? hd.out)) (by decide) (by decide))
      unfold Dc.v5 five at call
      unfold Dc.cells at hc1
      obtain ⟨x10, x11, x12, x13, x14, x15, x16⟩ := cells7 hc1
      clear hc1
      go_wp2_with fail
      refine call.out.mono ?_
      rintro e w2 ⟨⟨m, rfl, hm⟩, hb2⟩
      have hb' := hid_e (hb.out.trans (hb2.mono hb.out.size))
      have hz' : Hid (0 ≤ z + m ∧ z + m ≤ 8796093031953 ∧ (z + m ≤ 5000 → z + m = (partsL ((ds.map Dc.t).take (q + 1)) : Nat))) := by
        obtain ⟨h1, h2, h3⟩ := hzz.out
        obtain ⟨k1, k2, k3, -⟩ := hm
        have hp := partsL_step (l := ds.map Dc.t) (q := q) (u := d.t) (by rw [List.getElem?_map, hd.out]; rfl)
        refine ⟨by omega, by omega, fun h => ?_⟩
        have e1 := h3 (by omega)
        have e2 := k3 (by omega)
        omega
      have z0 : -9223372036854775808 ≤ z + m := by have := hz'.out.1; omega
      have z1 : z + m ≤ 9223372036854775807 := by have := hz'.out.2.1; omega
      clear call x10 x11 x12 x13 x14 x15 x16 hb2 hb hm hzz
      go_wp2_with fail
      exact ⟨⟨q + 1, z + m, by go_num, by go_num, by omega, hz', hb'⟩, by simp [intOf]; omega⟩
    · by_cases hq1 : q < n
      · have q1 : (q : Int) < (n : Int) := by omega
        have z1 : ¬ z ≤ 5000 := by omega
        have z2 : (5000 : Int) < z := by omega
        by_cases hl : n ≤ 150
        · have hl' : ¬ (150 : Int) < (n : Int) := by omega
          clear hlt hzz
          go_wp2_with fail
          go_ret
          exact ⟨⟨_, rfl, hPt.out⟩, hb.out⟩
        · have hl' : (150 : Int) < (n : Int) := by omega
          clear hlt hzz
          go_wp2_with fail
          go_ret
          exact ⟨⟨_, rfl, hPt.out⟩, hb.out⟩
      · obtain rfl : q = n := by omega
        have q1 : ¬ (q : Int) < (q : Int) := by omega
        by_cases hl : q ≤ 150
        · have hl' : ¬ (150 : Int) < (q : Int) := by omega
          by_cases hz5 : z ≤ 5000
          · have z2 : ¬ (5000 : Int) < z := by omega
            have hp : Hid (P false) := hPf.out hl (fun d hd => by
              have h3 := hzz.out.2.2 hz5
              rw [List.take_of_length_le (by rw [List.length_map, hn.out]; exact Nat.le_refl _)] at h3
              obtain ⟨i, hi⟩ := List.mem_iff_getElem?.1 hd
              have := partsL_mem (its := ds.map Dc.t) (i := i) (u := d.t) (by rw [List.getElem?_map, hi]; rfl)
              omega)
            clear hlt hzz hPf
            go_wp2_with fail
            go_ret
            exact ⟨⟨_, rfl, hp.out⟩, hb.out⟩
          · have z2 : (5000 : Int) < z := by omega
            clear hlt hzz hPf
            go_wp2_with fail
            go_ret
            exact ⟨⟨_, rfl, hPt.out⟩, hb.out⟩
        · have hl' : (150 : Int) < (q : Int) := by omega
          clear hlt hzz hPf
          go_wp2_with fail
          go_ret
          exact ⟨⟨_, rfl, hPt.out⟩, hb.out⟩
end Go.Proofs.YtgigikcopedoeaaGreat.Tree.Eq
/-! Lists of the same values; rows that are written and grow. -/
namespace Go.Proofs.YtgigikcopedoeaaGreat.Tree.Eq
open Go Go.RowKit Go.Stab

/-- Texts appended to texts. -/
theorem wp_append_strs {o : Oper} {a : Act} {K : Act → World → Prop} {Q : Exit → Act → World → Prop} (w : World) (s x : Operand)
    (ho : o.op = .call { callee := .builtin .append, args := #[s, x], argTypes := #[22, 22] }) (base g n cap : Nat) (xs : List Value) (hrow : w.ownsRow base 9 1 (.slice (some ⟨g, 0, none⟩) n cap) n xs)
    (hs : a.eval s = .slice (some ⟨g, 0, none⟩) n cap) (ax : Option Addr) (k c : Nat) (ys : List Value) (hx : a.eval x = .slice ax k c) (hys : ys.length = k * 1) (hl : k = 0 ∨ ∃ b off, ax = some ⟨b, off, none⟩ ∧ CellsAt w b off ys) (h1 : ∀ u ∈ ys, u.oneCell' = true) (hb : (n + k) * 16 ≤ 140737488355328) (hbase : base ≤ w.heap.size)
    (h : ∀ g' cap' w', w'.ownsRow base 9 1 (.slice (some ⟨g', 0, none⟩) (n + k) cap') (n + k) (xs ++ ys) → w.grownBy w' (some g) → (g' = g ∨ g' = w.heap.size) → K (a.put o.dst (.slice (some ⟨g', 0, none⟩) (n + k) cap')) w') : Oper.wp Tryz.prog o a w K Q := by
  obtain ⟨i, hi, hz0, hz1, hz2⟩ := info_parts A9
  by_cases h0 : k = 0
  · subst h0
    have e : ys = [] := List.eq_nil_of_length_eq_zero (by omega)
    subst e
    have hcap : n ≤ cap := by
      rcases hrow.2 with ⟨hv, _⟩ | ⟨g', cap', cur, hv, hg, hh, hc, hm, hs, hr⟩
      · cases hv
      · cases hv; exact hc
    have hr := run_append_none (P := Tryz.prog) w 22 o.type 9 i Tryz.underlying22 hi g n cap hcap ax c
    unfold Oper.wp execOp
    simp only [ho, resolve, invoke, builtin, Sem.run_bind, Sem.run_pure, Result.andThen_ok, List.map_toArray, List.map_cons, List.map_nil, hs, hx, hr]
    exact h g cap w (by rw [List.append_nil]; exact hrow) (World.grownBy.refl w _) (.inl rfl)
  · obtain ⟨b, off, rfl, hc⟩ := hl.resolve_left h0
    refine wp_append_lies w s x 22 ho base 9 i _ 1 16 Tryz.underlying22 hi hz0 hz1 hz2 rfl (by decide) _ n xs hs hrow _ k c ys hx hys (fun j u hu => by rw [add_off]; exact hc j u hu) h1 (by omega) (by unfold maxLen; omega) hb hbase _ rfl ?_
    intro g' cap' w' h2 h3 h4 _
    exact h g' cap' w' h2 h3 (h4.elim (fun e => .inl (by simpa [Value.ownBlock] using e.symm)) .inr)
theorem wpList_append_strs {ops : Array Oper} {rest : List Oper} {o : Oper} {a : Act} {Q : Exit → Act → World → Prop} (hgd : o.guard = none) (w : World) (s x : Operand)
    (ho : o.op = .call { callee := .builtin .append, args := #[s, x], argTypes := #[22, 22] }) (base g n cap : Nat) (xs : List Value) (hrow : w.ownsRow base 9 1 (.slice (some ⟨g, 0, none⟩) n cap) n xs)
    (hs : a.eval s = .slice (some ⟨g, 0, none⟩) n cap) (ax : Option Addr) (k c : Nat) (ys : List Value) (hx : a.eval x = .slice ax k c) (hys : ys.length = k * 1) (hl : k = 0 ∨ ∃ b off, ax = some ⟨b, off, none⟩ ∧ CellsAt w b off ys) (h1 : ∀ u ∈ ys, u.oneCell' = true) (hb : (n + k) * 16 ≤ 140737488355328) (hbase : base ≤ w.heap.size)
    (h : ∀ g' cap' w', w'.ownsRow base 9 1 (.slice (some ⟨g', 0, none⟩) (n + k) cap') (n + k) (xs ++ ys) → w.grownBy w' (some g) → (g' = g ∨ g' = w.heap.size) → wpList Tryz.prog ops Q rest (a.put o.dst (.slice (some ⟨g', 0, none⟩) (n + k) cap')) w') : wpList Tryz.prog ops Q (o :: rest) a w :=
  wpList_plain hgd fun _ hK => wp_append_strs w s x ho base g n cap xs hrow hs ax k c ys hx hys hl h1 hb hbase fun g' cap' w' h2 h3 h4 => hK _ _ (h g' cap' w' h2 h3 h4)
theorem step_append_strs {ops : Array Oper} {o : Oper} {a : Act} {K : Act → World → Prop} {Q : Exit → Act → World → Prop} {E : Prop} (hgd : o.guard = none) (w : World) (s x : Operand)
    (ho : o.op = .call { callee := .builtin .append, args := #[s, x], argTypes := #[22, 22] }) (base g n cap : Nat) (xs : List Value) (hrow : w.ownsRow base 9 1 (.slice (some ⟨g, 0, none⟩) n cap) n xs)
    (hs : a.eval s = .slice (some ⟨g, 0, none⟩) n cap) (ax : Option Addr) (k c : Nat) (ys : List Value) (hx : a.eval x = .slice ax k c) (hys : ys.length = k * 1) (hl : k = 0 ∨ ∃ b off, ax = some ⟨b, off, none⟩ ∧ CellsAt w b off ys) (h1 : ∀ u ∈ ys, u.oneCell' = true) (hb : (n + k) * 16 ≤ 140737488355328) (hbase : base ≤ w.heap.size)
    (h : ∀ g' cap' w', w'.ownsRow base 9 1 (.slice (some ⟨g', 0, none⟩) (n + k) cap') (n + k) (xs ++ ys) → w.grownBy w' (some g) → (g' = g ∨ g' = w.heap.size) → K (a.put o.dst (.slice (some ⟨g', 0, none⟩) (n + k) cap')) w') : if Region.wanted o (yielded ops a.tmps) = true then Oper.wp Tryz.prog o a w K Q else E := by
  have hw : Region.wanted o (yielded ops a.tmps) = true := by simp [Region.wanted, hgd]
  rw [if_pos hw]
  exact wp_append_strs w s x ho base g n cap xs hrow hs ax k c ys hx hys hl h1 hb hbase h
theorem owns_strs (w : World) : (w.alloc (.cells #[] 9)).ownsRow w.heap.size 9 1 (.slice (some ⟨w.heap.size, 0, none⟩) 0 0) 0 [] :=
  ⟨rfl, .inr ⟨w.heap.size, 0, #[], rfl, Nat.le_refl _, heap_alloc_new w _, Nat.le_refl _, Nat.zero_le _, rfl, rfl⟩⟩
theorem LIn.listIn {W0 : World} {base : Nat} {w : World} {a : Option Addr} {n c : Nat} {es : List El} (h : LIn W0 base w (.slice a n c) es) (hn : es.length = n) : ListIn W0 w a c (treesE es) := by
  refine ⟨?_, fun q u hu => ?_⟩
  · rw [treesE_len]
    rcases h.row.2 with ⟨e, h0⟩ | ⟨g', cap, cur, e, hg, hh, hc, hm, hs, ht⟩
    · cases e; omega
    · cases e; exact ⟨hc, by unfold maxLen at hm; omega⟩
  · obtain ⟨e, he, rfl⟩ : ∃ e, es[q]? = some e ∧ e.t = u := by
      unfold treesE at hu
      rw [List.getElem?_map] at hu
      obtain ⟨e, h1, h2⟩ := Option.map_eq_some_iff.1 hu
      exact ⟨e, h1, h2⟩
    obtain ⟨g, e1, hl, hcs, ⟨k, x, s, an, ln, cn, ai, li, ci, hf⟩, hv⟩ := h.item he
    rw [hf] at hcs hv
    exact ⟨g, 0, k, x, s, an, ln, cn, ai, li, ci, e1, hl, by rw [Nat.zero_add]; exact hcs, hv⟩
/-- All as it was but for one block. -/
theorem listIn_grown {W0 w w' : World} {a : Option Addr} {c : Nat} {its : List Tr} {r : Option Nat} (h : ListIn W0 w a c its) (hg : w.grownBy w' r) (hne : ∀ g o, a = some ⟨g, o, none⟩ → r ≠ some g) : ListIn W0 w' a c its := ⟨h.1, fun q u hu => by
  obtain ⟨b, o, k, x, s, an, ln, cn, ai, li, ci, e, hl, hc, hv⟩ := h.2 q u hu
  exact ⟨b, o, k, x, s, an, ln, cn, ai, li, ci, e, Nat.lt_of_lt_of_le hl hg.size, fun j v hj => (World.cell?_of_block (hg.block b hl (fun e' => hne b o e e'.symm))).trans (hc j v hj), hv⟩⟩
theorem own_but {W W' : World} {base g n cap : Nat} {xs : List Value} (h : W.ownsRow base 25 5 (.slice (some ⟨g, 0, none⟩) n cap) n xs) (hb : SortedV.But g W W') : ∃ ys, W'.ownsRow base 25 5 (.slice (some ⟨g, 0, none⟩) n cap) n ys := by
  rcases h.2 with ⟨hv, _⟩ | ⟨g', cap', cur, hv, hg, hh, hc, hm, hs, hr⟩
  · cases hv
  · cases hv
    obtain ⟨cur', h1, h2⟩ := hb.shape _ _ _ hh
    refine ⟨cur'.toList.take (n * 5), ?_, .inr ⟨g, cap, cur', rfl, hg, h1, hc, hm, by rw [h2, hs], rfl⟩⟩
    rw [List.length_take, Array.length_toList, h2, hs]
    exact Nat.min_eq_left (Nat.mul_le_mul_right 5 hc)
theorem own_blk {W : World} {base g n cap : Nat} {xs : List Value} (h : W.ownsRow base 25 5 (.slice (some ⟨g, 0, none⟩) n cap) n xs) : Blk W g 25 (cap * 5) ∧ n ≤ cap := by
  rcases h.2 with ⟨hv, _⟩ | ⟨g', cap', cur, hv, hg, hh, hc, hm, hs, hr⟩
  · cases hv
  · cases hv; exact ⟨⟨cur, hh, hs⟩, hc⟩
theorem own_some {W : World} {base : Nat} {a : Option Addr} {n c : Nat} {xs : List Value} (h : W.ownsRow base 25 5 (.slice a n c) n xs) (h0 : 0 < n) : ∃ g, a = some ⟨g, 0, none⟩ := by
  rcases h.2 with ⟨hv, h1⟩ | ⟨g', cap', cur, hv, hg, hh, hc, hm, hs, hr⟩
  · omega
  · cases hv; exact ⟨g', rfl⟩
theorem grown_but {W W' : World} {g : Nat} (hb : SortedV.But g W W') : W.grownBy W' (some g) := ⟨hb.os, hb.tape, hb.output, hb.size, fun k hk hne => hb.block k hk (fun e => hne (by rw [e]))⟩
/-- A text that is read, within a longer row. -/
theorem reads_row {W : World} {base g pl c : Nat} {l : List ByteArray} {s : ByteArray} (hl : l.length = pl) (h : W.ownsRow base 9 1 (.slice (some ⟨g, 0, none⟩) (pl + 1) c) (pl + 1) (strs l ++ [.string s])) : Reads W (.slice (some ⟨g, 0, none⟩) pl c) l ∧ W.cell? ⟨g, pl, none⟩ = some (.string s) ∧ pl + 1 ≤ c ∧ c ≤ 9223372036854775807 := by
  have hc := row_cap h
  have hcell := row_cell h
  have hg := (ownsRow_ge h (g := g) rfl).2
  refine ⟨⟨some ⟨g, 0, none⟩, c, by rw [hl], by omega, .inr ⟨g, 0, rfl, hg, fun j t hj => ?_⟩⟩, ?_, hc⟩
  · rw [Nat.zero_add]
    have hjl := (List.getElem?_eq_some_iff.1 hj).1
    exact hcell j _ (by rw [List.getElem?_append_left (by rw [strs_length]; exact hjl)]; simp [strs, hj])
  · exact hcell pl _ (by rw [List.getElem?_append_right (by rw [strs_length, hl]; exact Nat.le_refl _), strs_length, hl, Nat.sub_self]; rfl)
theorem strs_lie {W : World} {pa : Option Addr} {pl pc : Nat} {l : List ByteArray} (hl : l.length = pl) (h : Reads W (.slice pa pl pc) l) : pl = 0 ∨ ∃ b off, pa = some ⟨b, off, none⟩ ∧ CellsAt W b off (strs l) := by
  obtain ⟨a, c, e, hc, h | ⟨b, o, rfl, hlt, h⟩⟩ := h
  · left; rw [← hl, h]; rfl
  · right
    cases e
    refine ⟨b, o, rfl, fun j u hj => ?_⟩
    unfold strs at hj
    rw [List.getElem?_map] at hj
    obtain ⟨s, h1, rfl⟩ := Option.map_eq_some_iff.1 hj
    exact h j s h1
theorem str_lies (w : World) (s : ByteArray) : CellsAt (w.alloc (.cells #[.string s] 9)) w.heap.size 0 [.string s] := fun j u hj => by
  unfold World.cell?
  rw [heap_alloc_new w]
  simpa using hj
set_option maxHeartbeats 4000000 in
set_option maxRecDepth 100000 in
theorem values_same (a a' : Option Addr) (c c' n : Nat) (its : List Tr) (W0 W0' w : World) (hW : Below W0.heap.size W0 w) (hW' : Below W0'.heap.size W0' w) (hn : its.length = n) (hnn : n ≤ 1000000) (hL : ListIn W0 w a c its) (hL' : ListIn W0' w a' c' its) :
    Calls Tryz.prog 25 #[.slice a n c, .slice a' n c'] w fun e w' => e = .returned (.bool true) ∧ Below w.heap.size w w' := by
  have n0 : (0 : Int) ≤ (n : Int) := by omega
  have n1 : (n : Int) ≤ 1000000 := by omega
  replace hn := hid_e hn
  replace hL := hid_e hL
  replace hL' := hid_e hL'
  replace hW := hid_e hW
  replace hW' := hid_e hW'
  go_enter Tryz.func25, Tryz.ntmps25
  go_wp2_with fail
  go_loopw [5] (fun iv wr => ∃ (q : Nat), iv = .int .i64 q ∧ q ≤ n ∧ Hid (Below w.heap.size w wr)) (fun iv _ => n - (intOf iv).toNat)
  case atStart => exact ⟨0, rfl, Nat.zero_le _, Below.refl _ _⟩
  case round =>
    obtain ⟨q, rfl, hq, hb⟩ := hrel
    by_cases hlt : q < n
    · have q1 : (q : Int) < (n : Int) := by omega
      have q0 : (0 : Int) ≤ (q : Int) := by omega
      obtain ⟨u, hu⟩ : ∃ u, Hid (its[q]? = some u) := ⟨its[q]'(by rw [hn.out]; omega), List.getElem?_eq_getElem (by rw [hn.out]; omega)⟩
      obtain ⟨b, o, k1, x1, s1, an1, ln1, cn1, ai1, li1, ci1, ea, -, hc1, hv1⟩ := (hL.out.keep hb.out).item hu.out
      obtain ⟨b', o', k2, x2, s2, an2, ln2, cn2, ai2, li2, ci2, ea', -, hc2, hv2⟩ := (hL'.out.keep hb.out).item hu.out
      subst ea
      subst ea'
      have call := hid_e (fun W (hw : Below wr.heap.size wr W) => equal_two u k1 x1 s1 an1 ln1 cn1 ai1 li1 ci1 k2 x2 s2 an2 ln2 cn2 ai2 li2 ci2 W (VRep.keep (hW.out.trans ((hb.out.trans (hw.mono hb.out.size)).mono hW.out.size)) _ _ hv1) (VRep.keep (hW'.out.trans ((hb.out.trans (hw.mono hb.out.size)).mono hW'.out.size)) _ _ hv2))
      obtain ⟨x10, x11, x12, x13, x14⟩ := cells5 hc1
      obtain ⟨y10, y11, y12, y13, y14⟩ := cells5 hc2
      clear hc1 hc2 hv1 hv2
      go_upto_region 6 with fail
      refine wp_region_quiet (C := fun w' => Below wr.heap.size wr w') (by kernel_rfl) (by kernel_rfl) (below_drewN (Below.refl _ _) 1) ?_
      with_reducible refine wpQuiet_step (fun K hK => ?_)
      refine ⟨.slice (some ⟨b, o, none⟩) n c, fun w' hw' => ?_, ?_⟩
      · first | (go_simp; done) | (go_simp; decide) | (go_simp; omega)
      with_reducible refine hK _ ?_
      clear hK K
      simp only [Act.put, List.setIfInBounds_toArray, List.set_cons_zero, List.set_cons_succ]
      with_reducible refine wpQuiet_step (fun K hK => ?_)
      refine ⟨.int .i64 q, fun w' hw' => ?_, ?_⟩
      · first | (go_simp; done) | (go_simp; decide) | (go_simp; omega)
      with_reducible refine hK _ ?_
      clear hK K
      simp only [Act.put, List.setIfInBounds_toArray, List.set_cons_zero, List.set_cons_succ]
      with_reducible refine wpQuiet_step (fun K hK => ?_)
      refine ⟨.pointer (some ⟨b, o + q * 5, none⟩), fun w' hw' => ?_, ?_⟩
      · first | (go_simp; done) | (go_simp; decide) | (go_simp; omega)
      with_reducible refine hK _ ?_
      clear hK K
      simp only [Act.put, List.setIfInBounds_toArray, List.set_cons_zero, List.set_cons_succ]
      with_reducible refine wpQuiet_step (fun K hK => ?_)
      refine ⟨.agg #[.int .i64 k1, .int .i64 x1, .string s1, .slice an1 ln1 cn1, .slice ai1 li1 ci1], fun w' hw' => ?_, ?_⟩
      · have t0 := stay hw' x10; have t1 := stay hw' x11; have t2 := stay hw' x12; have t3 := stay hw' x13; have t4 := stay hw' x14; go_simp
      with_reducible refine hK _ ?_
      clear hK K
      simp only [Act.put, List.setIfInBounds_toArray, List.set_cons_zero, List.set_cons_succ]
      with_reducible refine wpQuiet_step (fun K hK => ?_)
      refine ⟨.slice (some ⟨b', o', none⟩) n c', fun w' hw' => ?_, ?_⟩
      · first | (go_simp; done) | (go_simp; decide) | (go_simp; omega)
      with_reducible refine hK _ ?_
      clear hK K
      simp only [Act.put, List.setIfInBounds_toArray, List.set_cons_zero, List.set_cons_succ]
      with_reducible refine wpQuiet_step (fun K hK => ?_)
      refine ⟨.int .i64 q, fun w' hw' => ?_, ?_⟩
      · first | (go_simp; done) | (go_simp; decide) | (go_simp; omega)
      with_reducible refine hK _ ?_
      clear hK K
      simp only [Act.put, List.setIfInBounds_toArray, List.set_cons_zero, List.set_cons_succ]
      with_reducible refine wpQuiet_step (fun K hK => ?_)
      refine ⟨.pointer (some ⟨b', o' + q * 5, none⟩), fun w' hw' => ?_, ?_⟩
      · first | (go_simp; done) | (go_simp; decide) | (go_simp; omega)
      with_reducible refine hK _ ?_
      clear hK K
      simp only [Act.put, List.setIfInBounds_toArray, List.set_cons_zero, List.set_cons_succ]
      with_reducible refine wpQuiet_step (fun K hK => ?_)
      refine ⟨.agg #[.int .i64 k2, .int .i64 x2, .string s2, .slice an2 ln2 cn2, .slice ai2 li2 ci2], fun w' hw' => ?_, ?_⟩
      · have t0 := stay hw' y10; have t1 := stay hw' y11; have t2 := stay hw' y12; have t3 := stay hw' y13; have t4 := stay hw' y14; go_simp
      with_reducible refine hK _ ?_
      clear hK K
      simp only [Act.put, List.setIfInBounds_toArray, List.set_cons_zero, List.set_cons_succ]
      with_reducible refine wpQuiet_step (fun K hK => ?_)
      refine ⟨.bool true, fun w' hw' => ?_, ?_⟩
      · go_simp
        refine (call.out w' hw').mono ?_
        rintro e w'' ⟨rfl, hb'⟩
        exact ⟨rfl, hw'.trans (hb'.mono hw'.size)⟩
      with_reducible refine hK _ ?_
      clear hK K
      simp only [Act.put, List.setIfInBounds_toArray, List.set_cons_zero, List.set_cons_succ]
      with_reducible refine wpQuiet_step (fun K hK => ?_)
      refine ⟨.bool false, fun w' hw' => ?_, ?_⟩
      · first | (go_simp; done) | (go_simp; decide) | (go_simp; omega)
      with_reducible refine hK _ ?_
      clear hK K
      simp only [Act.put, List.setIfInBounds_toArray, List.set_cons_zero, List.set_cons_succ]
      refine wpQuiet_nil ?_
      intro X1 hX1
      have hb' := hid_e (hb.out.trans (hX1.mono hb.out.size))
      clear x10 x11 x12 x13 x14 y10 y11 y12 y13 y14 call hX1 hb
      go_wp2_with fail
      exact ⟨⟨q + 1, by go_num, by omega, hb'⟩, by simp [intOf]; omega⟩
    · obtain rfl : q = n := by omega
      have q1 : ¬ (q : Int) < (q : Int) := by omega
      go_wp2_with fail
      go_ret
      exact ⟨rfl, hb.out⟩
theorem number_is (x : Int) (w : World) : Calls Tryz.prog 26 #[.int .i64 x] w fun e w' => e = .returned (.agg #[.int .i64 3, .int .i64 x, .string ⟨#[]⟩, .slice none 0 0, .slice none 0 0]) ∧ Below w.heap.size w w' := by
  exact number_any x w
end Go.Proofs.YtgigikcopedoeaaGreat.Tree.Eq
/-! ShapeDistincts: the walk. -/
namespace Go.Proofs.YtgigikcopedoeaaGreat.Tree.Eq
open Go Go.RowKit Go.Stab

theorem len_of {ks : List El} {F : List Tr} {m : Nat} (ht : treesE ks = F) (hm : F.length = m) : ks.length = m := by rw [← treesE_len, ht]; exact hm
set_option maxHeartbeats 16000000 in
set_option maxRecDepth 100000 in
theorem distincts_true (a : Option Addr) (c n : Nat) (ds : List Dc) (pa : Option Addr) (pc pl : Nat) (l : List ByteArray) (w : World) (hn : Hid (ds.length = n)) (hnn : n ≤ 4611686018427387904) (hD : Hid (DocsAt w a ds)) (hR : Hid (Reads' w ds)) (hSd : Hid (∀ d ∈ ds, SmallT d.t)) (hpl : Hid (l.length = pl)) (hPr : Hid (Reads w (.slice pa pl pc) l)) (hPs : Hid (∀ s ∈ l, s.size ≤ 9223372036854775806)) (hpn : pl ≤ 4611686018427387904) :
    Calls Tryz.prog 6 #[.slice a n c, .slice pa pl pc] w fun e w' => e = .returned (.bool true) ∧ Below w.heap.size w w' := by
  have call1 := hid_e (many_exact a c n ds w hn.out hnn hD.out hR.out hSd.out)
  have p0 : (0 : Int) ≤ (pl : Int) := by omega
  go_enter Tryz.func6, Tryz.ntmps6
  go_wp2_with fail
  refine call1.out.mono ?_
  rintro e W1 ⟨⟨z, rfl, hz⟩, hb1⟩
  replace hb1 := hid_e hb1
  clear call1
  cases z with
  | true =>
    clear hz
    go_wp2_with fail
    refine (live_a _).mono ?_
    rintro e w9 ⟨rfl, hb9⟩
    replace hb9 := hid_e hb9
    go_wp2_with fail
    go_ret
    exact ⟨rfl, (hb1.out).trans (hb9.out.mono (hb1.out).size)⟩
  | false =>
    obtain ⟨h150, hparts⟩ := hz rfl
    clear hz hnn
    replace hparts := hid_e hparts
    by_cases h100 : 100 < pl
    · have h100' : (100 : Int) < (pl : Int) := by omega
      go_wp2_with fail
      refine (live_a _).mono ?_
      rintro e w9 ⟨rfl, hb9⟩
      replace hb9 := hid_e hb9
      go_wp2_with fail
      go_ret
      exact ⟨rfl, (hb1.out).trans (hb9.out.mono (hb1.out).size)⟩
    have h100' : ¬ (100 : Int) < (pl : Int) := by omega
    have p1 : (pl : Int) ≤ 100 := by omega
    have n0 : (0 : Int) ≤ (n : Int) := by omega
    have n1 : (n : Int) ≤ 150 := by omega
    have hrow0 := hid_e (owns_docs W1)
    have hbe : Hid (Below W1.heap.size W1 (W1.alloc (.cells #[] 50))) := (Below.refl _ W1).alloc (Nat.le_refl _) _
    have hlie := hid_e (docs_lie ((hD.out.keep hb1.out).keep hbe.out))
    have hcl := hid_e (cellsD_len ds)
    rw [hn.out] at hlie hcl
    have hsz0 : Hid (W1.heap.size ≤ (W1.alloc (.cells #[] 50)).heap.size) := by rw [World.size_alloc]; show _ ≤ _; omega
    have hsl : Hid ((strs l).length = pl * 1) := by show _ = _; rw [strs_length, hpl.out, Nat.mul_one]
    go_upto_region 5 with (first
      | (at_builtin; refine wpList_append_docs rfl _ _ _ rfl W1.heap.size W1.heap.size 0 0 [] hrow0.out rfl _ n c (cellsD ds) rfl hcl.out hlie.out (cellsD_one ds) (by omega) hsz0.out ?_; intro gl cl w1 hown1 hgrow1 hat1; rw [Nat.zero_add, List.nil_append] at hown1; rw [Nat.zero_add]; replace hown1 := hid_e hown1; have hb2 : Hid (Below W1.heap.size W1 w1) := hbe.out.trans (grown_below hgrow1 hsz0.out (fun g hg => by cases hg; exact Nat.le_refl _)); have hbw1 : Hid (Below w.heap.size w w1) := hb1.out.trans (hb2.out.mono hb1.out.size); clear hgrow1 hat1 hrow0 hbe hlie hsz0)
      | (at_builtin; refine wpList_append_strs rfl _ _ _ rfl w1.heap.size w1.heap.size 0 0 [] (owns_strs w1) rfl _ pl pc (strs l) rfl hsl.out (strs_lie hpl.out ((hPr.out.keep hbw1.out).keep ((Below.refl _ w1).alloc (Nat.le_refl _) _))) (strs1 l) (by omega) (by rw [World.size_alloc]; omega) ?_; intro gp cp w2 hown2 hgrow2 hat2; rw [Nat.zero_add, List.nil_append] at hown2; rw [Nat.zero_add]; replace hown2 := hid_e hown2; have hb3 : Hid (Below w1.heap.size w1 w2) := ((Below.refl _ w1).alloc (Nat.le_refl _) _).trans (grown_below hgrow2 (by rw [World.size_alloc]; omega) (fun g hg => by cases hg; exact Nat.le_refl _)); clear hgrow2 hat2 hbw1)
      | (at_builtin; refine wpList_append_strs rfl _ _ _ rfl w1.heap.size gp pl cp (strs l) (hown2.out.alloc _) rfl (some ⟨w2.heap.size, 0, none⟩) 1 1 [.string ⟨#[98, 101, 104, 105, 110, 100]⟩] rfl rfl (.inr ⟨w2.heap.size, 0, rfl, str_lies w2 ⟨#[98, 101, 104, 105, 110, 100]⟩⟩) (one_string _) (by omega) (by rw [World.size_alloc]; have := hb3.out.size; omega) ?_; intro g2 c2 w3 hown3 hgrow3 hat3; replace hown3 := hid_e hown3; have hge := hid_e (ownsRow_ge hown2.out (g := gp) rfl); have hb4 : Hid (Below w1.heap.size w1 w3) := (hb3.out.alloc hb3.out.size _).trans (grown_below hgrow3 (by rw [World.size_alloc]; have := hb3.out.size; omega) (fun g hg => by cases hg; exact hge.out.1)); clear hgrow3 hat3 hown2 hge hb3 hcl))
    have hbW1 : Hid (Below W1.heap.size W1 w3) := hb2.out.trans (hb4.out.mono hb2.out.size)
    have hbw : Hid (Below w.heap.size w w3) := hb1.out.trans (hbW1.out.mono hb1.out.size)
    obtain ⟨hrd, hbc, hc2a, hc2b⟩ := reads_row hpl.out hown3.out
    replace hrd := hid_e hrd
    replace hbc := hid_e hbc
    have hc2 : (pl : Int) ≤ (c2 : Int) := by omega
    have hDr : Hid (DRow W1.heap.size w1 (.slice (some ⟨gl, 0, none⟩) n cl) ds) := by show World.ownsRow _ _ _ _ _ _ _; rw [hn.out]; exact hown1.out
    have hDg : Hid (DocsAt w3 (some ⟨gl, 0, none⟩) ds) := hDr.out.docs.keep hb4.out
    have hR3 : Hid (Reads' w3 ds) := hR.out.keep hbw.out
    clear hown3 hown1 hDr hb1 hb2 hb4 hbW1 hsl
    obtain ⟨F, hF⟩ : ∃ F, Hid ((candA ds l).foldl putT [] = F) := ⟨_, rfl⟩
    obtain ⟨m, hm⟩ : ∃ m, Hid (F.length = m) := ⟨_, rfl⟩
    have hB0 : Hid (Below w3.heap.size w3 w3.drew) := below_drew (Below.refl _ _)
    have dst := hid_e (fun W (hW : Below w3.heap.size w3 W) => distinct_in (some ⟨gl, 0, none⟩) cl n ds (some ⟨g2, 0, none⟩) c2 pl l w3 W hW hn.out h150 hDg.out hR3.out hparts.out hSd.out hpl.out hrd.out hPs.out (by omega))
    rw [hF.out] at dst
    go_region_held3 (fun _ => True) (trivial) (first
      | (go_at_call 23; refine (dst.out _ hB0.out).mono ?_; rintro e Y1 ⟨v1, ks1, rfl, hK1, ht1, hl1, hy1⟩; obtain ⟨a1, c1, ev1⟩ := hK1.slice; have hk1 : ks1.length = m := len_of ht1 hm.out; rw [hk1] at ev1; subst ev1; have hm75 : m ≤ 750000 := Nat.le_trans (Nat.le_of_eq hk1.symm) hl1; replace hK1 := hid_e hK1; replace ht1 := hid_e ht1; replace hk1 := hid_e hk1; have hb5 := hid_e (hB0.out.trans (hy1.mono hB0.out.size)); clear hl1 hy1)
      | (go_at_call 23; refine (dst.out _ hb5.out).mono ?_; rintro e Y2 ⟨v2, ks2, rfl, hK2, ht2, -, hy2⟩; obtain ⟨a2, c2', ev2⟩ := hK2.slice; have hk2 : ks2.length = m := len_of ht2 hm.out; rw [hk2] at ev2; subst ev2; replace hK2 := hid_e hK2; replace ht2 := hid_e ht2; replace hk2 := hid_e hk2; have hK1b := hid_e (hK1.out.keep hy2); have hb6 := hid_e (hb5.out.trans (hy2.mono hb5.out.size)); have hs1 : Hid (Y1.heap.size ≤ Y2.heap.size) := hy2.size; clear hy2 dst))
    all_goals
      clear hB0 hb5
      have hbY : Hid (Below w.heap.size w Y2) := hbw.out.trans (hb6.out.mono hbw.out.size)
      have rds := hid_e (rdistinct_in a c n ds pa pc pl l w Y2 hbY.out hn.out h150 hD.out hR.out hparts.out hSd.out hpl.out hPr.out hPs.out (by omega))
      rw [hF.out] at rds
      go_wp2_with fail
      refine rds.out.mono ?_
      rintro e Y3 ⟨a3, c3, ks3, rfl, hK3, ht3, hy3⟩
      clear rds
      have hk3 : ks3.length = m := by rw [← treesE_len, ht3]; exact hm.out
      rw [hk3] at hK3 ⊢
      have hbY3 : Hid (Below w.heap.size w Y3) := hbY.out.trans (hy3.mono hbY.out.size)
      have hb7 : Hid (Below w3.heap.size w3 Y3) := hb6.out.trans (hy3.mono hb6.out.size)
      have hg1 : Hid (∀ g, (Value.slice a1 m c1).ownBlock = some g → w3.heap.size ≤ g ∧ g < Y1.heap.size) := fun g hg => by have h := ownsRow_ge hK1.out.row hg; exact ⟨h.1, h.2⟩
      have hg2 : Hid (∀ g o, a2 = some ⟨g, o, none⟩ → (Value.slice a1 m c1).ownBlock ≠ some g) := fun g o e h => by subst e; have h1 := (ownsRow_ge hK2.out.row (g := g) rfl).1; have h2 := (hg1.out g h).2; omega
      have hg3 : Hid (∀ g o, a3 = some ⟨g, o, none⟩ → (Value.slice a1 m c1).ownBlock ≠ some g) := fun g o e h => by subst e; have h1 := (ownsRow_ge hK3.row (g := g) rfl).1; have h2 := (hg1.out g h).2; have := hs1.out; omega
      have hL1 : Hid (ListIn w3 Y3 a1 c1 F) := by rw [← ht1.out]; exact (hK1b.out.listIn hk1.out).keep hy3
      have hL2 : Hid (ListIn w3 Y3 a2 c2' F) := by rw [← ht2.out]; exact (hK2.out.listIn hk2.out).keep hy3
      have hL3 : Hid (ListIn w Y3 a3 c3 F) := by rw [← ht3]; exact hK3.listIn hk3
      have hrow1 := hid_e (ownsRow_below hK1b.out.row hy3)
      rw [hk1.out] at hrow1
      clear hy3 hK3 ht3 hk3 hK1 hK1b hK2 ht1 ht2 hk1 hk2 hb6 hbY hs1
      have v1 := hid_e (values_same a1 a3 c1 c3 m F w3 w Y3 hb7.out hbY3.out hm.out (by omega) hL1.out hL3.out)
      go_wp2_with fail
      refine v1.out.mono ?_
      rintro e Z1 ⟨rfl, hz1⟩
      replace hz1 := hid_e hz1
      clear v1
      have v2 := hid_e (values_same a2 a3 c2' c3 m F w3 w Z1 (hb7.out.trans (hz1.out.mono hb7.out.size)) (hbY3.out.trans (hz1.out.mono hbY3.out.size)) hm.out (by omega) (hL2.out.keep hz1.out) (hL3.out.keep hz1.out))
      go_wp2_with fail
      refine v2.out.mono ?_
      rintro e Z2 ⟨rfl, hz2⟩
      have hz2' := hid_e (hz1.out.trans (hz2.mono hz1.out.size))
      clear v2 hz2 hz1
      have hw2 : Hid (Below w.heap.size w Z2) := hbY3.out.trans (hz2'.out.mono hbY3.out.size)
      have hw32 : Hid (Below w3.heap.size w3 Z2) := hb7.out.trans (hz2'.out.mono hb7.out.size)
      have v3 := hid_e (docs_self (some ⟨gl, 0, none⟩) a cl c n ds Z2 hn.out (by omega) (hDg.out.keep hw32.out) (hD.out.keep hw2.out) (hR.out.keep hw2.out))
      go_wp2_with fail
      refine v3.out.mono ?_
      rintro e Z3 ⟨rfl, hz3⟩
      have hz3' := hid_e (hz2'.out.trans (hz3.mono hz2'.out.size))
      have hbc3 : Z3.cell? ⟨g2, pl, none⟩ = some (.string ⟨#[98, 101, 104, 105, 110, 100]⟩) := stay (hw32.out.trans (hz3.mono hw32.out.size)) hbc.out
      clear v3 hz3 hz2' hw2 hw32
      have hp1 : (pl : Int) < ((pl + 1 : Nat) : Int) := by omega
      have hp2 : (pl : Int) < (pl : Int) + 1 := by omega
      go_wp2_with fail
      refine (live_a _).mono ?_
      rintro e Z4 ⟨rfl, hz4⟩
      have hz := hid_e (hz3'.out.trans (hz4.mono hz3'.out.size))
      clear hz4 hz3' hbc3 hp1 hp2
      have hr4 := hid_e (ownsRow_below hrow1.out hz.out)
      have hL24 := hid_e (hL2.out.keep hz.out)
      have hL34 := hid_e (hL3.out.keep hz.out)
      have hw4 : Hid (Below w.heap.size w Z4) := hbY3.out.trans (hz.out.mono hbY3.out.size)
      have hw34 : Hid (Below w3.heap.size w3 Z4) := hb7.out.trans (hz.out.mono hb7.out.size)
      have hle : Hid (w.heap.size ≤ w3.heap.size) := hbw.out.size
      clear hrow1 hL1 hL2 hL3 hz hbY3 hb7 hbw
      have m0 : (0 : Int) ≤ (m : Int) := by omega
      have m1 : (m : Int) ≤ 750000 := by omega
      go_wp2_with fail
      go_loopw [10] (fun iv wr => ∃ (q : Nat) (xs : List Value), iv = .int .i64 q ∧ q ≤ m ∧ Hid (wr.ownsRow w3.heap.size 25 5 (.slice a1 m c1) m xs) ∧ Hid (Z4.grownBy wr (Value.slice a1 m c1).ownBlock)) (fun iv _ => m - (intOf iv).toNat)
      case atStart => exact ⟨0, _, rfl, Nat.zero_le _, hid_e (ownsRow_lo hr4.out (Nat.le_refl _)), grown_refl _ _⟩
      case round =>
        clear hr4
        obtain ⟨q, xs, rfl, hq, hrow, hgr⟩ := hrel
        have q0 : (0 : Int) ≤ (q : Int) := by omega
        by_cases hlt : q < m
        · skip
          have q1 : (q : Int) < (m : Int) := by omega
          obtain ⟨g, eg⟩ := own_some hrow.out (by omega)
          subst eg
          obtain ⟨hblk, hcapm⟩ := own_blk hrow.out
          have call := hid_e (number_is 99 wr)
          go_wp2_with fail
          refine call.out.mono ?_
          rintro e X ⟨rfl, hx⟩
          have hbX := hid_e (hblk.keep hx)
          have hrX := hid_e (ownsRow_below hrow.out hx)
          have hbut := hid_e (SortedV.setCells_but g [.int .i64 3, .int .i64 99, .string ⟨#[]⟩, .slice none 0 0, .slice none 0 0] (q * 5) X)
          obtain ⟨ys, hry⟩ := own_but hrX.out hbut.out
          replace hry := hid_e hry
          have hgr2 : Hid (Z4.grownBy (X.setCells g (q * 5) [.int .i64 3, .int .i64 99, .string ⟨#[]⟩, .slice none 0 0, .slice none 0 0]) (Value.slice (some ⟨g, 0, none⟩) m c1).ownBlock) := grown_then (grown_then hgr.out (grown_of_below hx none) (fun g h => by cases h)) (grown_but hbut.out) (fun g' h => .inl (by simpa [Value.ownBlock] using h))
          obtain ⟨u0, o0⟩ := hbX.out.cell (j := q * 5) (by have := Nat.mul_le_mul_right 5 (Nat.le_trans hlt hcapm); omega)
          obtain ⟨u1, o1⟩ := hbX.out.cell (j := q * 5 + 1) (by have := Nat.mul_le_mul_right 5 (Nat.le_trans hlt hcapm); omega)
          obtain ⟨u2, o2⟩ := hbX.out.cell (j := q * 5 + 2) (by have := Nat.mul_le_mul_right 5 (Nat.le_trans hlt hcapm); omega)
          obtain ⟨u3, o3⟩ := hbX.out.cell (j := q * 5 + 3) (by have := Nat.mul_le_mul_right 5 (Nat.le_trans hlt hcapm); omega)
          obtain ⟨u4, o4⟩ := hbX.out.cell (j := q * 5 + 4) (by have := Nat.mul_le_mul_right 5 (Nat.le_trans hlt hcapm); omega)
          have f0 := hbX.out.soft (q * 5)
          have f1 := hbX.out.soft (q * 5 + 1)
          have f2 := hbX.out.soft (q * 5 + 2)
          have f3 := hbX.out.soft (q * 5 + 3)
          have f4 := hbX.out.soft (q * 5 + 4)
          clear call hx hbX hrX hblk hrow hgr hbut
          go_wp2_with fail
          exact ⟨⟨q + 1, ys, by go_num, by omega, hry, hgr2⟩, by simp [intOf]; omega⟩
        · skip
          obtain rfl : q = m := by omega
          have q1 : ¬ (q : Int) < (q : Int) := by omega
          clear hlt hq
          go_wp2_with fail
          go_loopw [7, 11] (fun av iv wx => ∃ (p : Nat) (ab : Option Addr) (cb : Nat) (xs : List Value), av = .slice ab (q + p) cb ∧ iv = .int .i64 p ∧ p ≤ 8 ∧ Hid (wx.ownsRow w3.heap.size 25 5 (.slice ab (q + p) cb) (q + p) xs) ∧ Hid (Z4.grownBy wx (Value.slice a1 q c1).ownBlock) ∧ Hid (Own Z4 (Value.slice a1 q c1) (.slice ab (q + p) cb))) (fun _ iv _ => 8 - (intOf iv).toNat)
          case atStart => exact ⟨0, a1, c1, xs, rfl, rfl, by omega, hrow, hgr, (fun g hg => .inl hg)⟩
          case round =>
            clear hrow hgr
            obtain ⟨p, ab, cb, xs, rfl, rfl, hp, hrow, hgr, hO⟩ := hrel
            have pp0 : (0 : Int) ≤ (p : Int) := by omega
            by_cases hlt : p < 8
            · skip
              have pp1 : (p : Int) < 8 := by omega
              obtain ⟨i5, hi, hz0, hz1, hz2⟩ := info_parts AV
              have call := hid_e (number_is 98 wr)
              go_wp2_with fail
              refine call.out.mono ?_
              rintro e X ⟨rfl, hx⟩
              have hrX := hid_e ((ownsRow_below hrow.out hx).alloc (.cells #[.int .i64 3, .int .i64 98, .string ⟨#[]⟩, .slice none 0 0, .slice none 0 0] 25))
              have hgX : Hid (Z4.grownBy (X.alloc (.cells #[.int .i64 3, .int .i64 98, .string ⟨#[]⟩, .slice none 0 0, .slice none 0 0] 25)) (Value.slice a1 q c1).ownBlock) := grown_alloc (grown_then hgr.out (grown_of_below hx none) (fun g h => by cases h)) _
              have hbb : Hid (w3.heap.size ≤ (X.alloc (.cells #[.int .i64 3, .int .i64 98, .string ⟨#[]⟩, .slice none 0 0, .slice none 0 0] 25)).heap.size) := Nat.le_trans hw34.out.size hgX.out.size
              clear call hx hrow hgr
              go_wp2_with (at_builtin; refine wpList_append_lies _ rfl _ _ 23 rfl w3.heap.size 25 i5 _ 5 80 Tryz.underlying23 hi hz0 hz1 hz2 rfl (by decide) (.slice ab (q + p) cb) (q + p) xs rfl hrX.out _ 1 1 [.int .i64 3, .int .i64 98, .string ⟨#[]⟩, .slice none 0 0, .slice none 0 0] rfl rfl (World.news_of_block (heap_alloc_new X _)) (five_one _ _ _ _ _ _ _ _ _) (by decide) (by unfold maxLen; omega) (by omega) hbb.out _ rfl ?_; intro g4 c4 w4 hown4 hgrow4 hat4 hlt4)
              exact ⟨⟨p + 1, some ⟨g4, 0, none⟩, c4, _, rfl, by go_num, by omega, hown4, grown_then hgX.out hgrow4 hO.out, hO.out.next hgX.out.size hat4⟩, by simp [intOf]; omega⟩
            · skip
              obtain rfl : p = 8 := by omega
              have pp1 : ¬ ((8 : Nat) : Int) < 8 := by omega
              have hge1 : Hid (∀ g, (Value.slice a1 q c1).ownBlock = some g → w3.heap.size ≤ g) := fun g hg => (hg1.out g hg).1
              have hw5 : Hid (Below w.heap.size w wr) := hw4.out.trans (grown_below hgr.out hw4.out.size (fun g hg => Nat.le_trans hle.out (hge1.out g hg)))
              have hw35 : Hid (Below w3.heap.size w3 wr) := hw34.out.trans (grown_below hgr.out hw34.out.size hge1.out)
              have v4 := hid_e (values_same a2 a3 c2' c3 q F w3 w wr hw35.out hw5.out hm.out (by omega) (listIn_grown hL24.out hgr.out hg2.out) (listIn_grown hL34.out hgr.out hg3.out))
              go_wp2_with fail
              refine v4.out.mono ?_
              rintro e Z5 ⟨rfl, hz5⟩
              replace hz5 := hid_e hz5
              go_wp2_with fail
              go_ret
              exact ⟨rfl, hw5.out.trans (hz5.out.mono hw5.out.size)⟩
end Go.Proofs.YtgigikcopedoeaaGreat.Tree.Eq
