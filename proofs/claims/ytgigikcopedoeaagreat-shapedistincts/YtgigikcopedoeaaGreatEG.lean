import Derived.Test.YtgigikcopedoeaaGreatEC
import Derived.Test.YtgigikcopedoeaaGreatDB
import Derived.Laws.MakeOwn
import Derived.Laws.CopyRow
import Derived.Laws.Cells
import Derived.Deep.WholeRow
/-! Lists of Values that lie elsewhere; order.Sort of them. -/
namespace Go.Proofs.YtgigikcopedoeaaGreat.Tree.Eq
open Go Go.RowKit Go.Stab

/-- An item: its cells, what they read as. -/
structure El where
  cs : List Value
  t : Tr
def cellsE (es : List El) : List Value := es.flatMap (·.cs)
def treesE (es : List El) : List Tr := es.map (·.t)
def Five (cs : List Value) : Prop := ∃ k x s an ln cn ai li ci, cs = five k x s (.slice an ln cn) (.slice ai li ci)
theorem Five.len {cs : List Value} (h : Five cs) : cs.length = 5 := by obtain ⟨k, x, s, an, ln, cn, ai, li, ci, rfl⟩ := h; rfl
theorem cellsE_at : (es : List El) → (∀ e ∈ es, Five e.cs) → (q : Nat) → (e : El) → es[q]? = some e → ∀ j u, e.cs[j]? = some u → (cellsE es)[q * 5 + j]? = some u
  | [], _, _, _, h, _, _, _ => by simp at h
  | e0 :: es, hf, 0, e, h, j, u, hj => by
    have : e0 = e := by simpa using h
    subst this
    show (e0.cs ++ cellsE es)[0 * 5 + j]? = some u
    rw [List.getElem?_append_left (by have := (List.getElem?_eq_some_iff.1 hj).1; omega)]
    simpa using hj
  | e0 :: es, hf, q + 1, e, h, j, u, hj => by
    show (e0.cs ++ cellsE es)[(q + 1) * 5 + j]? = some u
    have h5 := (hf e0 (by simp)).len
    rw [List.getElem?_append_right (by omega), show (q + 1) * 5 + j - e0.cs.length = q * 5 + j by omega]
    exact cellsE_at es (fun e he => hf e (by simp [he])) q e (by simpa using h) j u hj
theorem vrepL_of {W : World} {b : Nat} : (es : List El) → (∀ e ∈ es, Five e.cs) → (o : Nat) → (∀ e ∈ es, VRep W e.t e.cs) → (∀ j u, (cellsE es)[j]? = some u → W.cell? ⟨b, o + j, none⟩ = some u) → VRepL W b o (treesE es)
  | [], _, _, _, _ => by unfold treesE VRepL; trivial
  | e :: es, hf, o, hv, hc => by
    show VRepL W b o (e.t :: treesE es)
    unfold VRepL
    have h5 := (hf e (by simp)).len
    have hc' : ∀ j u, (e.cs ++ cellsE es)[j]? = some u → W.cell? ⟨b, o + j, none⟩ = some u := hc
    refine ⟨e.cs, fun j u hj => hc' j u (by rw [List.getElem?_append_left (List.getElem?_eq_some_iff.1 hj).1]; exact hj), hv e (by simp), vrepL_of es (fun e he => hf e (by simp [he])) (o + 5) (fun e he => hv e (by simp [he])) (fun j u hj => ?_)⟩
    have := hc' (5 + j) u (by rw [List.getElem?_append_right (by omega), h5, Nat.add_sub_cancel_left]; exact hj)
    rwa [show o + 5 + j = o + (5 + j) by omega]
/-- Items in a row of their own, read in another world. -/
structure LIn (W0 : World) (base : Nat) (w : World) (v : Value) (es : List El) : Prop where
  row : w.ownsRow base 25 5 v es.length (cellsE es)
  fives : ∀ e ∈ es, Five e.cs
  reads : ∀ e ∈ es, VRep W0 e.t e.cs
theorem LIn.nil (W0 : World) (base : Nat) (w : World) : LIn W0 base w (.slice none 0 0) [] := ⟨World.ownsRow_nil _ _ _ _, (fun e h => by cases h), (fun e h => by cases h)⟩
theorem LIn.keep {W0 : World} {base : Nat} {w w' : World} {v : Value} {es : List El} (h : LIn W0 base w v es) (hb : Below w.heap.size w w') : LIn W0 base w' v es := ⟨ownsRow_below h.row hb, h.fives, h.reads⟩
theorem LIn.slice {W0 : World} {base : Nat} {w : World} {v : Value} {es : List El} (h : LIn W0 base w v es) : ∃ a c, v = .slice a es.length c := ownsRow_slice h.row
theorem LIn.item {W0 : World} {base : Nat} {w : World} {a : Option Addr} {n c : Nat} {es : List El} (h : LIn W0 base w (.slice a n c) es) {q : Nat} {e : El} (he : es[q]? = some e) : ∃ g, a = some ⟨g, 0, none⟩ ∧ g < w.heap.size ∧ CellsAt w g (q * 5) e.cs ∧ Five e.cs ∧ VRep W0 e.t e.cs := by
  have hr := h.row
  have hm := List.mem_of_getElem? he
  rcases hr.2 with ⟨e1, h0⟩ | ⟨g, cap, cur, e1, hg, hh, hc, hmx, hs, ht⟩
  · have : es = [] := List.eq_nil_of_length_eq_zero h0
    subst this; simp at he
  · cases e1
    refine ⟨g, rfl, (Array.getElem?_eq_some_iff.1 hh).1, fun j u hj => ?_, h.fives e hm, h.reads e hm⟩
    have hj2 := cellsE_at es h.fives q e he j u hj
    rw [← ht] at hj2
    have hjl := (List.getElem?_eq_some_iff.1 hj2).1
    rw [List.getElem?_take_of_lt (by simp at hjl; omega), Array.getElem?_toList] at hj2
    simp [World.cell?, hh, hj2]
theorem copy_zero {P : Program} (w : World) (T ty elem : TypeId) (i : TypeInfo) (g : Nat) (a : Option Addr) (c : Nat) (hu : P.underlying T = some (.slice elem)) (hi : P.info? elem = some i) :
    (Builtin.copy_ #[T, T] ty #[.slice (some ⟨g, 0, none⟩) 0 0, .slice a 0 c]).run P w = .ok (goInt 0) w := by
  have hst : (storeCells ⟨g, 0, none⟩ []).run P w = .ok () w := rfl
  cases a with
  | none => simp [Builtin.copy_, run_underlying hu, Builtin.lenOf, Builtin.firstCells, sizeOf, typeInfo, hi, hst]
  | some a =>
    have hl := run_loadCells_list (P := P) w a [] (by simp)
    simp at hl
    simp [Builtin.copy_, run_underlying hu, Builtin.lenOf, Builtin.firstCells, sizeOf, typeInfo, hi, hl, hst]
theorem copy_n {P : Program} (w : World) (T ty elem : TypeId) (i : TypeInfo) (g n dCap : Nat) (a : Addr) (sCap : Nat) (cur : Array Value) (t : TypeId) (cs : List Value) (hu : P.underlying T = some (.slice elem)) (hi : P.info? elem = some i)
    (hg : w.heap[g]? = some (.cells cur t (0, 0))) (hn : cs.length = n * i.size) (hsrc : ∀ j v, cs[j]? = some v → w.cell? (a.add j) = some v) (hfit : cs.length ≤ cur.size) (h1 : ∀ v ∈ cs, v.oneCell' = true) :
    (Builtin.copy_ #[T, T] ty #[.slice (some ⟨g, 0, none⟩) n dCap, .slice (some a) n sCap]).run P w = .ok (goInt n) (w.setRow g (cs ++ cur.toList.drop cs.length).toArray) := by
  have hl := run_loadCells_list (P := P) w a cs hsrc
  have hst := run_storeCells_at P g 0 t cs 0 cur w hg (by simpa using hfit) h1
  simp at hst
  simp [Builtin.copy_, run_underlying hu, Builtin.lenOf, Builtin.firstCells, sizeOf, typeInfo, hi, ← hn, hl, hst]
theorem make_vn (l : Nat) (hc : l * 80 ≤ 281474976710656) (w : World) : (Instr.makeSlice 23 (.int .i64 l) (.int .i64 l)).run Tryz.prog w = .ok (.slice (some ⟨w.heap.size, 0, none⟩) l l) (w.alloc (.cells (madeCells #[.int .i64 0, .int .i64 0, .string ⟨#[]⟩, .slice none 0 0, .slice none 0 0] (l * 5)) 25)) := by
  obtain ⟨i, hi, hz0, hz1, hz2⟩ := info_parts AV
  have := run_make (P := Tryz.prog) w 23 25 i _ Tryz.underlying23 hi hz0 .i64 .i64 l l (by omega) (by omega) (by rw [hz2]; omega) (by omega)
  rw [this, hz1, Int.toNat_natCast]
  rfl
theorem five_cells {cs : List Value} (h : Five cs) : ∀ v ∈ cs, v.oneCell' = true := by
  obtain ⟨k, x, s, an, ln, cn, ai, li, ci, rfl⟩ := h
  exact five_one _ _ _ _ _ _ _ _ _
theorem cellsE_one {es : List El} (h : ∀ e ∈ es, Five e.cs) : ∀ v ∈ cellsE es, v.oneCell' = true := fun v hv => by
  obtain ⟨e, he, hve⟩ := List.mem_flatMap.1 hv
  exact five_cells (h e he) v hve
theorem cellsE_len : {es : List El} → (∀ e ∈ es, Five e.cs) → (cellsE es).length = es.length * 5
  | [], _ => rfl
  | e :: es, h => by
    show (e.cs ++ cellsE es).length = (es.length + 1) * 5
    rw [List.length_append, (h e (by simp)).len, cellsE_len (fun e he => h e (by simp [he]))]
    omega
def ltT (a b : Tr) : Bool := decide (cmpT a b < 0)
theorem swoT : Swo ltT where
  irr x := by unfold ltT; rw [cmpT_self]; rfl
  tr x y z h1 h2 := by
    unfold ltT at *
    have a1 := of_decide_eq_true h1
    have a2 := of_decide_eq_true h2
    refine decide_eq_true ?_
    have h3 := cmpT_trans x y z (by omega) (by omega)
    rcases Int.lt_or_le (cmpT x z) 0 with h | h
    · exact h
    · have e1 := cmpT_anti x z
      have e2 := cmpT_anti x y
      have h4 := cmpT_trans y z x (by omega) (by omega)
      omega
  neg x y z h1 h2 := by
    unfold ltT at *
    have a1 := of_decide_eq_false h1
    have a2 := of_decide_eq_false h2
    have := cmpT_goes x y z (by omega) (by omega)
    exact decide_eq_false (by omega)
/-- Items that are read in w. -/
def GoodE (w : World) (e : El) : Prop := Five e.cs ∧ VRep w e.t e.cs ∧ SmallT e.t
def encE {w : World} (e : {e : El // GoodE w e}) : Array Value := e.1.cs.toArray
theorem enc_ok (w : World) : SortedV.Enc (encE (w := w)) where
  size e := by unfold encE; rw [List.size_toArray]; exact e.2.1.len
  one e := by
    unfold encE
    rw [Array.all_eq_true_iff_forall_mem]
    exact fun v hv => five_cells e.2.1 v (by simpa using hv)
theorem swoE (w : World) : Swo (fun (x y : {e : El // GoodE w e}) => decide (cmpT x.1.t y.1.t < 0)) := ⟨fun x => swoT.irr x.1.t, fun x y z => swoT.tr x.1.t y.1.t z.1.t, fun x y z => swoT.neg x.1.t y.1.t z.1.t⟩
theorem cmpE (W0 w : World) (hW0 : Below W0.heap.size W0 w) {b : Nat} (hb : w.heap.size ≤ b) (x y : {e : El // GoodE W0 e}) (W : World) (hW : SortedV.But b w W) : Calls Tryz.prog 59 #[.agg (encE x), .agg (encE y)] W fun e w' => e = .returned (.int .i64 (cmpT x.1.t y.1.t)) ∧ Below W.heap.size W w' :=
  have hb2 : Below W0.heap.size W0 W := hW0.trans (Below.mono ⟨hW.os, hW.tape, hW.output, hW.size, fun k hk => hW.block k hk (by omega)⟩ hW0.size)
  compare_any x.1.t y.1.t x.1.cs y.1.cs W (VRep.keep hb2 _ _ x.2.2.1) (VRep.keep hb2 _ _ y.2.2.1) (small_below _ x.2.2.2) (small_below _ y.2.2.2)
theorem rowE_cells {w : World} {X : World} {b : Nat} {cur : Array Value} {t : TypeId} {fr : Nat × Nat} {D : List {e : El // GoodE w e}} (hh : X.heap[b]? = some (.cells cur t fr)) (hs : cur.size = D.length * 5) (hR : SortedV.RowE encE X b D) : cur.toList = cellsE (D.map (·.1)) := by
  have hf : ∀ e ∈ D.map (·.1), Five e.cs := fun e he => by obtain ⟨d, -, rfl⟩ := List.mem_map.1 he; exact d.2.1
  refine List.ext_getElem? (fun i => ?_)
  by_cases hi : i < D.length * 5
  · obtain ⟨q, r, hr, rfl⟩ : ∃ q r, r < 5 ∧ i = q * 5 + r := ⟨i / 5, i % 5, by omega, by omega⟩
    have hq : q < D.length := by omega
    have hd : D[q]? = some D[q] := List.getElem?_eq_getElem hq
    obtain ⟨u, hu⟩ : ∃ u, (D[q]).1.cs[r]? = some u := ⟨_, List.getElem?_eq_getElem (by rw [(D[q]).2.1.len]; exact hr)⟩
    have h1 := (hR q _ hd).1 r u (by unfold encE; simpa using hu)
    have h2 := cellsE_at (D.map (·.1)) hf q (D[q]).1 (by rw [List.getElem?_map, hd]; rfl) r u hu
    rw [h2, Array.getElem?_toList]
    simpa [World.cell?, hh] using h1
  · rw [List.getElem?_eq_none (by rw [Array.length_toList]; omega), List.getElem?_eq_none (by rw [cellsE_len hf, List.length_map]; omega)]
theorem cells_rowE {w : World} {X : World} {b : Nat} {cur : Array Value} {t : TypeId} {D : List {e : El // GoodE w e}} (hh : X.heap[b]? = some (.cells cur t (0, 0))) (hc : cur.toList = cellsE (D.map (·.1))) : SortedV.RowE encE X b D := fun q x hx => by
  have hf : ∀ e ∈ D.map (·.1), Five e.cs := fun e he => by obtain ⟨d, -, rfl⟩ := List.mem_map.1 he; exact d.2.1
  have h2 : ∀ (j : Nat) u, (encE x).toList[j]? = some u → X.cell? ⟨b, q * 5 + j, none⟩ = some u := fun j u hj => by
    have := cellsE_at (D.map (·.1)) hf q x.1 (by rw [List.getElem?_map, hx]; rfl) j u (by unfold encE at hj; simpa using hj)
    rw [← hc, Array.getElem?_toList] at this
    simpa [World.cell?, hh] using this
  refine ⟨h2, fun j hj => ⟨?_, by simp [World.frozen?, hh]⟩⟩
  obtain ⟨u, hu⟩ : ∃ u, (encE x).toList[j]? = some u := ⟨_, List.getElem?_eq_getElem (by have := (enc_ok w).size x; simp; omega)⟩
  rw [h2 j u hu]
  rfl
def sortE (es : List El) : List El := isort (fun x y : El => ltT x.t y.t) es
theorem sortE_trees (es : List El) : treesE (sortE es) = isort ltT (treesE es) := isort_map (fun e : El => e.t) (fun _ _ => rfl) es
theorem mem_sortE {es : List El} {e : El} (h : e ∈ sortE es) : e ∈ es := (isort_perm _ es).mem_iff.1 h
set_option maxHeartbeats 4000000 in
set_option maxRecDepth 100000 in
/-- Sort: the sorted items, in a row of their own. -/
theorem osort_in (W0 : World) (base : Nat) (a : Option Addr) (c n : Nat) (es : List El) (w : World) (hW0 : Below W0.heap.size W0 w) (hn : es.length = n) (hnn : n * 80 ≤ 140737488351232) (hL : LIn W0 base w (.slice a n c) es) (hS : ∀ e ∈ es, SmallT e.t) (hbase : base ≤ w.heap.size) :
    Calls Tryz.prog 49 #[.slice a n c] w fun e w' => e = .returned (.slice (some ⟨w.heap.size, 0, none⟩) n n) ∧ LIn W0 base w' (.slice (some ⟨w.heap.size, 0, none⟩) n n) (sortE es) ∧ Below w.heap.size w w' := by
  obtain ⟨i0, hi, hz0, hz1, hz2⟩ := info_parts AV
  have hmk := make_vn n (by omega) w
  have hclen : (cellsE es).length = n * 5 := by rw [cellsE_len hL.fives, hn]
  -- the world behind copy
  obtain ⟨W1, r, hcp, hW1, hb1⟩ : ∃ W1 r, (Builtin.copy_ #[23, 23] 3 #[.slice (some ⟨w.heap.size, 0, none⟩) n n, .slice a n c]).run Tryz.prog (w.alloc (.cells (madeCells #[.int .i64 0, .int .i64 0, .string ⟨#[]⟩, .slice none 0 0, .slice none 0 0] (n * 5)) 25)) = .ok r W1 ∧ W1 = w.alloc (.cells (cellsE es).toArray 25) ∧ Below w.heap.size w W1 := by
    by_cases h0 : n = 0
    · subst h0
      refine ⟨_, _, copy_zero _ _ _ 25 i0 _ _ _ Tryz.underlying23 hi, ?_, (Below.refl _ w).alloc (Nat.le_refl _) _⟩
      have : es = [] := List.eq_nil_of_length_eq_zero hn
      subst this
      rw [show madeCells #[.int .i64 0, .int .i64 0, .string ⟨#[]⟩, .slice none 0 0, .slice none 0 0] (0 * 5) = #[] from Array.eq_empty_of_size_eq_zero (size_madeCells _ _)]
      rfl
    · have hr := hL.row
      rcases hr.2 with ⟨e, h0'⟩ | ⟨g, cap, cur, e, hg, hh, hc, hm, hs, ht⟩
      · omega
      · obtain ⟨rfl, -, rfl⟩ : a = _ ∧ n = _ ∧ c = _ := by simpa using e
        have hrow : ∀ j v, (cellsE es)[j]? = some v → w.cell? ⟨g, j, none⟩ = some v := fun j v hj => by
          rw [← ht] at hj
          have hjl := (List.getElem?_eq_some_iff.1 hj).1
          rw [List.getElem?_take_of_lt (by simp at hjl; omega), Array.getElem?_toList] at hj
          simp [World.cell?, hh, hj]
        refine ⟨_, _, copy_n _ _ _ 25 i0 _ n n ⟨g, 0, none⟩ c _ 25 (cellsE es) Tryz.underlying23 hi (heap_alloc_new w _) (by rw [hz1]; exact hclen) (fun j v hj => ?_) (by rw [size_madeCells]; omega) (cellsE_one hL.fives), ?_, ?_⟩
        · rw [add_off, Nat.zero_add]
          exact cell_alloc' (hrow j v hj) _
        · rw [World.setRow_alloc_new]
          congr 2
          rw [List.drop_eq_nil_of_le (by rw [Array.length_toList, size_madeCells]; omega), List.append_nil]
        · rw [World.setRow_alloc_new]
          exact (Below.refl _ w).alloc (Nat.le_refl _) _
  have hg1 : W1.heap[w.heap.size]? = some (.cells (cellsE es).toArray 25 (0, 0)) := by rw [hW1]; exact heap_alloc_new w _
  have hgood : ∀ e ∈ es, GoodE W0 e := fun e he => ⟨hL.fives e he, hL.reads e he, hS e he⟩
  obtain ⟨D, hD⟩ : ∃ D : List {e : El // GoodE W0 e}, D.map (·.1) = es := ⟨es.attachWith _ hgood, by simp⟩
  have hDl : D.length = n := by rw [← hn, ← hD]; simp
  have hRow : SortedV.RowE encE W1 w.heap.size D := cells_rowE hg1 (by rw [hD])
  have hBut : SortedV.But w.heap.size w W1 := ⟨hb1.os, hb1.tape, hb1.output, hb1.size, fun k hk _ => hb1.block k hk, fun cur t f h => by simp at h⟩
  have call := hid_e (SortedV.sort_any (enc_ok W0) (swoE W0) (fun x y => cmpT x.1.t y.1.t) (fun _ _ => rfl) (cmpE W0 w hW0 (Nat.le_refl _)) D n n W1 hBut hRow hDl (by omega))
  replace hL := hid_e hL
  have hfin : Hid (∀ X, SortedV.RowE encE X w.heap.size (isort (fun (x y : {e : El // GoodE W0 e}) => decide (cmpT x.1.t y.1.t < 0)) D) → SortedV.But w.heap.size W1 X → LIn W0 base X (.slice (some ⟨w.heap.size, 0, none⟩) n n) (sortE es) ∧ Below w.heap.size w X) := by
    intro X hR hB
    have hbX : Below w.heap.size w X := hb1.trans ⟨hB.os, hB.tape, hB.output, hB.size, fun k hk => hB.block k (by have := hb1.size; omega) (by omega)⟩
    obtain ⟨cur', hc', hs'⟩ := hB.shape _ _ _ hg1
    have hsz : cur'.size = (isort (fun (x y : {e : El // GoodE W0 e}) => decide (cmpT x.1.t y.1.t < 0)) D).length * 5 := by rw [hs', isort_length, hDl, List.size_toArray, hclen]
    have hcells := rowE_cells hc' hsz hR
    have hm : (isort (fun (x y : {e : El // GoodE W0 e}) => decide (cmpT x.1.t y.1.t < 0)) D).map (·.1) = sortE es := (isort_map (lt := fun (x y : {e : El // GoodE W0 e}) => decide (cmpT x.1.t y.1.t < 0)) (lt' := fun x y : El => ltT x.t y.t) (fun d : {e : El // GoodE W0 e} => d.1) (fun _ _ => rfl) D).trans (by rw [hD]; rfl)
    rw [hm] at hcells
    have hsl : (sortE es).length = n := by rw [← hn]; exact isort_length _ _
    have hL := hL.out
    refine ⟨⟨⟨by rw [hsl, cellsE_len (fun e he => hL.fives e (mem_sortE he)), hsl], .inr ⟨w.heap.size, n, cur', by rw [hsl], hbase, hc', by rw [hsl]; exact Nat.le_refl _, by unfold maxLen; omega, by rw [hs', List.size_toArray, hclen], ?_⟩⟩, fun e he => hL.fives e (mem_sortE he), fun e he => hL.reads e (mem_sortE he)⟩, hbX⟩
    · rw [hcells, List.take_of_length_le (by rw [cellsE_len (fun e he => hL.fives e (mem_sortE he))]; exact Nat.le_refl _)]
  clear hL hBut hRow hDl hD hgood hg1 hW1 hb1 hclen hS hW0
  go_enter Tryz.func49, Tryz.ntmps49
  go_wp2_with fail
  refine call.out.mono ?_
  rintro e X ⟨rfl, hR, hB⟩
  have hz := hid_e (hfin.out X hR hB)
  clear hR hB call hfin
  go_wp2_with fail
  go_ret
  exact ⟨rfl, hz.out.1, hz.out.2⟩
end Go.Proofs.YtgigikcopedoeaaGreat.Tree.Eq
/-! laid, from any list on. -/
namespace Go.Proofs.YtgigikcopedoeaaGreat.Tree.Eq
open Go Go.RowKit Go.Stab

theorem grown_alloc {Z W : World} {r : Option Nat} (h : Z.grownBy W r) (o : Obj) : Z.grownBy (W.alloc o) r := ⟨h.os, h.tape, h.output, by rw [World.size_alloc]; have := h.size; omega, fun k hk hkr => (Below.heap_alloc W o k (by have := h.size; omega)).trans (h.block k hk hkr)⟩
theorem grown_then {Z W W' : World} {r q : Option Nat} (h : Z.grownBy W r) (h' : W.grownBy W' q) (hq : ∀ g, q = some g → r = some g ∨ Z.heap.size ≤ g) : Z.grownBy W' r :=
  ⟨h'.os.trans h.os, h'.tape.trans h.tape, h'.output.trans h.output, Nat.le_trans h.size h'.size, fun k hk hkr => (h'.block k (by have := h.size; omega) (fun e => by rcases hq k e.symm with h1 | h1; exact hkr h1.symm; omega)).trans (h.block k hk hkr)⟩
theorem grown_refl (w : World) (r : Option Nat) : w.grownBy w r := ⟨rfl, rfl, rfl, Nat.le_refl _, fun _ _ _ => rfl⟩
theorem grown_of_below {w w' : World} (h : Below w.heap.size w w') (r : Option Nat) : w.grownBy w' r := ⟨h.os, h.tape, h.output, h.size, fun k hk _ => h.block k hk⟩
/-- The block of the list is the first one's, or a new one. -/
def Own (w : World) (v0 v : Value) : Prop := ∀ g, v.ownBlock = some g → v0.ownBlock = some g ∨ w.heap.size ≤ g
theorem Own.next {w W : World} {v0 v : Value} {g n c : Nat} (h : Own w v0 v) (hs : w.heap.size ≤ W.heap.size) (hat : v.ownBlock = some g ∨ g = W.heap.size) : Own w v0 (.slice (some ⟨g, 0, none⟩) n c) := fun g' hg' => by
  have e : g = g' := by simpa [Value.ownBlock] using hg'
  subst e
  rcases hat with h1 | h1
  · exact h g h1
  · right; omega
set_option maxHeartbeats 4000000 in
set_option maxRecDepth 100000 in
theorem laid_in (a : Option Addr) (c n : Nat) (vs : List Tr) (W0 w : World) (lo m0 : Nat) (a0 : Option Addr) (c0 : Nat) (T0 : List Tr) (xs0 : List Value) (hW : Below W0.heap.size W0 w) (hn : vs.length = n) (hV : ListIn W0 w a c vs) (hlo0 : W0.heap.size ≤ lo) (hlo : lo ≤ w.heap.size) (hr0 : w.ownsRow lo 25 5 (.slice a0 m0 c0) m0 xs0) (hI0 : ItemsRep W0 T0 xs0) (hdis : ∀ b o, a = some ⟨b, o, none⟩ → (Value.slice a0 m0 c0).ownBlock ≠ some b) (hB : m0 + (candL vs).length ≤ 1000000000) :
    Calls Tryz.prog 46 #[.slice a0 m0 c0, .slice a n c] w fun e w' => ∃ a' c' xs', e = .returned (.slice a' (m0 + (candL vs).length) c') ∧ w'.ownsRow lo 25 5 (.slice a' (m0 + (candL vs).length) c') (m0 + (candL vs).length) xs' ∧ ItemsRep W0 (T0 ++ candL vs) xs' ∧ w.grownBy w' (Value.slice a0 m0 c0).ownBlock ∧ Own w (Value.slice a0 m0 c0) (.slice a' (m0 + (candL vs).length) c') := by
  obtain ⟨i5, hi, hz0, hz1, hz2⟩ := info_parts F25
  have n1 : n ≤ 9223372036854775807 := by have := hV.1.1; have := hV.1.2; omega
  have n0 : (0 : Int) ≤ (n : Int) := by omega
  have hcl : ∀ q, m0 + (candL (vs.take q)).length ≤ 1000000000 := fun q => by
    have : (candL vs).length = (candL (vs.take q)).length + (candL (vs.drop q)).length := by
      unfold candL
      rw [← List.length_append, ← List.flatMap_append, List.take_append_drop]
    omega
  have hg0 : Hid (∀ g, (Value.slice a0 m0 c0).ownBlock = some g → W0.heap.size ≤ g) := fun g hg => Nat.le_trans hlo0 (ownsRow_ge hr0 hg).1
  replace hW := hid_e hW
  replace hcl := hid_e hcl
  replace hn := hid_e hn
  replace hV := hid_e hV
  replace hB := hid_e hB
  replace hr0 := hid_e hr0
  replace hI0 := hid_e hI0
  replace hdis := hid_e hdis
  replace hlo := hid_e hlo
  go_enter Tryz.func46, Tryz.ntmps46
  go_wp2_with fail
  go_loopw [0, 6, 9] (fun fv _ iv wr => ∃ (q m : Nat) (ao : Option Addr) (co : Nat) (xs : List Value), fv = .slice ao m co ∧ iv = .int .i64 q ∧ q ≤ n ∧ Hid (m0 + (candL (vs.take q)).length = m) ∧ Hid (wr.ownsRow lo 25 5 (.slice ao m co) m xs) ∧ Hid (ItemsRep W0 (T0 ++ candL (vs.take q)) xs) ∧ Hid (w.grownBy wr (Value.slice a0 m0 c0).ownBlock) ∧ Hid (Own w (Value.slice a0 m0 c0) (.slice ao m co))) (fun _ _ iv _ => n - (intOf iv).toNat)
  case atStart => exact ⟨0, m0, a0, c0, xs0, rfl, rfl, Nat.zero_le _, rfl, hr0, (by show ItemsRep W0 (T0 ++ []) xs0; rw [List.append_nil]; exact hI0.out), grown_refl _ _, (fun g hg => .inl hg)⟩
  case round =>
    obtain ⟨q, m, ao, co, xs, rfl, rfl, hq, hm, hrow, hI, hF, hO⟩ := hrel
    have hbW : Hid (Below W0.heap.size W0 wr) := hW.out.trans (grown_below hF.out hW.out.size hg0.out)
    by_cases hlt : q < n
    · have q1 : (q : Int) < (n : Int) := by omega
      have q0 : (0 : Int) ≤ (q : Int) := by omega
      have q2 : (q : Int) + 1 ≤ 9223372036854775807 := by omega
      obtain ⟨u, hu⟩ : ∃ u, Hid (vs[q]? = some u) := ⟨vs[q]'(by rw [hn.out]; omega), List.getElem?_eq_getElem (by rw [hn.out]; omega)⟩
      obtain ⟨b, o, k1, x1, s1, an1, ln1, cn1, ai1, li1, ci1, ea, hlb, hc1, hv1⟩ := hV.out.item hu.out
      have hsame : wr.heap[b]? = w.heap[b]? := hF.out.block b hlb (fun e => hdis.out b o ea e.symm)
      subst ea
      obtain ⟨v0, v1, v2, v3, v4⟩ := cells5 hc1
      have x10 := (World.cell?_of_block (a := ⟨b, o + q * 5, none⟩) hsame).trans v0
      have x11 := (World.cell?_of_block (a := ⟨b, o + q * 5 + 1, none⟩) hsame).trans v1
      have x12 := (World.cell?_of_block (a := ⟨b, o + q * 5 + 2, none⟩) hsame).trans v2
      have x13 := (World.cell?_of_block (a := ⟨b, o + q * 5 + 3, none⟩) hsame).trans v3
      have x14 := (World.cell?_of_block (a := ⟨b, o + q * 5 + 4, none⟩) hsame).trans v4
      obtain ⟨hk, hli, hits⟩ := vrep_items hv1
      have hst := hid_e (candL_step hu.out)
      have hmx : Hid (m0 + ((candL (vs.take q)).length + (candT u).length) ≤ 1000000000) := by rw [← List.length_append, ← hst.out]; exact hcl.out _
      replace hv1 := hid_e hv1
      have hF1 : Hid (w.grownBy (wr.alloc (.cells #[.int .i64 k1, .int .i64 x1, .string s1, .slice an1 ln1 cn1, .slice ai1 li1 ci1] 25)) (Value.slice a0 m0 c0).ownBlock) := grown_alloc hF.out _
      have hbs : Hid (lo ≤ (wr.alloc (.cells #[.int .i64 k1, .int .i64 x1, .string s1, .slice an1 ln1 cn1, .slice ai1 li1 ci1] 25)).heap.size) := Nat.le_trans hlo.out hF1.out.size
      have hbB : Hid (Below W0.heap.size W0 (wr.alloc (.cells #[.int .i64 k1, .int .i64 x1, .string s1, .slice an1 ln1 cn1, .slice ai1 li1 ci1] 25))) := hbW.out.alloc hbW.out.size _
      clear v0 v1 v2 v3 v4 hc1 hlb hsame
      by_cases hcase : k1 = 5 ∧ 0 < li1
      · obtain ⟨rfl, hl0⟩ := hcase
        have hl0' : (0 : Int) < (li1 : Int) := by omega
        have hne : u.items ≠ [] := fun e => by rw [e] at hli; simp at hli; omega
        obtain ⟨bi, oi, rfl, hbi, hvl⟩ := hits.resolve_left hne
        obtain ⟨zs, z1, z2, z3, z4⟩ := VRepL.flat _ _ hvl
        rw [hli] at z2
        have ec : Hid (candT u = u.items) := candT_list hk hne
        rw [ec.out, hli, ← Nat.add_assoc, hm.out] at hmx
        have hrow2 : Hid ((wr.alloc (.cells #[.int .i64 5, .int .i64 x1, .string s1, .slice an1 ln1 cn1, .slice (some ⟨bi, oi, none⟩) li1 ci1] 25)).ownsRow lo 25 5 (.slice ao m co) m xs) := hrow.out.alloc _
        have hz3 : Hid (∀ j u, zs[j]? = some u → (wr.alloc (.cells #[.int .i64 5, .int .i64 x1, .string s1, .slice an1 ln1 cn1, .slice (some ⟨bi, oi, none⟩) li1 ci1] 25)).cell? ((⟨bi, oi, none⟩ : Addr).add j) = some u) := fun j u hj => by rw [add_off]; exact stay hbB.out (z3 j u hj)
        have hmb : m + li1 ≤ 1000000000 := hmx.out
        replace z1 := hid_e z1
        replace z2 := hid_e z2
        replace z4 := hid_e z4
        clear hits hvl z3
        go_wp2_with (at_builtin; refine wpList_append_lies _ rfl _ _ 23 rfl lo 25 i5 _ 5 80 Tryz.underlying23 hi hz0 hz1 hz2 rfl (by decide) (.slice ao m co) m xs rfl hrow2.out ⟨bi, oi, none⟩ li1 _ zs rfl z2.out hz3.out z4.out hl0 (by unfold maxLen; omega) (by omega) hbs.out _ rfl ?_; intro g4 c4 w4 hown4 hgrow4 hat4 hlt4; replace hown4 := hid_e hown4; have hF4 : Hid (w.grownBy w4 (Value.slice a0 m0 c0).ownBlock) := grown_then hF1.out hgrow4 hO.out; have hO4 : Hid (Own w (Value.slice a0 m0 c0) (.slice (some ⟨g4, 0, none⟩) (m + li1) c4)) := hO.out.next hF1.out.size hat4; clear hgrow4 hat4 hlt4)
        have hI' : Hid (ItemsRep W0 (T0 ++ candL (vs.take (q + 1))) (xs ++ zs)) := by rw [hst.out, ec.out, ← List.append_assoc]; exact ItemsRep.app hI.out z1.out
        exact ⟨⟨q + 1, m + li1, _, _, _, rfl, by go_num, by omega, by show _ = _; rw [hst.out, List.length_append, ec.out, hli, ← Nat.add_assoc, hm.out], hown4, hI', hF4, hO4⟩, by simp [intOf]; omega⟩
      · have ec : Hid (candT u = [u]) := candT_self (fun h => hcase ⟨by rw [← hk]; exact h.1, by rw [← hli]; exact List.length_pos_iff.2 h.2⟩)
        rw [ec.out, ← Nat.add_assoc, hm.out, List.length_singleton] at hmx
        have hmb : m + 1 ≤ 1000000000 := hmx.out
        have hrow2 : Hid (((wr.alloc (.cells #[.int .i64 k1, .int .i64 x1, .string s1, .slice an1 ln1 cn1, .slice ai1 li1 ci1] 25)).alloc (.cells #[.int .i64 k1, .int .i64 x1, .string s1, .slice an1 ln1 cn1, .slice ai1 li1 ci1] 25)).ownsRow lo 25 5 (.slice ao m co) m xs) := (hrow.out.alloc _).alloc _
        have hF2 : Hid (w.grownBy ((wr.alloc (.cells #[.int .i64 k1, .int .i64 x1, .string s1, .slice an1 ln1 cn1, .slice ai1 li1 ci1] 25)).alloc (.cells #[.int .i64 k1, .int .i64 x1, .string s1, .slice an1 ln1 cn1, .slice ai1 li1 ci1] 25)) (Value.slice a0 m0 c0).ownBlock) := grown_alloc hF1.out _
        have hI' : Hid (ItemsRep W0 (T0 ++ candL (vs.take (q + 1))) (xs ++ five k1 x1 s1 (.slice an1 ln1 cn1) (.slice ai1 li1 ci1))) := by rw [hst.out, ec.out, ← List.append_assoc]; exact ItemsRep.snoc rfl hv1.out hI.out
        have hnew : Hid (lo ≤ ((wr.alloc (.cells #[.int .i64 k1, .int .i64 x1, .string s1, .slice an1 ln1 cn1, .slice ai1 li1 ci1] 25)).alloc (.cells #[.int .i64 k1, .int .i64 x1, .string s1, .slice an1 ln1 cn1, .slice ai1 li1 ci1] 25)).heap.size) := Nat.le_trans hlo.out hF2.out.size
        have hnews : Hid (∀ j u, ([.int .i64 k1, .int .i64 x1, .string s1, .slice an1 ln1 cn1, .slice ai1 li1 ci1] : List Value)[j]? = some u → ((wr.alloc (.cells #[.int .i64 k1, .int .i64 x1, .string s1, .slice an1 ln1 cn1, .slice ai1 li1 ci1] 25)).alloc (.cells #[.int .i64 k1, .int .i64 x1, .string s1, .slice an1 ln1 cn1, .slice ai1 li1 ci1] 25)).cell? ((⟨wr.heap.size + 1, 0, none⟩ : Addr).add j) = some u) := by have h := heap_alloc_new (wr.alloc (.cells #[.int .i64 k1, .int .i64 x1, .string s1, .slice an1 ln1 cn1, .slice ai1 li1 ci1] 25)) (.cells #[.int .i64 k1, .int .i64 x1, .string s1, .slice an1 ln1 cn1, .slice ai1 li1 ci1] 25); rw [World.size_alloc] at h; exact World.news_of_block h
        have hones : Hid (∀ u ∈ ([.int .i64 k1, .int .i64 x1, .string s1, .slice an1 ln1 cn1, .slice ai1 li1 ci1] : List Value), u.oneCell' = true) := five_one _ _ _ _ _ _ _ _ _
        have hlen : Hid (m0 + (candL (vs.take (q + 1))).length = m + 1) := by show _ = _; rw [hst.out, List.length_append, ec.out, ← Nat.add_assoc, hm.out]; rfl
        clear hits hbB hst hF1
        by_cases h5 : k1 = 5
        · subst h5
          obtain rfl : li1 = 0 := by rcases Nat.eq_zero_or_pos li1 with h | h; exact h; exact absurd ⟨rfl, h⟩ hcase
          clear hcase hli
          go_wp2_with (at_builtin; refine wpList_append_lies _ rfl _ _ 23 rfl lo 25 i5 _ 5 80 Tryz.underlying23 hi hz0 hz1 hz2 rfl (by decide) (.slice ao m co) m xs rfl hrow2.out _ 1 1 [.int .i64 5, .int .i64 x1, .string s1, .slice an1 ln1 cn1, .slice ai1 0 ci1] rfl rfl hnews.out hones.out (by decide) (by unfold maxLen; omega) (by omega) hnew.out _ rfl ?_; intro g4 c4 w4 hown4 hgrow4 hat4 hlt4; replace hown4 := hid_e hown4; have hF4 : Hid (w.grownBy w4 (Value.slice a0 m0 c0).ownBlock) := grown_then hF2.out hgrow4 hO.out; have hO4 : Hid (Own w (Value.slice a0 m0 c0) (.slice (some ⟨g4, 0, none⟩) (m + 1) c4)) := hO.out.next hF2.out.size hat4; clear hgrow4 hat4 hlt4)
          exact ⟨⟨q + 1, m + 1, _, _, _, rfl, by go_num, by omega, hlen, hown4, hI', hF4, hO4⟩, by simp [intOf]; omega⟩
        · clear hcase hli hk
          go_wp2_with (at_builtin; refine wpList_append_lies _ rfl _ _ 23 rfl lo 25 i5 _ 5 80 Tryz.underlying23 hi hz0 hz1 hz2 rfl (by decide) (.slice ao m co) m xs rfl hrow2.out _ 1 1 [.int .i64 k1, .int .i64 x1, .string s1, .slice an1 ln1 cn1, .slice ai1 li1 ci1] rfl rfl hnews.out hones.out (by decide) (by unfold maxLen; omega) (by omega) hnew.out _ rfl ?_; intro g4 c4 w4 hown4 hgrow4 hat4 hlt4; replace hown4 := hid_e hown4; have hF4 : Hid (w.grownBy w4 (Value.slice a0 m0 c0).ownBlock) := grown_then hF2.out hgrow4 hO.out; have hO4 : Hid (Own w (Value.slice a0 m0 c0) (.slice (some ⟨g4, 0, none⟩) (m + 1) c4)) := hO.out.next hF2.out.size hat4; clear hgrow4 hat4 hlt4)
          exact ⟨⟨q + 1, m + 1, _, _, _, rfl, by go_num, by omega, hlen, hown4, hI', hF4, hO4⟩, by simp [intOf]; omega⟩
    · obtain rfl : q = n := by omega
      have q1 : ¬ (q : Int) < (q : Int) := by omega
      rw [List.take_of_length_le (by rw [hn.out]; omega)] at hm hI
      have hm' := hm.out
      subst hm'
      clear hm hbW
      go_wp2_with fail
      go_ret
      first | exact ⟨ao, co, rfl, xs, hrow.out, hI.out, hF.out, hO.out⟩ | exact ⟨ao, co, xs, rfl, hrow.out, hI.out, hF.out, hO.out⟩
end Go.Proofs.YtgigikcopedoeaaGreat.Tree.Eq
/-! The different ones of a list: by sorting, and one by one. -/
namespace Go.Proofs.YtgigikcopedoeaaGreat.Tree.Eq
open Go Go.RowKit Go.Stab

noncomputable def unlT (kept : List Tr) (v : Tr) : List Tr := @ite _ (v ∈ kept) (Classical.propDecidable _) kept (kept ++ [v])
theorem unlT_in {kept : List Tr} {v : Tr} (h : v ∈ kept) : unlT kept v = kept := by unfold unlT; rw [if_pos h]
theorem unlT_out {kept : List Tr} {v : Tr} (h : v ∉ kept) : unlT kept v = kept ++ [v] := by unfold unlT; rw [if_neg h]
noncomputable def ddT (l : List Tr) : List Tr := l.foldl unlT []
theorem ddT_snoc (l : List Tr) (v : Tr) : ddT (l ++ [v]) = unlT (ddT l) v := by simp [ddT, List.foldl_append]
theorem unlT_mem {kept : List Tr} {v x : Tr} (h : x ∈ unlT kept v) : x ∈ kept ∨ x = v := by
  by_cases hv : v ∈ kept
  · rw [unlT_in hv] at h; exact .inl h
  · rw [unlT_out hv] at h; rcases List.mem_append.1 h with h | h; exact .inl h; exact .inr (List.mem_singleton.1 h)
theorem fold_mem : ∀ (l : List Tr) (A : List Tr) (x : Tr), x ∈ l.foldl unlT A → x ∈ A ∨ x ∈ l
  | [], _, _, h => .inl h
  | v :: l, A, x, h => by
    rcases fold_mem l (unlT A v) x h with h | h
    · rcases unlT_mem h with h | h
      · exact .inl h
      · exact .inr (by rw [h]; exact .head _)
    · exact .inr (.tail _ h)
theorem ddT_mem {l : List Tr} {x : Tr} (h : x ∈ ddT l) : x ∈ l := by rcases fold_mem l [] x h with h | h; cases h; exact h
theorem up_lt {α : Type} {lt : α → α → Bool} : ∀ {l : List α}, Up lt l → ∀ {i j : Nat} {x y : α}, i < j → l[i]? = some x → l[j]? = some y → lt y x = false
  | [], _, i, j, x, y, _, h, _ => by simp at h
  | a :: r, hu, i, j, x, y, hij, h, h' => by
    have h1 : (∀ y ∈ r, lt y a = false) ∧ Up lt r := hu
    cases j with
    | zero => omega
    | succ j =>
      have hy : r[j]? = some y := by simpa using h'
      cases i with
      | zero =>
        have e : a = x := by simpa using h
        subst e
        exact h1.1 y (List.mem_of_getElem? hy)
      | succ i => exact up_lt h1.2 (i := i) (j := j) (by omega) (by simpa using h) hy
theorem ltT_le {a b : Tr} (h : ltT b a = false) : cmpT a b ≤ 0 := by
  have h1 : ¬ cmpT b a < 0 := of_decide_eq_false h
  have := cmpT_anti a b
  omega
/-- The state of unlike behind the first q. -/
structure UI (S : List Tr) (q : Nat) (kept : List Tr) (al : Nat) : Prop where
  is : kept = ddT (S.take q)
  le : al ≤ kept.length
  far : ∀ x ∈ kept.take al, ∀ (r : Nat) (v : Tr), q ≤ r → S[r]? = some v → x ≠ v
  near : ∀ (h y : Tr), kept[al]? = some h → y ∈ kept.drop al → cmpT h y = 0
theorem UI.nil (S : List Tr) : UI S 0 [] 0 := ⟨rfl, Nat.le_refl _, (fun x hx => by simp at hx), (fun h y hh => by simp at hh)⟩
theorem UI.mem {S : List Tr} {q : Nat} {kept : List Tr} {al : Nat} (h : UI S q kept al) {x : Tr} (hx : x ∈ kept) : ∃ i, i < q ∧ S[i]? = some x := by
  rw [h.is] at hx
  have := ddT_mem hx
  obtain ⟨i, hi⟩ := List.mem_iff_getElem?.1 this
  have hl := (List.getElem?_eq_some_iff.1 hi).1
  rw [List.length_take] at hl
  exact ⟨i, by omega, by rwa [List.getElem?_take_of_lt (by omega)] at hi⟩
theorem UI.apart {S : List Tr} {q : Nat} {kept : List Tr} {al : Nat} {v hd : Tr} (hup : Up ltT S) (h : UI S q kept al) (hv : S[q]? = some v) (hh : kept[al]? = some hd) (hc : cmpT hd v ≠ 0) : ∀ x ∈ kept, ∀ (r : Nat) (u : Tr), q ≤ r → S[r]? = some u → x ≠ u := by
  intro x hx r u hr hu e
  subst e
  rw [← List.take_append_drop al kept] at hx
  rcases List.mem_append.1 hx with hx | hx
  · exact h.far x hx r x hr hu rfl
  · have hn := h.near hd x hh hx
    obtain ⟨i, hi, hS⟩ := h.mem (List.mem_of_getElem? hh)
    have h1 := ltT_le (up_lt hup hi hS hv)
    rcases Nat.lt_or_ge q r with hq | hq
    · have h2 := ltT_le (up_lt hup hq hv hu)
      have a1 := cmpT_anti hd x
      have a2 := cmpT_anti hd v
      have h3 := cmpT_trans v x hd h2 (by omega)
      omega
    · obtain rfl : r = q := by omega
      rw [hv] at hu
      cases hu
      exact hc hn
theorem UI.add {S : List Tr} {q : Nat} {kept : List Tr} {al : Nat} {v : Tr} (h : UI S q kept al) (hv : S[q]? = some v) (ha : ∀ x ∈ kept, ∀ (r : Nat) (u : Tr), q ≤ r → S[r]? = some u → x ≠ u) : UI S (q + 1) (kept ++ [v]) kept.length := by
  have hno : v ∉ kept := fun hm => ha v hm q v (Nat.le_refl _) hv rfl
  refine ⟨?_, by simp, fun x hx r u hr hu => ha x (by simpa using hx) r u (by omega) hu, fun hd y hh hy => ?_⟩
  · rw [List.take_add_one, hv, Option.toList, ddT_snoc, ← h.is, unlT_out hno]
  · have e1 : v = hd := by simpa using hh
    have e2 : y = v := by simpa using hy
    rw [e2, ← e1]
    exact cmpT_self v
theorem UI.full {S : List Tr} {q : Nat} {kept : List Tr} {al : Nat} (h : UI S q kept al) (hal : al = kept.length) : ∀ x ∈ kept, ∀ (r : Nat) (u : Tr), q ≤ r → S[r]? = some u → x ≠ u := fun x hx => h.far x (by rw [hal, List.take_of_length_le (Nat.le_refl _)]; exact hx)
theorem UI.has {S : List Tr} {q : Nat} {kept : List Tr} {al : Nat} {v : Tr} (h : UI S q kept al) (hv : S[q]? = some v) : v ∈ kept.drop al ↔ v ∈ kept := by
  refine ⟨fun hx => List.mem_of_mem_drop hx, fun hx => ?_⟩
  rw [← List.take_append_drop al kept] at hx
  rcases List.mem_append.1 hx with hx | hx
  · exact absurd rfl (h.far v hx q v (Nat.le_refl _) hv)
  · exact hx
theorem UI.same {S : List Tr} {q : Nat} {kept : List Tr} {al : Nat} {v hd : Tr} (h : UI S q kept al) (hv : S[q]? = some v) (hh : kept[al]? = some hd) (hc : cmpT hd v = 0) : UI S (q + 1) (unlT kept v) al := by
  have hal := (List.getElem?_eq_some_iff.1 hh).1
  have hp : ∃ R, unlT kept v = kept ++ R ∧ ∀ y ∈ R, y = v := by
    by_cases hm : v ∈ kept
    · exact ⟨[], by rw [unlT_in hm, List.append_nil], fun y hy => by cases hy⟩
    · exact ⟨[v], unlT_out hm, fun y hy => List.mem_singleton.1 hy⟩
  obtain ⟨R, hR, hy⟩ := hp
  refine ⟨?_, by rw [hR, List.length_append]; omega, fun x hx r u hr hu => ?_, fun hd' y hh' hy' => ?_⟩
  · rw [List.take_add_one, hv, Option.toList, ddT_snoc, ← h.is]
  · rw [hR, List.take_append_of_le_length (by omega)] at hx
    exact h.far x hx r u (by omega) hu
  · rw [hR, List.getElem?_append_left hal, hh] at hh'
    cases hh'
    rw [hR, List.drop_append_of_le_length (by omega)] at hy'
    rcases List.mem_append.1 hy' with h1 | h1
    · exact h.near hd y hh h1
    · rw [hy y h1]; exact hc
/-- One put in its place, unless it is there. -/
noncomputable def putT (m : List Tr) (v : Tr) : List Tr := @ite _ (v ∈ m) (Classical.propDecidable _) m (mergeL ltT m [v])
theorem putT_in {m : List Tr} {v : Tr} (h : v ∈ m) : putT m v = m := by unfold putT; rw [if_pos h]
theorem putT_out {m : List Tr} {v : Tr} (h : v ∉ m) : putT m v = mergeL ltT m [v] := by unfold putT; rw [if_neg h]
theorem fold_with (v : Tr) : ∀ (l R A : List Tr), v ∉ l → ∃ R', l.foldl unlT (A ++ R) = A ++ R' ∧ l.foldl unlT (A ++ v :: R) = A ++ v :: R' ∧ (∀ x ∈ R', x ∈ R ∨ x ∈ l)
  | [], R, A, _ => ⟨R, rfl, rfl, fun x h => .inl h⟩
  | u :: l, R, A, hv => by
    have hne : u ≠ v := fun e => hv (by rw [e]; exact .head _)
    have hvl : v ∉ l := fun h => hv (.tail _ h)
    have hiff : u ∈ A ++ v :: R ↔ u ∈ A ++ R := by simp [hne]
    by_cases hm : u ∈ A ++ R
    · obtain ⟨R', h1, h2, h3⟩ := fold_with v l R A hvl
      refine ⟨R', ?_, ?_, fun x hx => (h3 x hx).imp id (.tail _)⟩
      · rw [List.foldl_cons, unlT_in hm]; exact h1
      · rw [List.foldl_cons, unlT_in (hiff.2 hm)]; exact h2
    · obtain ⟨R', h1, h2, h3⟩ := fold_with v l (R ++ [u]) A hvl
      refine ⟨R', ?_, ?_, fun x hx => ?_⟩
      · rw [List.foldl_cons, unlT_out hm, List.append_assoc]; exact h1
      · rw [List.foldl_cons, unlT_out (fun h => hm (hiff.1 h)), List.append_assoc, List.cons_append]; exact h2
      · rcases h3 x hx with h | h
        · rcases List.mem_append.1 h with h | h
          · exact .inl h
          · exact .inr (by rw [List.mem_singleton.1 h]; exact .head _)
        · exact .inr (.tail _ h)
theorem part_of {S : List Tr} (hup : Up ltT S) (v : Tr) : ∃ l1 l2, S = l1 ++ l2 ∧ (∀ x ∈ l1, ltT v x = false) ∧ (∀ x ∈ l2, ltT v x = true) := by
  induction S with
  | nil => exact ⟨[], [], rfl, (fun x h => by cases h), (fun x h => by cases h)⟩
  | cons a r ih =>
    have h1 : (∀ y ∈ r, ltT y a = false) ∧ Up ltT r := hup
    obtain ⟨l1, l2, e, p1, p2⟩ := ih h1.2
    cases ha : ltT v a with
    | false =>
      exact ⟨a :: l1, l2, by rw [e]; rfl, (fun x hx => by rcases List.mem_cons.1 hx with h | h; rw [h]; exact ha; exact p1 x h), p2⟩
    | true =>
      refine ⟨[], a :: r, rfl, (fun x h => by cases h), fun x hx => ?_⟩
      rcases List.mem_cons.1 hx with h | h
      · rw [h]; exact ha
      · have hxa := h1.1 x h
        cases hv : ltT v x with
        | true => rfl
        | false => have := swoT.neg v x a hv hxa; rw [ha] at this; cases this
theorem ltT_ne {v x : Tr} (h : ltT v x = true) : x ≠ v := fun e => by
  subst e
  have := swoT.irr x
  rw [h] at this
  cases this
/-- The different ones of the sorted list are those that are put one by one. -/
theorem dd_put (C : List Tr) : ∀ (n : Nat), ddT (isort ltT (C.take n)) = (C.take n).foldl putT []
  | 0 => by simp [isort, ddT]
  | n + 1 => by
    have ih := dd_put C n
    cases hv : C[n]? with
    | none => rw [List.take_add_one, hv, Option.toList, List.append_nil]; exact ih
    | some v =>
      rw [List.take_add_one, hv, Option.toList, isort_snoc, List.foldl_append, ← ih, List.foldl_cons, List.foldl_nil]
      obtain ⟨l1, l2, e, p1, p2⟩ := part_of (isort_up swoT (C.take n)) v
      rw [e, mergeL_last ltT v l1 l2 p1 p2]
      have hv2 : v ∉ l2 := fun h => ltT_ne (p2 v h) rfl
      have e1 : ddT (l1 ++ v :: l2) = l2.foldl unlT (unlT (ddT l1) v) := by simp [ddT, List.foldl_append]
      have e2 : ddT (l1 ++ l2) = l2.foldl unlT (ddT l1) := by simp [ddT, List.foldl_append]
      obtain ⟨R', h1, h2, h3⟩ := fold_with v l2 [] (ddT l1) hv2
      rw [List.append_nil] at h1
      by_cases hm : v ∈ ddT l1
      · rw [e1, unlT_in hm, e2, putT_in (by rw [h1]; exact List.mem_append.2 (.inl hm))]
      · rw [e1, unlT_out hm, e2, h1, h2, putT_out (fun h => by
          rcases List.mem_append.1 h with h | h
          · exact hm h
          · rcases h3 v h with h | h
            · cases h
            · exact hv2 h)]
        exact (mergeL_last ltT v (ddT l1) R' (fun x hx => p1 x (ddT_mem hx)) (fun x hx => by
          rcases h3 x hx with h | h
          · cases h
          · exact p2 x h)).symm
theorem dd_all (C : List Tr) : ddT (isort ltT C) = C.foldl putT [] := by
  have := dd_put C C.length
  rwa [List.take_of_length_le (Nat.le_refl _)] at this
end Go.Proofs.YtgigikcopedoeaaGreat.Tree.Eq
/-! unlike: the closure, and whether a list has a value. -/
namespace Go.Proofs.YtgigikcopedoeaaGreat.Tree.Eq
open Go Go.RowKit Go.Stab

theorem k_quiet_if {c : Bool} {p q : Prop} (h : c = true) (hp : p) : if c = true then p else q := by rw [if_pos h]; exact hp
theorem k_quiet_else {c : Bool} {p q : Prop} (h : c = false) (hq : q) : if c = true then p else q := by rw [if_neg (by simp [h])]; exact hq
set_option maxHeartbeats 2000000 in
set_option maxRecDepth 100000 in
theorem unl1_any (t v : Tr) (k1 x1 : Int) (s1 : ByteArray) (an1 : Option Addr) (ln1 cn1 : Nat) (ai1 : Option Addr) (li1 ci1 : Nat) (k9 x9 : Int) (s9 : ByteArray) (an9 : Option Addr) (ln9 cn9 : Nat) (ai9 : Option Addr) (li9 ci9 : Nat) (pb : Nat) (w : World) (hp : w.heap[pb]? = some (.cells #[.int .i64 k9, .int .i64 x9, .string s9, .slice an9 ln9 cn9, .slice ai9 li9 ci9] 25 (0, 0))) (hV : VRep w t (five k1 x1 s1 (.slice an1 ln1 cn1) (.slice ai1 li1 ci1))) (hV' : VRep w v (five k9 x9 s9 (.slice an9 ln9 cn9) (.slice ai9 li9 ci9))) (hS : SmallT t) :
    Calls Tryz.prog 75 #[.agg #[.int .i64 k1, .int .i64 x1, .string s1, .slice an1 ln1 cn1, .slice ai1 li1 ci1], .pointer (some ⟨pb, 0, none⟩)] w fun e w' => e = .returned (.bool (eqT t v)) ∧ Below w.heap.size w w' := by
  have HB : Below w.heap.size w (w.alloc (.cells #[.int .i64 k1, .int .i64 x1, .string s1, .slice an1 ln1 cn1, .slice ai1 li1 ci1] 25)) := (Below.refl _ w).alloc (Nat.le_refl _) _
  have call := hid_e (jeq_any t v (five k1 x1 s1 (.slice an1 ln1 cn1) (.slice ai1 li1 ci1)) (five k9 x9 s9 (.slice an9 ln9 cn9) (.slice ai9 li9 ci9)) _ (VRep.keep HB _ _ hV) (VRep.keep HB _ _ hV') hS)
  obtain ⟨p0, p1, p2, p3, p4, -⟩ := row_cells (block_keep hp HB)
  replace HB := hid_e HB
  obtain ⟨Z, hZ⟩ : ∃ Z, Hid (eqT t v = Z) := ⟨_, rfl⟩
  rw [hZ.out] at call ⊢
  clear hV hV' hp hZ
  go_enter Tryz.func75, Tryz.ntmps75
  go_wp2_with (go_at_call 76; refine call.out.mono ?_; rintro e w1 ⟨rfl, hb⟩; replace hb := hid_e hb)
  go_ret
  exact ⟨rfl, HB.out.trans (hb.out.mono HB.out.size)⟩
noncomputable def hasV (ts : List Tr) (v : Tr) : Bool := ts.any (fun t => eqT t v)
theorem hasV_iff {ts : List Tr} {v : Tr} : hasV ts v = true ↔ v ∈ ts := by
  unfold hasV
  rw [List.any_eq_true]
  exact ⟨fun ⟨x, h1, h2⟩ => by rw [← eqT_iff.1 h2]; exact h1, fun h => ⟨v, h, eqT_true rfl⟩⟩
set_option maxHeartbeats 4000000 in
set_option maxRecDepth 100000 in
theorem vindex_any (ts : List Tr) (v : Tr) (k9 x9 : Int) (s9 : ByteArray) (an9 : Option Addr) (ln9 cn9 : Nat) (ai9 : Option Addr) (li9 ci9 : Nat) (a : Option Addr) (c n pb : Nat) (W0 w : World) (hW0 : Below W0.heap.size W0 w) (hn : ts.length = n) (hnn : n ≤ 1000000000) (hL : ListIn W0 w a c ts) (hS : SmallL ts) (hp : w.heap[pb]? = some (.cells #[.int .i64 k9, .int .i64 x9, .string s9, .slice an9 ln9 cn9, .slice ai9 li9 ci9] 25 (0, 0))) (hV' : VRep w v (five k9 x9 s9 (.slice an9 ln9 cn9) (.slice ai9 li9 ci9))) :
    Calls Tryz.prog 110 #[.slice a n c, .func (.func 75) #[] #[.pointer (some ⟨pb, 0, none⟩)]] w fun e w' => ∃ z : Int, e = .returned (.int .i64 z) ∧ decide (0 ≤ z) = hasV ts v ∧ Below w.heap.size w w' := by
  have n0 : (0 : Int) ≤ (n : Int) := by omega
  have n1 : (n : Int) ≤ 1000000000 := by omega
  replace hn := hid_e hn
  replace hL := hid_e hL
  replace hp := hid_e hp
  replace hV' := hid_e hV'
  replace hS := hid_e hS
  replace hW0 := hid_e hW0
  go_enter Tryz.func110, Tryz.ntmps110
  go_wp2_with fail
  go_loopw [5, 8] (fun _ iv wr => ∃ q : Nat, iv = .int .i64 q ∧ q ≤ n ∧ Hid (hasV (ts.take q) v = false) ∧ Hid (Below w.heap.size w wr)) (fun _ iv _ => n - (intOf iv).toNat)
  case atStart => exact ⟨0, rfl, Nat.zero_le _, rfl, Below.refl _ _⟩
  case round =>
    obtain ⟨q, rfl, hq, hno, hb⟩ := hrel
    by_cases hlt : q < n
    · have q1 : (q : Int) < (n : Int) := by omega
      have q0 : (0 : Int) ≤ (q : Int) := by omega
      obtain ⟨u, hu⟩ : ∃ u, Hid (ts[q]? = some u) := ⟨ts[q]'(by rw [hn.out]; omega), List.getElem?_eq_getElem (by rw [hn.out]; omega)⟩
      obtain ⟨g, o, k1, x1, s1, an1, ln1, cn1, ai1, li1, ci1, ea, hlb, hc1, hv1⟩ := hL.out.item hu.out
      subst ea
      obtain ⟨v0, v1, v2, v3, v4⟩ := cells5 hc1
      have x10 := stay hb.out v0
      have x11 := stay hb.out v1
      have x12 := stay hb.out v2
      have x13 := stay hb.out v3
      have x14 := stay hb.out v4
      have call := hid_e (unl1_any u v k1 x1 s1 an1 ln1 cn1 ai1 li1 ci1 k9 x9 s9 an9 ln9 cn9 ai9 li9 ci9 pb wr (block_keep hp.out hb.out) (VRep.keep (hW0.out.trans (hb.out.mono hW0.out.size)) _ _ hv1) (VRep.keep hb.out _ _ hV'.out) (SmallL.at hS.out hu.out))
      have hst : Hid (hasV (ts.take (q + 1)) v = eqT u v) := by
        show _ = _
        have h := hno.out
        unfold hasV at h ⊢
        rw [List.take_add_one, hu.out, List.any_append, h]
        simp
      have hall : Hid (eqT u v = true → hasV ts v = true) := fun h => List.any_eq_true.2 ⟨u, List.mem_of_getElem? hu.out, h⟩
      obtain ⟨Z, hZ⟩ : ∃ Z, Hid (eqT u v = Z) := ⟨_, rfl⟩
      rw [hZ.out] at call hst hall
      clear v0 v1 v2 v3 v4 hc1 hv1 hlb hZ
      go_wp2_with fail
      refine call.out.mono ?_
      rintro e w1 ⟨rfl, hb1⟩
      have hb' := hid_e (hb.out.trans (hb1.mono hb.out.size))
      clear hb1 call x10 x11 x12 x13 x14
      cases Z with
      | true =>
        go_wp2_with fail
        go_ret
        exact ⟨q, rfl, by rw [hall.out (by trivial)]; simp, hb'.out⟩
      | false =>
        go_wp2_with fail
        exact ⟨⟨q + 1, by go_num, by omega, hst, hb'⟩, by simp [intOf]; omega⟩
    · obtain rfl : q = n := by omega
      have q1 : ¬ (q : Int) < (q : Int) := by omega
      rw [List.take_of_length_le (by rw [hn.out]; omega)] at hno
      go_wp2_with fail
      go_ret
      exact ⟨-1, rfl, by rw [hno.out]; decide, hb.out⟩
set_option maxHeartbeats 4000000 in
set_option maxRecDepth 100000 in
theorem vcontains_any (ts : List Tr) (v : Tr) (k9 x9 : Int) (s9 : ByteArray) (an9 : Option Addr) (ln9 cn9 : Nat) (ai9 : Option Addr) (li9 ci9 : Nat) (a : Option Addr) (c n pb : Nat) (W0 w : World) (hW0 : Below W0.heap.size W0 w) (hn : ts.length = n) (hnn : n ≤ 1000000000) (hL : ListIn W0 w a c ts) (hS : SmallL ts) (hp : w.heap[pb]? = some (.cells #[.int .i64 k9, .int .i64 x9, .string s9, .slice an9 ln9 cn9, .slice ai9 li9 ci9] 25 (0, 0))) (hV' : VRep w v (five k9 x9 s9 (.slice an9 ln9 cn9) (.slice ai9 li9 ci9))) :
    Calls Tryz.prog 74 #[.slice a n c, .func (.func 75) #[] #[.pointer (some ⟨pb, 0, none⟩)]] w fun e w' => e = .returned (.bool (hasV ts v)) ∧ Below w.heap.size w w' := by
  have call := hid_e (vindex_any ts v k9 x9 s9 an9 ln9 cn9 ai9 li9 ci9 a c n pb W0 w hW0 hn hnn hL hS hp hV')
  clear hL hp hV' hW0
  go_enter Tryz.func74, Tryz.ntmps74
  go_wp2_with fail
  refine call.out.mono ?_
  rintro e w1 ⟨z, rfl, hz, hb⟩
  replace hz := hid_e hz
  replace hb := hid_e hb
  go_wp2_with fail
  go_ret
  exact ⟨by show Ending.returned (.bool (decide (0 ≤ z))) = _; rw [hz.out], hb.out⟩
end Go.Proofs.YtgigikcopedoeaaGreat.Tree.Eq
/-! unlike of every sorted list. -/
namespace Go.Proofs.YtgigikcopedoeaaGreat.Tree.Eq
open Go Go.RowKit Go.Stab

theorem LIn.app {W0 : World} {base : Nat} {w3 : World} {ks : List El} {e : El} {g4 c4 m : Nat} (hk : ks.length = m) (hf : ∀ e ∈ ks, Five e.cs) (hr : ∀ e ∈ ks, VRep W0 e.t e.cs) (h5 : Five e.cs) (hv : VRep W0 e.t e.cs) (hown : w3.ownsRow base 25 5 (.slice (some ⟨g4, 0, none⟩) (m + 1) c4) (m + 1) (cellsE ks ++ e.cs)) : LIn W0 base w3 (.slice (some ⟨g4, 0, none⟩) (m + 1) c4) (ks ++ [e]) := by
  refine ⟨?_, fun x hx => ?_, fun x hx => ?_⟩
  · rw [List.length_append, hk]; simpa [cellsE, List.flatMap_append] using hown
  · rcases List.mem_append.1 hx with h | h
    · exact hf x h
    · rw [List.mem_singleton.1 h]; exact h5
  · rcases List.mem_append.1 hx with h | h
    · exact hr x h
    · rw [List.mem_singleton.1 h]; exact hv
theorem treesE_at {es : List El} {q : Nat} {e : El} (h : es[q]? = some e) : (treesE es)[q]? = some e.t := by simp [treesE, h]
theorem treesE_len (es : List El) : (treesE es).length = es.length := by simp [treesE]
theorem treesE_app (es : List El) (e : El) : treesE (es ++ [e]) = treesE es ++ [e.t] := by simp [treesE]
theorem LIn.drop {W0 : World} {base : Nat} {w : World} {g n c al : Nat} {es : List El} (h : LIn W0 base w (.slice (some ⟨g, 0, none⟩) n c) es) (hn : es.length = n) (hc : n ≤ c ∧ c ≤ 9223372036854775807) : ListIn W0 w (some ⟨g, al * 5, none⟩) (c - al) ((treesE es).drop al) := by
  refine ⟨⟨by rw [List.length_drop, treesE_len]; omega, by omega⟩, fun q u hu => ?_⟩
  rw [List.getElem?_drop] at hu
  obtain ⟨e, he, rfl⟩ : ∃ e, es[al + q]? = some e ∧ e.t = u := by
    unfold treesE at hu
    rw [List.getElem?_map] at hu
    obtain ⟨e, h1, h2⟩ := Option.map_eq_some_iff.1 hu
    exact ⟨e, h1, h2⟩
  obtain ⟨g', e1, hl, hcs, ⟨k, x, s, an, ln, cn, ai, li, ci, hf⟩, hv⟩ := h.item he
  injection e1 with e1
  injection e1 with e1
  subst e1
  rw [hf] at hcs hv
  refine ⟨g, al * 5, k, x, s, an, ln, cn, ai, li, ci, rfl, hl, ?_, hv⟩
  rw [← Nat.add_mul]
  exact hcs
theorem LIn.cap {W0 : World} {base : Nat} {w : World} {g n c : Nat} {es : List El} (h : LIn W0 base w (.slice (some ⟨g, 0, none⟩) n c) es) : n ≤ c ∧ c ≤ 9223372036854775807 := by
  rcases h.row.2 with ⟨e, _⟩ | ⟨g', cap, cur, e, hg, hh, hc, hm, hs, ht⟩
  · cases e
  · cases e; exact ⟨hc, by unfold maxLen at hm; omega⟩
theorem LIn.addr {W0 : World} {base : Nat} {w : World} {a : Option Addr} {n c : Nat} {es : List El} (h : LIn W0 base w (.slice a n c) es) (hn : es.length = n) (h0 : 0 < n) : ∃ g, a = some ⟨g, 0, none⟩ := by
  obtain ⟨e, he⟩ : ∃ e, es[0]? = some e := ⟨es[0]'(by omega), List.getElem?_eq_getElem (by omega)⟩
  obtain ⟨g, e1, -⟩ := h.item he
  exact ⟨g, e1⟩
theorem smallE {es : List El} (h : ∀ e ∈ es, SmallT e.t) : SmallL (treesE es) := smallL_iff.2 (fun u hu => by unfold treesE at hu; obtain ⟨e, he, rfl⟩ := List.mem_map.1 hu; exact h e he)
theorem small_drop {l : List Tr} {n : Nat} (h : SmallL l) : SmallL (l.drop n) := smallL_iff.2 (fun u hu => smallL_iff.1 h u (List.mem_of_mem_drop hu))
theorem nil_in (W0 w : World) (a : Option Addr) (c : Nat) (hc : c ≤ 9223372036854775807) : ListIn W0 w a c [] := ⟨⟨Nat.zero_le _, hc⟩, fun q u hu => by simp at hu⟩
set_option maxHeartbeats 8000000 in
set_option maxRecDepth 100000 in
theorem unlike_in (W0 : World) (base : Nat) (a : Option Addr) (c n : Nat) (es : List El) (w : World) (hW0 : Below W0.heap.size W0 w) (hn : es.length = n) (hnn : n ≤ 1000000) (hL : LIn W0 base w (.slice a n c) es) (hS : ∀ e ∈ es, SmallT e.t) (hup : Up ltT (treesE es)) :
    Calls Tryz.prog 48 #[.slice a n c] w fun e w' => ∃ v ks, e = .returned v ∧ LIn W0 w.heap.size w' v ks ∧ treesE ks = ddT (treesE es) ∧ (∀ k ∈ ks, SmallT k.t) ∧ Below w.heap.size w w' := by
  obtain ⟨i5, hi, hz0, hz1, hz2⟩ := info_parts AV
  have n0 : (0 : Int) ≤ (n : Int) := by omega
  have n1 : (n : Int) ≤ 1000000 := by omega
  replace hn := hid_e hn
  replace hL := hid_e hL
  replace hS := hid_e hS
  replace hup := hid_e hup
  replace hW0 := hid_e hW0
  go_enter Tryz.func48, Tryz.ntmps48
  go_wp2_with fail
  go_loopw [3, 4, 6, 9] (fun kv av _ iv wr => ∃ (q m al : Nat) (ao : Option Addr) (co : Nat) (ks : List El), kv = .slice ao m co ∧ av = .int .i64 al ∧ iv = .int .i64 q ∧ q ≤ n ∧ m ≤ q ∧ al ≤ m ∧ Hid (ks.length = m) ∧ Hid (LIn W0 w.heap.size wr (.slice ao m co) ks) ∧ Hid (UI (treesE es) q (treesE ks) al) ∧ Hid (∀ k ∈ ks, SmallT k.t) ∧ Hid (m = 0 → ao = none ∧ co = 0) ∧ Hid (Below w.heap.size w wr)) (fun _ _ _ iv _ => n - (intOf iv).toNat)
  case atStart => exact ⟨0, 0, 0, none, 0, [], rfl, rfl, rfl, Nat.zero_le _, Nat.le_refl _, Nat.le_refl _, rfl, LIn.nil _ _ _, UI.nil _, (fun k hk => by cases hk), (fun _ => ⟨rfl, rfl⟩), Below.refl _ _⟩
  case round =>
    obtain ⟨q, m, al, ao, co, ks, rfl, rfl, rfl, hq, hmq, ham, hkl, hK, hU, hkS, hm0, hb⟩ := hrel
    have q0 : (0 : Int) ≤ (q : Int) := by omega
    by_cases hlt : q < n
    · skip
      have q1 : (q : Int) < (n : Int) := by omega
      obtain ⟨e, he⟩ : ∃ e, Hid (es[q]? = some e) := ⟨es[q]'(by rw [hn.out]; omega), List.getElem?_eq_getElem (by rw [hn.out]; omega)⟩
      obtain ⟨g0, ea, -, hc1, ⟨k1, x1, s1, an1, ln1, cn1, ai1, li1, ci1, hf⟩, hv1⟩ := hL.out.item he.out
      have hSe := hid_e (hS.out e (List.mem_of_getElem? he.out))
      have hF1 : Hid (e.cs = (five k1 x1 s1 (.slice an1 ln1 cn1) (.slice ai1 li1 ci1))) := hf
      subst ea
      rw [hf] at hc1 hv1
      clear hf
      obtain ⟨v0, v1, v2, v3, v4⟩ := cells5 hc1
      have x10 := stay hb.out v0
      have x11 := stay hb.out v1
      have x12 := stay hb.out v2
      have x13 := stay hb.out v3
      have x14 := stay hb.out v4
      clear v0 v1 v2 v3 v4 hc1
      obtain ⟨W1, hW1⟩ : ∃ W1, Hid (wr.alloc (.cells #[.int .i64 k1, .int .i64 x1, .string s1, .slice an1 ln1 cn1, .slice ai1 li1 ci1] 25) = W1) := ⟨_, rfl⟩
      obtain ⟨pb, hpb⟩ : ∃ pb, Hid (wr.heap.size = pb) := ⟨_, rfl⟩
      have hp1 : Hid (W1.heap[pb]? = some (.cells #[.int .i64 k1, .int .i64 x1, .string s1, .slice an1 ln1 cn1, .slice ai1 li1 ci1] 25 (0, 0))) := by rw [← hW1.out, ← hpb.out]; exact heap_alloc_new wr _
      have hbr : Hid (Below wr.heap.size wr W1) := by rw [← hW1.out]; exact (Below.refl _ wr).alloc (Nat.le_refl _) _
      have hb1 : Hid (Below w.heap.size w W1) := hb.out.trans (hbr.out.mono hb.out.size)
      have hK1 := hid_e (hK.out.keep hbr.out)
      have hv0 : Hid (VRep W0 e.t (five k1 x1 s1 (.slice an1 ln1 cn1) (.slice ai1 li1 ci1))) := hv1
      clear hv1 hbr hb hK
      have hvq := hid_e (treesE_at he.out)
      have m0 : (0 : Int) ≤ (m : Int) := by omega
      have a0 : (0 : Int) ≤ (al : Int) := by omega
      have m1 : (m : Int) ≤ 1000000 := by omega
      have a1 : (al : Int) ≤ 1000000 := by omega
      go_upto_region 6 with fail
      rw [hW1.out, hpb.out]
      clear hW1 hpb x10 x11 x12 x13 x14
      obtain ⟨p0, p1, p2, p3, p4, -⟩ := row_cells hp1.out
      by_cases hal : al < m
      · skip
        have al1 : (al : Int) < (m : Int) := by omega
        obtain ⟨d, hd⟩ : ∃ d, Hid (ks[al]? = some d) := ⟨ks[al]'(by rw [hkl.out]; omega), List.getElem?_eq_getElem (by rw [hkl.out]; omega)⟩
        obtain ⟨g, eg, -, hc2, ⟨k2, x2, s2, an2, ln2, cn2, ai2, li2, ci2, hf2⟩, hv2⟩ := hK1.out.item hd.out
        subst eg
        rw [hf2] at hc2 hv2
        clear hf2
        obtain ⟨z0, z1, z2, z3, z4⟩ := cells5 hc2
        clear hc2
        have hdq := hid_e (treesE_at hd.out)
        obtain ⟨C, hC⟩ : ∃ C, Hid (cmpT d.t e.t = C) := ⟨_, rfl⟩
        have call := hid_e (fun W (hW : Below W1.heap.size W1 W) => compare_any d.t e.t (five k2 x2 s2 (.slice an2 ln2 cn2) (.slice ai2 li2 ci2)) (five k1 x1 s1 (.slice an1 ln1 cn1) (.slice ai1 li1 ci1)) W (VRep.keep (hW0.out.trans ((hb1.out.trans (hW.mono hb1.out.size)).mono hW0.out.size)) _ _ hv2) (VRep.keep (hW0.out.trans ((hb1.out.trans (hW.mono hb1.out.size)).mono hW0.out.size)) _ _ hv0.out) (small_below _ (hkS.out d (List.mem_of_getElem? hd.out))) (small_below _ hSe.out))
        rw [hC.out] at call
        clear hv2
        by_cases hC0 : C = 0
        · skip
          subst hC0
          refine wp_region_quiet (C := fun w' => Below W1.heap.size W1 w') (by kernel_rfl) (by kernel_rfl) (below_drewN (Below.refl _ _) 1) ?_
          with_reducible refine wpQuiet_step (fun K hK => ?_)
          refine ⟨.int .i64 al, fun w' hw' => ?_, ?_⟩
          · first | (go_simp; done) | (go_simp; decide) | (go_simp; omega)
          with_reducible refine hK _ ?_
          clear hK K
          simp only [Act.put, List.setIfInBounds_toArray, List.set_cons_zero, List.set_cons_succ]
          with_reducible refine wpQuiet_step (fun K hK => ?_)
          refine ⟨.slice (some ⟨g, 0, none⟩) m co, fun w' hw' => ?_, ?_⟩
          · first | (go_simp; done) | (go_simp; decide) | (go_simp; omega)
          with_reducible refine hK _ ?_
          clear hK K
          simp only [Act.put, List.setIfInBounds_toArray, List.set_cons_zero, List.set_cons_succ]
          with_reducible refine wpQuiet_step (fun K hK => ?_)
          refine ⟨.int .i64 m, fun w' hw' => ?_, ?_⟩
          · first | (go_simp; done) | (go_simp; decide) | (go_simp; omega)
          with_reducible refine hK _ ?_
          clear hK K
          simp only [Act.put, List.setIfInBounds_toArray, List.set_cons_zero, List.set_cons_succ]
          with_reducible refine wpQuiet_step (fun K hK => ?_)
          refine ⟨.bool true, fun w' hw' => ?_, ?_⟩
          · first | (go_simp; done) | (go_simp; decide) | (go_simp; omega)
          with_reducible refine hK _ ?_
          clear hK K
          simp only [Act.put, List.setIfInBounds_toArray, List.set_cons_zero, List.set_cons_succ]
          with_reducible refine wpQuiet_step (fun K hK => ?_)
          refine ⟨.bool true, fun w' hw' => ?_, ?_⟩
          · first | (go_simp; done) | (go_simp; decide) | (go_simp; omega)
          with_reducible refine hK _ ?_
          clear hK K
          simp only [Act.put, List.setIfInBounds_toArray, List.set_cons_zero, List.set_cons_succ]
          with_reducible refine wpQuiet_step (fun K hK => ?_)
          refine k_quiet_if (by kernel_rfl) ?_
          refine ⟨.slice (some ⟨g, 0, none⟩) m co, fun w' hw' => ?_, ?_⟩
          · first | (go_simp; done) | (go_simp; decide) | (go_simp; omega)
          with_reducible refine hK _ ?_
          clear hK K
          simp only [Act.put, List.setIfInBounds_toArray, List.set_cons_zero, List.set_cons_succ]
          with_reducible refine wpQuiet_step (fun K hK => ?_)
          refine k_quiet_if (by kernel_rfl) ?_
          refine ⟨.int .i64 al, fun w' hw' => ?_, ?_⟩
          · first | (go_simp; done) | (go_simp; decide) | (go_simp; omega)
          with_reducible refine hK _ ?_
          clear hK K
          simp only [Act.put, List.setIfInBounds_toArray, List.set_cons_zero, List.set_cons_succ]
          with_reducible refine wpQuiet_step (fun K hK => ?_)
          refine k_quiet_if (by kernel_rfl) ?_
          refine ⟨.pointer (some ⟨g, al * 5, none⟩), fun w' hw' => ?_, ?_⟩
          · first | (go_simp; done) | (go_simp; decide) | (go_simp; omega)
          with_reducible refine hK _ ?_
          clear hK K
          simp only [Act.put, List.setIfInBounds_toArray, List.set_cons_zero, List.set_cons_succ]
          with_reducible refine wpQuiet_step (fun K hK => ?_)
          refine k_quiet_if (by kernel_rfl) ?_
          refine ⟨.agg #[.int .i64 k2, .int .i64 x2, .string s2, .slice an2 ln2 cn2, .slice ai2 li2 ci2], fun w' hw' => ?_, ?_⟩
          · have t0 := stay hw' z0; have t1 := stay hw' z1; have t2 := stay hw' z2; have t3 := stay hw' z3; have t4 := stay hw' z4; go_simp
          with_reducible refine hK _ ?_
          clear hK K
          simp only [Act.put, List.setIfInBounds_toArray, List.set_cons_zero, List.set_cons_succ]
          with_reducible refine wpQuiet_step (fun K hK => ?_)
          refine k_quiet_if (by kernel_rfl) ?_
          refine ⟨.agg #[.int .i64 k1, .int .i64 x1, .string s1, .slice an1 ln1 cn1, .slice ai1 li1 ci1], fun w' hw' => ?_, ?_⟩
          · have t0 := stay hw' p0; have t1 := stay hw' p1; have t2 := stay hw' p2; have t3 := stay hw' p3; have t4 := stay hw' p4; go_simp
          with_reducible refine hK _ ?_
          clear hK K
          simp only [Act.put, List.setIfInBounds_toArray, List.set_cons_zero, List.set_cons_succ]
          with_reducible refine wpQuiet_step (fun K hK => ?_)
          refine k_quiet_if (by kernel_rfl) ?_
          refine ⟨.int .i64 0, fun w' hw' => ?_, ?_⟩
          · go_simp
            refine (call.out w' hw').mono ?_
            rintro e w'' ⟨rfl, hb'⟩
            exact ⟨rfl, hw'.trans (hb'.mono hw'.size)⟩
          with_reducible refine hK _ ?_
          clear hK K
          simp only [Act.put, List.setIfInBounds_toArray, List.set_cons_zero, List.set_cons_succ]
          with_reducible refine wpQuiet_step (fun K hK => ?_)
          refine k_quiet_if (by kernel_rfl) ?_
          refine ⟨.bool false, fun w' hw' => ?_, ?_⟩
          · first | (go_simp; done) | (go_simp; decide) | (go_simp; omega)
          with_reducible refine hK _ ?_
          clear hK K
          simp only [Act.put, List.setIfInBounds_toArray, List.set_cons_zero, List.set_cons_succ]
          with_reducible refine wpQuiet_step (fun K hK => ?_)
          refine ⟨.bool false, fun w' hw' => ?_, ?_⟩
          · first | (go_simp; done) | (go_simp; decide) | (go_simp; omega)
          with_reducible refine hK _ ?_
          clear hK K
          simp only [Act.put, List.setIfInBounds_toArray, List.set_cons_zero, List.set_cons_succ]
          refine wpQuiet_nil ?_
          intro X hX
          clear call z0 z1 z2 z3 z4
          have hbX := hid_e (hb1.out.trans (hX.mono hb1.out.size))
          have hKX := hid_e (hK1.out.keep hX)
          have hpX := hid_e (block_keep hp1.out hX)
          have hWX : Hid (Below W0.heap.size W0 X) := hW0.out.trans (hbX.out.mono hW0.out.size)
          have hvX := hid_e (VRep.keep hWX.out _ _ hv0.out)
          clear hX hb1 hK1 hp1 p0 p1 p2 p3 p4
          have hcap := hKX.out.cap
          have hac : (al : Int) < (co : Int) := by omega
          have hac2 : al < co := by omega
          have hac3 : ¬ (co = al) := by omega
          have hdl : Hid (((treesE ks).drop al).length = m - al) := by rw [List.length_drop, treesE_len, hkl.out]; exact hid_e rfl
          have call := hid_e (vcontains_any ((treesE ks).drop al) e.t k1 x1 s1 an1 ln1 cn1 ai1 li1 ci1 _ _ (m - al) pb W0 X hWX.out hdl.out (by omega) (hKX.out.drop hkl.out hcap) (small_drop (smallE hkS.out)) hpX.out hvX.out)
          obtain ⟨Z, hZ⟩ : ∃ Z, Hid (hasV ((treesE ks).drop al) e.t = Z) := ⟨_, rfl⟩
          rw [hZ.out] at call
          have hui := hid_e (hU.out.same hvq.out hdq.out hC.out)
          go_wp2_with fail
          refine call.out.mono ?_
          rintro e_ Y ⟨rfl, hy⟩
          have hbY := hid_e (hbX.out.trans (hy.mono hbX.out.size))
          have hKY := hid_e (hKX.out.keep hy)
          have hpY := hid_e (block_keep hpX.out hy)
          clear call hy hbX hKX hpX hWX hvX
          cases Z with
          | true =>
            have hin : e.t ∈ treesE ks := (hU.out.has hvq.out).1 (hasV_iff.1 hZ.out)
            rw [unlT_in hin] at hui
            clear hin
            go_wp2_with fail
            exact ⟨⟨q + 1, m, al, some ⟨g, 0, none⟩, co, ks, rfl, rfl, by go_num, by omega, by omega, by omega, hkl, hKY, hui, hkS, (fun h => by omega), hbY⟩, by simp [intOf]; omega⟩
          | false =>
            have hout : e.t ∉ treesE ks := fun h => by have := hasV_iff.2 ((hU.out.has hvq.out).2 h); rw [hZ.out] at this; cases this
            rw [unlT_out hout] at hui
            have hui0 := hui
            clear hout hui
            obtain ⟨y0, y1, y2, y3, y4, -⟩ := row_cells hpY.out
            have hrow2 : Hid ((Y.alloc (.cells #[.int .i64 k1, .int .i64 x1, .string s1, .slice an1 ln1 cn1, .slice ai1 li1 ci1] 25)).ownsRow w.heap.size 25 5 (.slice (some ⟨g, 0, none⟩) m co) m (cellsE ks)) := by have h := hKY.out.row; rw [hkl.out] at h; exact h.alloc _
            have hbb : Hid (w.heap.size ≤ (Y.alloc (.cells #[.int .i64 k1, .int .i64 x1, .string s1, .slice an1 ln1 cn1, .slice ai1 li1 ci1] 25)).heap.size) := by rw [World.size_alloc]; show _ ≤ _; have := hbY.out.size; omega
            have hui : Hid (UI (treesE es) (q + 1) (treesE (ks ++ [e])) al) := by rw [treesE_app]; exact hui0.out
            go_wp2_with (at_builtin; refine wpList_append_lies _ rfl _ _ 23 rfl w.heap.size 25 i5 _ 5 80 Tryz.underlying23 hi hz0 hz1 hz2 rfl (by decide) (.slice (some ⟨g, 0, none⟩) m co) m (cellsE ks) rfl hrow2.out _ 1 1 [.int .i64 k1, .int .i64 x1, .string s1, .slice an1 ln1 cn1, .slice ai1 li1 ci1] rfl rfl (World.news_of_block (heap_alloc_new Y _)) (five_one _ _ _ _ _ _ _ _ _) (by decide) (by unfold maxLen; omega) (by omega) hbb.out _ rfl ?_; intro g4 c4 w4 hown4 hgrow4 hat4 hlt4)
            have hK4 : Hid (LIn W0 w.heap.size w4 (.slice (some ⟨g4, 0, none⟩) (m + 1) c4) (ks ++ [e])) := LIn.app hkl.out hKY.out.fives hKY.out.reads ⟨_, _, _, _, _, _, _, _, _, hF1.out⟩ (by rw [hF1.out]; exact hv0.out) (by rw [hF1.out]; exact hown4)
            have hb4 : Hid (Below w.heap.size w w4) := (hbY.out.alloc hbY.out.size _).trans (grown_below hgrow4 hbb.out (fun g hg => (ownsRow_ge hKY.out.row hg).1))
            have hkS4 : Hid (∀ k ∈ ks ++ [e], SmallT k.t) := fun k hk => by rcases List.mem_append.1 hk with h | h; exact hkS.out k h; rw [List.mem_singleton.1 h]; exact hSe.out
            exact ⟨⟨q + 1, m + 1, al, _, _, ks ++ [e], rfl, rfl, by go_num, by omega, by omega, by omega, by show _ = _; rw [List.length_append, hkl.out]; rfl, hK4, hui, hkS4, (fun h => by omega), hb4⟩, by simp [intOf]; omega⟩
        · skip
          have hCb : (C != 0) = true := by simpa using hC0
          refine wp_region_quiet (C := fun w' => Below W1.heap.size W1 w') (by kernel_rfl) (by kernel_rfl) (below_drewN (Below.refl _ _) 1) ?_
          with_reducible refine wpQuiet_step (fun K hK => ?_)
          refine ⟨.int .i64 al, fun w' hw' => ?_, ?_⟩
          · first | (go_simp; done) | (go_simp; decide) | (go_simp; omega)
          with_reducible refine hK _ ?_
          clear hK K
          simp only [Act.put, List.setIfInBounds_toArray, List.set_cons_zero, List.set_cons_succ]
          with_reducible refine wpQuiet_step (fun K hK => ?_)
          refine ⟨.slice (some ⟨g, 0, none⟩) m co, fun w' hw' => ?_, ?_⟩
          · first | (go_simp; done) | (go_simp; decide) | (go_simp; omega)
          with_reducible refine hK _ ?_
          clear hK K
          simp only [Act.put, List.setIfInBounds_toArray, List.set_cons_zero, List.set_cons_succ]
          with_reducible refine wpQuiet_step (fun K hK => ?_)
          refine ⟨.int .i64 m, fun w' hw' => ?_, ?_⟩
          · first | (go_simp; done) | (go_simp; decide) | (go_simp; omega)
          with_reducible refine hK _ ?_
          clear hK K
          simp only [Act.put, List.setIfInBounds_toArray, List.set_cons_zero, List.set_cons_succ]
          with_reducible refine wpQuiet_step (fun K hK => ?_)
          refine ⟨.bool true, fun w' hw' => ?_, ?_⟩
          · first | (go_simp; done) | (go_simp; decide) | (go_simp; omega)
          with_reducible refine hK _ ?_
          clear hK K
          simp only [Act.put, List.setIfInBounds_toArray, List.set_cons_zero, List.set_cons_succ]
          with_reducible refine wpQuiet_step (fun K hK => ?_)
          refine ⟨.bool true, fun w' hw' => ?_, ?_⟩
          · first | (go_simp; done) | (go_simp; decide) | (go_simp; omega)
          with_reducible refine hK _ ?_
          clear hK K
          simp only [Act.put, List.setIfInBounds_toArray, List.set_cons_zero, List.set_cons_succ]
          with_reducible refine wpQuiet_step (fun K hK => ?_)
          refine k_quiet_if (by kernel_rfl) ?_
          refine ⟨.slice (some ⟨g, 0, none⟩) m co, fun w' hw' => ?_, ?_⟩
          · first | (go_simp; done) | (go_simp; decide) | (go_simp; omega)
          with_reducible refine hK _ ?_
          clear hK K
          simp only [Act.put, List.setIfInBounds_toArray, List.set_cons_zero, List.set_cons_succ]
          with_reducible refine wpQuiet_step (fun K hK => ?_)
          refine k_quiet_if (by kernel_rfl) ?_
          refine ⟨.int .i64 al, fun w' hw' => ?_, ?_⟩
          · first | (go_simp; done) | (go_simp; decide) | (go_simp; omega)
          with_reducible refine hK _ ?_
          clear hK K
          simp only [Act.put, List.setIfInBounds_toArray, List.set_cons_zero, List.set_cons_succ]
          with_reducible refine wpQuiet_step (fun K hK => ?_)
          refine k_quiet_if (by kernel_rfl) ?_
          refine ⟨.pointer (some ⟨g, al * 5, none⟩), fun w' hw' => ?_, ?_⟩
          · first | (go_simp; done) | (go_simp; decide) | (go_simp; omega)
          with_reducible refine hK _ ?_
          clear hK K
          simp only [Act.put, List.setIfInBounds_toArray, List.set_cons_zero, List.set_cons_succ]
          with_reducible refine wpQuiet_step (fun K hK => ?_)
          refine k_quiet_if (by kernel_rfl) ?_
          refine ⟨.agg #[.int .i64 k2, .int .i64 x2, .string s2, .slice an2 ln2 cn2, .slice ai2 li2 ci2], fun w' hw' => ?_, ?_⟩
          · have t0 := stay hw' z0; have t1 := stay hw' z1; have t2 := stay hw' z2; have t3 := stay hw' z3; have t4 := stay hw' z4; go_simp
          with_reducible refine hK _ ?_
          clear hK K
          simp only [Act.put, List.setIfInBounds_toArray, List.set_cons_zero, List.set_cons_succ]
          with_reducible refine wpQuiet_step (fun K hK => ?_)
          refine k_quiet_if (by kernel_rfl) ?_
          refine ⟨.agg #[.int .i64 k1, .int .i64 x1, .string s1, .slice an1 ln1 cn1, .slice ai1 li1 ci1], fun w' hw' => ?_, ?_⟩
          · have t0 := stay hw' p0; have t1 := stay hw' p1; have t2 := stay hw' p2; have t3 := stay hw' p3; have t4 := stay hw' p4; go_simp
          with_reducible refine hK _ ?_
          clear hK K
          simp only [Act.put, List.setIfInBounds_toArray, List.set_cons_zero, List.set_cons_succ]
          with_reducible refine wpQuiet_step (fun K hK => ?_)
          refine k_quiet_if (by kernel_rfl) ?_
          refine ⟨.int .i64 C, fun w' hw' => ?_, ?_⟩
          · go_simp
            refine (call.out w' hw').mono ?_
            rintro e w'' ⟨rfl, hb'⟩
            exact ⟨rfl, hw'.trans (hb'.mono hw'.size)⟩
          with_reducible refine hK _ ?_
          clear hK K
          simp only [Act.put, List.setIfInBounds_toArray, List.set_cons_zero, List.set_cons_succ]
          with_reducible refine wpQuiet_step (fun K hK => ?_)
          refine k_quiet_if (by kernel_rfl) ?_
          refine ⟨.bool true, fun w' hw' => ?_, ?_⟩
          · first | (go_simp; done) | (go_simp; decide) | (go_simp; omega)
          with_reducible refine hK _ ?_
          clear hK K
          simp only [Act.put, List.setIfInBounds_toArray, List.set_cons_zero, List.set_cons_succ]
          with_reducible refine wpQuiet_step (fun K hK => ?_)
          refine ⟨.bool true, fun w' hw' => ?_, ?_⟩
          · first | (go_simp; done) | (go_simp; decide) | (go_simp; omega)
          with_reducible refine hK _ ?_
          clear hK K
          simp only [Act.put, List.setIfInBounds_toArray, List.set_cons_zero, List.set_cons_succ]
          refine wpQuiet_nil ?_
          intro X hX
          clear call z0 z1 z2 z3 z4
          have hbX := hid_e (hb1.out.trans (hX.mono hb1.out.size))
          have hKX := hid_e (hK1.out.keep hX)
          have hpX := hid_e (block_keep hp1.out hX)
          have hWX : Hid (Below W0.heap.size W0 X) := hW0.out.trans (hbX.out.mono hW0.out.size)
          have hvX := hid_e (VRep.keep hWX.out _ _ hv0.out)
          clear hX hb1 hK1 hp1 p0 p1 p2 p3 p4
          have hsub : Hid (∀ x ∈ treesE ks, ∀ (r : Nat) (u : Tr), q ≤ r → (treesE es)[r]? = some u → x ≠ u) := hU.out.apart hup.out hvq.out hdq.out (by rw [hC.out]; exact hC0)
          skip
          have hcap := hKX.out.cap
          by_cases hmc : co = m
          · skip
            subst hmc
            have call := hid_e (vcontains_any [] e.t k1 x1 s1 an1 ln1 cn1 ai1 li1 ci1 _ _ 0 pb W0 X hWX.out rfl (by omega) (nil_in _ _ (some ⟨g, 0, none⟩) 0 (by omega)) (by unfold SmallL; trivial) hpX.out hvX.out)
            go_wp2_with fail
            refine call.out.mono ?_
            rintro e_ Y ⟨rfl, hy⟩
            rw [show hasV [] e.t = false from rfl]
            have hbY := hid_e (hbX.out.trans (hy.mono hbX.out.size))
            have hKY := hid_e (hKX.out.keep hy)
            have hpY := hid_e (block_keep hpX.out hy)
            clear call hy hbX hKX hpX hWX hvX
            obtain ⟨y0, y1, y2, y3, y4, -⟩ := row_cells hpY.out
            have hrow2 : Hid ((Y.alloc (.cells #[.int .i64 k1, .int .i64 x1, .string s1, .slice an1 ln1 cn1, .slice ai1 li1 ci1] 25)).ownsRow w.heap.size 25 5 (.slice (some ⟨g, 0, none⟩) co co) co (cellsE ks)) := by have h := hKY.out.row; rw [hkl.out] at h; exact h.alloc _
            have hbb : Hid (w.heap.size ≤ (Y.alloc (.cells #[.int .i64 k1, .int .i64 x1, .string s1, .slice an1 ln1 cn1, .slice ai1 li1 ci1] 25)).heap.size) := by rw [World.size_alloc]; show _ ≤ _; have := hbY.out.size; omega
            have hui : Hid (UI (treesE es) (q + 1) (treesE (ks ++ [e])) co) := by rw [treesE_app, show co = (treesE ks).length by rw [treesE_len, hkl.out]]; exact hU.out.add hvq.out hsub.out
            go_wp2_with (at_builtin; refine wpList_append_lies _ rfl _ _ 23 rfl w.heap.size 25 i5 _ 5 80 Tryz.underlying23 hi hz0 hz1 hz2 rfl (by decide) (.slice (some ⟨g, 0, none⟩) co co) co (cellsE ks) rfl hrow2.out _ 1 1 [.int .i64 k1, .int .i64 x1, .string s1, .slice an1 ln1 cn1, .slice ai1 li1 ci1] rfl rfl (World.news_of_block (heap_alloc_new Y _)) (five_one _ _ _ _ _ _ _ _ _) (by decide) (by unfold maxLen; omega) (by omega) hbb.out _ rfl ?_; intro g4 c4 w4 hown4 hgrow4 hat4 hlt4)
            have hK4 : Hid (LIn W0 w.heap.size w4 (.slice (some ⟨g4, 0, none⟩) (co + 1) c4) (ks ++ [e])) := LIn.app hkl.out hKY.out.fives hKY.out.reads ⟨_, _, _, _, _, _, _, _, _, hF1.out⟩ (by rw [hF1.out]; exact hv0.out) (by rw [hF1.out]; exact hown4)
            have hb4 : Hid (Below w.heap.size w w4) := (hbY.out.alloc hbY.out.size _).trans (grown_below hgrow4 hbb.out (fun g hg => (ownsRow_ge hKY.out.row hg).1))
            have hkS4 : Hid (∀ k ∈ ks ++ [e], SmallT k.t) := fun k hk => by rcases List.mem_append.1 hk with h | h; exact hkS.out k h; rw [List.mem_singleton.1 h]; exact hSe.out
            exact ⟨⟨q + 1, co + 1, co, _, _, ks ++ [e], rfl, rfl, by go_num, by omega, by omega, by omega, by show _ = _; rw [List.length_append, hkl.out]; rfl, hK4, hui, hkS4, (fun h => by omega), hb4⟩, by simp [intOf]; omega⟩
          have hmc1 : (m : Int) < (co : Int) := by omega
          have hmc2 : m < co := by omega
          have call := hid_e (vcontains_any [] e.t k1 x1 s1 an1 ln1 cn1 ai1 li1 ci1 _ _ 0 pb W0 X hWX.out rfl (by omega) (nil_in _ _ (some ⟨g, m * 5, none⟩) (co - m) (by omega)) (by unfold SmallL; trivial) hpX.out hvX.out)
          go_wp2_with fail
          refine call.out.mono ?_
          rintro e_ Y ⟨rfl, hy⟩
          rw [show hasV [] e.t = false from rfl]
          have hbY := hid_e (hbX.out.trans (hy.mono hbX.out.size))
          have hKY := hid_e (hKX.out.keep hy)
          have hpY := hid_e (block_keep hpX.out hy)
          clear call hy hbX hKX hpX hWX hvX
          obtain ⟨y0, y1, y2, y3, y4, -⟩ := row_cells hpY.out
          have hrow2 : Hid ((Y.alloc (.cells #[.int .i64 k1, .int .i64 x1, .string s1, .slice an1 ln1 cn1, .slice ai1 li1 ci1] 25)).ownsRow w.heap.size 25 5 (.slice (some ⟨g, 0, none⟩) m co) m (cellsE ks)) := by have h := hKY.out.row; rw [hkl.out] at h; exact h.alloc _
          have hbb : Hid (w.heap.size ≤ (Y.alloc (.cells #[.int .i64 k1, .int .i64 x1, .string s1, .slice an1 ln1 cn1, .slice ai1 li1 ci1] 25)).heap.size) := by rw [World.size_alloc]; show _ ≤ _; have := hbY.out.size; omega
          have hui : Hid (UI (treesE es) (q + 1) (treesE (ks ++ [e])) m) := by rw [treesE_app, show m = (treesE ks).length by rw [treesE_len, hkl.out]]; exact hU.out.add hvq.out hsub.out
          go_wp2_with (at_builtin; refine wpList_append_lies _ rfl _ _ 23 rfl w.heap.size 25 i5 _ 5 80 Tryz.underlying23 hi hz0 hz1 hz2 rfl (by decide) (.slice (some ⟨g, 0, none⟩) m co) m (cellsE ks) rfl hrow2.out _ 1 1 [.int .i64 k1, .int .i64 x1, .string s1, .slice an1 ln1 cn1, .slice ai1 li1 ci1] rfl rfl (World.news_of_block (heap_alloc_new Y _)) (five_one _ _ _ _ _ _ _ _ _) (by decide) (by unfold maxLen; omega) (by omega) hbb.out _ rfl ?_; intro g4 c4 w4 hown4 hgrow4 hat4 hlt4)
          have hK4 : Hid (LIn W0 w.heap.size w4 (.slice (some ⟨g4, 0, none⟩) (m + 1) c4) (ks ++ [e])) := LIn.app hkl.out hKY.out.fives hKY.out.reads ⟨_, _, _, _, _, _, _, _, _, hF1.out⟩ (by rw [hF1.out]; exact hv0.out) (by rw [hF1.out]; exact hown4)
          have hb4 : Hid (Below w.heap.size w w4) := (hbY.out.alloc hbY.out.size _).trans (grown_below hgrow4 hbb.out (fun g hg => (ownsRow_ge hKY.out.row hg).1))
          have hkS4 : Hid (∀ k ∈ ks ++ [e], SmallT k.t) := fun k hk => by rcases List.mem_append.1 hk with h | h; exact hkS.out k h; rw [List.mem_singleton.1 h]; exact hSe.out
          exact ⟨⟨q + 1, m + 1, m, _, _, ks ++ [e], rfl, rfl, by go_num, by omega, by omega, by omega, by show _ = _; rw [List.length_append, hkl.out]; rfl, hK4, hui, hkS4, (fun h => by omega), hb4⟩, by simp [intOf]; omega⟩
      · skip
        obtain rfl : al = m := by omega
        obtain ⟨m, hmm⟩ : ∃ m, m = al := ⟨_, rfl⟩
        subst hmm
        have al1 : ¬ (m : Int) < (m : Int) := by omega
        refine wp_region_quiet (C := fun w' => Below W1.heap.size W1 w') (by kernel_rfl) (by kernel_rfl) (below_drewN (Below.refl _ _) 1) ?_
        with_reducible refine wpQuiet_step (fun K hK => ?_)
        refine ⟨.int .i64 m, fun w' hw' => ?_, ?_⟩
        · first | (go_simp; done) | (go_simp; decide) | (go_simp; omega)
        with_reducible refine hK _ ?_
        clear hK K
        simp only [Act.put, List.setIfInBounds_toArray, List.set_cons_zero, List.set_cons_succ]
        with_reducible refine wpQuiet_step (fun K hK => ?_)
        refine ⟨.slice ao m co, fun w' hw' => ?_, ?_⟩
        · first | (go_simp; done) | (go_simp; decide) | (go_simp; omega)
        with_reducible refine hK _ ?_
        clear hK K
        simp only [Act.put, List.setIfInBounds_toArray, List.set_cons_zero, List.set_cons_succ]
        with_reducible refine wpQuiet_step (fun K hK => ?_)
        refine ⟨.int .i64 m, fun w' hw' => ?_, ?_⟩
        · first | (go_simp; done) | (go_simp; decide) | (go_simp; omega)
        with_reducible refine hK _ ?_
        clear hK K
        simp only [Act.put, List.setIfInBounds_toArray, List.set_cons_zero, List.set_cons_succ]
        with_reducible refine wpQuiet_step (fun K hK => ?_)
        refine ⟨.bool false, fun w' hw' => ?_, ?_⟩
        · first | (go_simp; done) | (go_simp; decide) | (go_simp; omega)
        with_reducible refine hK _ ?_
        clear hK K
        simp only [Act.put, List.setIfInBounds_toArray, List.set_cons_zero, List.set_cons_succ]
        with_reducible refine wpQuiet_step (fun K hK => ?_)
        refine ⟨.bool false, fun w' hw' => ?_, ?_⟩
        · first | (go_simp; done) | (go_simp; decide) | (go_simp; omega)
        with_reducible refine hK _ ?_
        clear hK K
        simp only [Act.put, List.setIfInBounds_toArray, List.set_cons_zero, List.set_cons_succ]
        with_reducible refine wpQuiet_step (fun K hK => ?_)
        refine k_quiet_else (by kernel_rfl) ?_
        with_reducible refine hK _ ?_
        clear hK K
        simp only [Act.put, List.setIfInBounds_toArray, List.set_cons_zero, List.set_cons_succ]
        with_reducible refine wpQuiet_step (fun K hK => ?_)
        refine k_quiet_else (by kernel_rfl) ?_
        with_reducible refine hK _ ?_
        clear hK K
        simp only [Act.put, List.setIfInBounds_toArray, List.set_cons_zero, List.set_cons_succ]
        with_reducible refine wpQuiet_step (fun K hK => ?_)
        refine k_quiet_else (by kernel_rfl) ?_
        with_reducible refine hK _ ?_
        clear hK K
        simp only [Act.put, List.setIfInBounds_toArray, List.set_cons_zero, List.set_cons_succ]
        with_reducible refine wpQuiet_step (fun K hK => ?_)
        refine k_quiet_else (by kernel_rfl) ?_
        with_reducible refine hK _ ?_
        clear hK K
        simp only [Act.put, List.setIfInBounds_toArray, List.set_cons_zero, List.set_cons_succ]
        with_reducible refine wpQuiet_step (fun K hK => ?_)
        refine k_quiet_else (by kernel_rfl) ?_
        with_reducible refine hK _ ?_
        clear hK K
        simp only [Act.put, List.setIfInBounds_toArray, List.set_cons_zero, List.set_cons_succ]
        with_reducible refine wpQuiet_step (fun K hK => ?_)
        refine k_quiet_else (by kernel_rfl) ?_
        with_reducible refine hK _ ?_
        clear hK K
        simp only [Act.put, List.setIfInBounds_toArray, List.set_cons_zero, List.set_cons_succ]
        with_reducible refine wpQuiet_step (fun K hK => ?_)
        refine k_quiet_else (by kernel_rfl) ?_
        with_reducible refine hK _ ?_
        clear hK K
        simp only [Act.put, List.setIfInBounds_toArray, List.set_cons_zero, List.set_cons_succ]
        with_reducible refine wpQuiet_step (fun K hK => ?_)
        refine ⟨.bool false, fun w' hw' => ?_, ?_⟩
        · first | (go_simp; done) | (go_simp; decide) | (go_simp; omega)
        with_reducible refine hK _ ?_
        clear hK K
        simp only [Act.put, List.setIfInBounds_toArray, List.set_cons_zero, List.set_cons_succ]
        refine wpQuiet_nil ?_
        intro X hX
        have hbX := hid_e (hb1.out.trans (hX.mono hb1.out.size))
        have hKX := hid_e (hK1.out.keep hX)
        have hpX := hid_e (block_keep hp1.out hX)
        have hWX : Hid (Below W0.heap.size W0 X) := hW0.out.trans (hbX.out.mono hW0.out.size)
        have hvX := hid_e (VRep.keep hWX.out _ _ hv0.out)
        clear hX hb1 hK1 hp1 p0 p1 p2 p3 p4
        have hsub : Hid (∀ x ∈ treesE ks, ∀ (r : Nat) (u : Tr), q ≤ r → (treesE es)[r]? = some u → x ≠ u) := hU.out.full (by rw [treesE_len, hkl.out])
        by_cases hmz : m = 0
        · skip
          obtain ⟨rfl, rfl⟩ := hm0.out hmz
          subst hmz
          have call := hid_e (vcontains_any [] e.t k1 x1 s1 an1 ln1 cn1 ai1 li1 ci1 none 0 0 pb W0 X hWX.out rfl (by omega) (nil_in _ _ _ _ (by omega)) (by unfold SmallL; trivial) hpX.out hvX.out)
          go_wp2_with fail
          refine call.out.mono ?_
          rintro e_ Y ⟨rfl, hy⟩
          rw [show hasV [] e.t = false from rfl]
          have hbY := hid_e (hbX.out.trans (hy.mono hbX.out.size))
          have hKY := hid_e (hKX.out.keep hy)
          have hpY := hid_e (block_keep hpX.out hy)
          clear call hy hbX hKX hpX hWX hvX
          obtain ⟨y0, y1, y2, y3, y4, -⟩ := row_cells hpY.out
          have hrow2 : Hid ((Y.alloc (.cells #[.int .i64 k1, .int .i64 x1, .string s1, .slice an1 ln1 cn1, .slice ai1 li1 ci1] 25)).ownsRow w.heap.size 25 5 (.slice none 0 0) 0 (cellsE ks)) := by have h := hKY.out.row; rw [hkl.out] at h; exact h.alloc _
          have hbb : Hid (w.heap.size ≤ (Y.alloc (.cells #[.int .i64 k1, .int .i64 x1, .string s1, .slice an1 ln1 cn1, .slice ai1 li1 ci1] 25)).heap.size) := by rw [World.size_alloc]; show _ ≤ _; have := hbY.out.size; omega
          have hui : Hid (UI (treesE es) (q + 1) (treesE (ks ++ [e])) 0) := by rw [treesE_app, show 0 = (treesE ks).length by rw [treesE_len, hkl.out]]; exact hU.out.add hvq.out hsub.out
          go_wp2_with (at_builtin; refine wpList_append_lies _ rfl _ _ 23 rfl w.heap.size 25 i5 _ 5 80 Tryz.underlying23 hi hz0 hz1 hz2 rfl (by decide) (.slice none 0 0) 0 (cellsE ks) rfl hrow2.out _ 1 1 [.int .i64 k1, .int .i64 x1, .string s1, .slice an1 ln1 cn1, .slice ai1 li1 ci1] rfl rfl (World.news_of_block (heap_alloc_new Y _)) (five_one _ _ _ _ _ _ _ _ _) (by decide) (by unfold maxLen; omega) (by omega) hbb.out _ rfl ?_; intro g4 c4 w4 hown4 hgrow4 hat4 hlt4)
          have hK4 : Hid (LIn W0 w.heap.size w4 (.slice (some ⟨g4, 0, none⟩) (0 + 1) c4) (ks ++ [e])) := LIn.app hkl.out hKY.out.fives hKY.out.reads ⟨_, _, _, _, _, _, _, _, _, hF1.out⟩ (by rw [hF1.out]; exact hv0.out) (by rw [hF1.out]; exact hown4)
          have hb4 : Hid (Below w.heap.size w w4) := (hbY.out.alloc hbY.out.size _).trans (grown_below hgrow4 hbb.out (fun g hg => (ownsRow_ge hKY.out.row hg).1))
          have hkS4 : Hid (∀ k ∈ ks ++ [e], SmallT k.t) := fun k hk => by rcases List.mem_append.1 hk with h | h; exact hkS.out k h; rw [List.mem_singleton.1 h]; exact hSe.out
          exact ⟨⟨q + 1, 0 + 1, 0, _, _, ks ++ [e], rfl, rfl, by go_num, by omega, by omega, by omega, by show _ = _; rw [List.length_append, hkl.out]; rfl, hK4, hui, hkS4, (fun h => by omega), hb4⟩, by simp [intOf]; omega⟩
        obtain ⟨g, eg⟩ := hKX.out.addr hkl.out (by omega)
        subst eg
        have hcap := hKX.out.cap
        by_cases hmc : co = m
        · skip
          subst hmc
          have call := hid_e (vcontains_any [] e.t k1 x1 s1 an1 ln1 cn1 ai1 li1 ci1 _ _ 0 pb W0 X hWX.out rfl (by omega) (nil_in _ _ (some ⟨g, 0, none⟩) 0 (by omega)) (by unfold SmallL; trivial) hpX.out hvX.out)
          go_wp2_with fail
          refine call.out.mono ?_
          rintro e_ Y ⟨rfl, hy⟩
          rw [show hasV [] e.t = false from rfl]
          have hbY := hid_e (hbX.out.trans (hy.mono hbX.out.size))
          have hKY := hid_e (hKX.out.keep hy)
          have hpY := hid_e (block_keep hpX.out hy)
          clear call hy hbX hKX hpX hWX hvX
          obtain ⟨y0, y1, y2, y3, y4, -⟩ := row_cells hpY.out
          have hrow2 : Hid ((Y.alloc (.cells #[.int .i64 k1, .int .i64 x1, .string s1, .slice an1 ln1 cn1, .slice ai1 li1 ci1] 25)).ownsRow w.heap.size 25 5 (.slice (some ⟨g, 0, none⟩) co co) co (cellsE ks)) := by have h := hKY.out.row; rw [hkl.out] at h; exact h.alloc _
          have hbb : Hid (w.heap.size ≤ (Y.alloc (.cells #[.int .i64 k1, .int .i64 x1, .string s1, .slice an1 ln1 cn1, .slice ai1 li1 ci1] 25)).heap.size) := by rw [World.size_alloc]; show _ ≤ _; have := hbY.out.size; omega
          have hui : Hid (UI (treesE es) (q + 1) (treesE (ks ++ [e])) co) := by rw [treesE_app, show co = (treesE ks).length by rw [treesE_len, hkl.out]]; exact hU.out.add hvq.out hsub.out
          go_wp2_with (at_builtin; refine wpList_append_lies _ rfl _ _ 23 rfl w.heap.size 25 i5 _ 5 80 Tryz.underlying23 hi hz0 hz1 hz2 rfl (by decide) (.slice (some ⟨g, 0, none⟩) co co) co (cellsE ks) rfl hrow2.out _ 1 1 [.int .i64 k1, .int .i64 x1, .string s1, .slice an1 ln1 cn1, .slice ai1 li1 ci1] rfl rfl (World.news_of_block (heap_alloc_new Y _)) (five_one _ _ _ _ _ _ _ _ _) (by decide) (by unfold maxLen; omega) (by omega) hbb.out _ rfl ?_; intro g4 c4 w4 hown4 hgrow4 hat4 hlt4)
          have hK4 : Hid (LIn W0 w.heap.size w4 (.slice (some ⟨g4, 0, none⟩) (co + 1) c4) (ks ++ [e])) := LIn.app hkl.out hKY.out.fives hKY.out.reads ⟨_, _, _, _, _, _, _, _, _, hF1.out⟩ (by rw [hF1.out]; exact hv0.out) (by rw [hF1.out]; exact hown4)
          have hb4 : Hid (Below w.heap.size w w4) := (hbY.out.alloc hbY.out.size _).trans (grown_below hgrow4 hbb.out (fun g hg => (ownsRow_ge hKY.out.row hg).1))
          have hkS4 : Hid (∀ k ∈ ks ++ [e], SmallT k.t) := fun k hk => by rcases List.mem_append.1 hk with h | h; exact hkS.out k h; rw [List.mem_singleton.1 h]; exact hSe.out
          exact ⟨⟨q + 1, co + 1, co, _, _, ks ++ [e], rfl, rfl, by go_num, by omega, by omega, by omega, by show _ = _; rw [List.length_append, hkl.out]; rfl, hK4, hui, hkS4, (fun h => by omega), hb4⟩, by simp [intOf]; omega⟩
        have hmc1 : (m : Int) < (co : Int) := by omega
        have hmc2 : m < co := by omega
        have call := hid_e (vcontains_any [] e.t k1 x1 s1 an1 ln1 cn1 ai1 li1 ci1 _ _ 0 pb W0 X hWX.out rfl (by omega) (nil_in _ _ (some ⟨g, m * 5, none⟩) (co - m) (by omega)) (by unfold SmallL; trivial) hpX.out hvX.out)
        go_wp2_with fail
        refine call.out.mono ?_
        rintro e_ Y ⟨rfl, hy⟩
        rw [show hasV [] e.t = false from rfl]
        have hbY := hid_e (hbX.out.trans (hy.mono hbX.out.size))
        have hKY := hid_e (hKX.out.keep hy)
        have hpY := hid_e (block_keep hpX.out hy)
        clear call hy hbX hKX hpX hWX hvX
        obtain ⟨y0, y1, y2, y3, y4, -⟩ := row_cells hpY.out
        have hrow2 : Hid ((Y.alloc (.cells #[.int .i64 k1, .int .i64 x1, .string s1, .slice an1 ln1 cn1, .slice ai1 li1 ci1] 25)).ownsRow w.heap.size 25 5 (.slice (some ⟨g, 0, none⟩) m co) m (cellsE ks)) := by have h := hKY.out.row; rw [hkl.out] at h; exact h.alloc _
        have hbb : Hid (w.heap.size ≤ (Y.alloc (.cells #[.int .i64 k1, .int .i64 x1, .string s1, .slice an1 ln1 cn1, .slice ai1 li1 ci1] 25)).heap.size) := by rw [World.size_alloc]; show _ ≤ _; have := hbY.out.size; omega
        have hui : Hid (UI (treesE es) (q + 1) (treesE (ks ++ [e])) m) := by rw [treesE_app, show m = (treesE ks).length by rw [treesE_len, hkl.out]]; exact hU.out.add hvq.out hsub.out
        go_wp2_with (at_builtin; refine wpList_append_lies _ rfl _ _ 23 rfl w.heap.size 25 i5 _ 5 80 Tryz.underlying23 hi hz0 hz1 hz2 rfl (by decide) (.slice (some ⟨g, 0, none⟩) m co) m (cellsE ks) rfl hrow2.out _ 1 1 [.int .i64 k1, .int .i64 x1, .string s1, .slice an1 ln1 cn1, .slice ai1 li1 ci1] rfl rfl (World.news_of_block (heap_alloc_new Y _)) (five_one _ _ _ _ _ _ _ _ _) (by decide) (by unfold maxLen; omega) (by omega) hbb.out _ rfl ?_; intro g4 c4 w4 hown4 hgrow4 hat4 hlt4)
        have hK4 : Hid (LIn W0 w.heap.size w4 (.slice (some ⟨g4, 0, none⟩) (m + 1) c4) (ks ++ [e])) := LIn.app hkl.out hKY.out.fives hKY.out.reads ⟨_, _, _, _, _, _, _, _, _, hF1.out⟩ (by rw [hF1.out]; exact hv0.out) (by rw [hF1.out]; exact hown4)
        have hb4 : Hid (Below w.heap.size w w4) := (hbY.out.alloc hbY.out.size _).trans (grown_below hgrow4 hbb.out (fun g hg => (ownsRow_ge hKY.out.row hg).1))
        have hkS4 : Hid (∀ k ∈ ks ++ [e], SmallT k.t) := fun k hk => by rcases List.mem_append.1 hk with h | h; exact hkS.out k h; rw [List.mem_singleton.1 h]; exact hSe.out
        exact ⟨⟨q + 1, m + 1, m, _, _, ks ++ [e], rfl, rfl, by go_num, by omega, by omega, by omega, by show _ = _; rw [List.length_append, hkl.out]; rfl, hK4, hui, hkS4, (fun h => by omega), hb4⟩, by simp [intOf]; omega⟩
    · skip
      obtain rfl : q = n := by omega
      have q1 : ¬ (q : Int) < (q : Int) := by omega
      have hfin : Hid (treesE ks = ddT (treesE es)) := by have h := hU.out.is; rw [List.take_of_length_le (by rw [treesE_len, hn.out]; exact Nat.le_refl _)] at h; exact h
      go_wp2_with fail
      go_ret
      exact ⟨_, rfl, ks, hK.out, hfin.out, hkS.out, hb.out⟩
end Go.Proofs.YtgigikcopedoeaaGreat.Tree.Eq
