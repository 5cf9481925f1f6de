import Derived.Test.YthijpmomcompaaaDoorPB
import Derived.Test.YthijpmomcompaaaDoorSB
import Derived.Laws.MakeOwn
import Derived.Laws.CopyRow
import Derived.Laws.Cells
import Derived.Deep.WholeRow
/-! order.Sort of every list of Values. -/
namespace Go.Proofs.YthijpmomcompaaaDoor
open Go Go.RowKit Go.Stab

theorem copy_zero {P : Program} (w : World) (T ty elem : TypeId) (i : TypeInfo) (g : Nat) (a : Option Addr) (c : Nat) (hu : P.underlying T = some (.slice elem)) (hi : P.info? elem = some i) :
    (Builtin.copy_ #[T, T] ty #[.slice (some ⟨g, 0, none⟩) 0 0, .slice a 0 c]).run P w = .ok (goInt 0) w := by
  have hst : (storeCells ⟨g, 0, none⟩ []).run P w = .ok () w := rfl
  cases a with
  | none => simp [Builtin.copy_, run_underlying hu, Builtin.lenOf, Builtin.firstCells, sizeOf, typeInfo, hi, hst]
  | some a =>
    have hl := run_loadCells_list (P := P) w a [] (by simp)
    simp at hl
    simp [Builtin.copy_, run_underlying hu, Builtin.lenOf, Builtin.firstCells, sizeOf, typeInfo, hi, hl, hst]
theorem copy_n {P : Program} (w : World) (T ty elem : TypeId) (i : TypeInfo) (g n dCap : Nat) (a : Addr) (sCap : Nat) (cur : Array Value) (t : TypeId) (cs : List Value) (hu : P.underlying T = some (.slice elem)) (hi : P.info? elem = some i)
    (hg : w.heap[g]? = some (.cells cur t (0, 0))) (hn : cs.length = n * i.size) (hsrc : ∀ j v, cs[j]? = some v → w.cell? (a.add j) = some v) (hfit : cs.length ≤ cur.size) (h1 : ∀ v ∈ cs, v.oneCell' = true) :
    (Builtin.copy_ #[T, T] ty #[.slice (some ⟨g, 0, none⟩) n dCap, .slice (some a) n sCap]).run P w = .ok (goInt n) (w.setRow g (cs ++ cur.toList.drop cs.length).toArray) := by
  have hl := run_loadCells_list (P := P) w a cs hsrc
  have hst := run_storeCells_at P g 0 t cs 0 cur w hg (by simpa using hfit) h1
  simp at hst
  simp [Builtin.copy_, run_underlying hu, Builtin.lenOf, Builtin.firstCells, sizeOf, typeInfo, hi, ← hn, hl, hst]
theorem make_vn (l : Nat) (hc : l * 80 ≤ 281474976710656) (w : World) : (Instr.makeSlice 22 (.int .i64 l) (.int .i64 l)).run Tryd.prog w = .ok (.slice (some ⟨w.heap.size, 0, none⟩) l l) (w.alloc (.cells (madeCells #[.int .i64 0, .int .i64 0, .string ⟨#[]⟩, .slice none 0 0, .slice none 0 0] (l * 5)) 31)) := by
  obtain ⟨i, hi, hz0, hz1, hz2⟩ := info_parts AV
  have := run_make (P := Tryd.prog) w 22 31 i _ Tryd.underlying22 hi hz0 .i64 .i64 l l (by omega) (by omega) (by rw [hz2]; omega) (by omega)
  rw [this, hz1, Int.toNat_natCast]
  rfl
theorem five_cells {cs : List Value} (h : Five cs) : ∀ v ∈ cs, v.oneCell' = true := by
  obtain ⟨k, x, s, an, ln, cn, ai, li, ci, rfl⟩ := h
  exact five_one _ _ _ _ _ _ _ _ _
theorem cellsE_one {es : List El} (h : ∀ e ∈ es, Five e.cs) : ∀ v ∈ cellsE es, v.oneCell' = true := fun v hv => by
  obtain ⟨e, he, hve⟩ := List.mem_flatMap.1 hv
  exact five_cells (h e he) v hve
theorem cellsE_len : {es : List El} → (∀ e ∈ es, Five e.cs) → (cellsE es).length = es.length * 5
  | [], _ => rfl
  | e :: es, h => by
    show (e.cs ++ cellsE es).length = (es.length + 1) * 5
    rw [List.length_append, (h e (by simp)).len, cellsE_len (fun e he => h e (by simp [he]))]
    omega
def ltT (a b : Tr) : Bool := decide (cmpT a b < 0)
theorem swoT : Swo ltT where
  irr x := by unfold ltT; rw [cmpT_self]; rfl
  tr x y z h1 h2 := by
    unfold ltT at *
    have a1 := of_decide_eq_true h1
    have a2 := of_decide_eq_true h2
    refine decide_eq_true ?_
    have h3 := cmpT_trans x y z (by omega) (by omega)
    rcases Int.lt_or_le (cmpT x z) 0 with h | h
    · exact h
    · have e1 := cmpT_anti x z
      have e2 := cmpT_anti x y
      have h4 := cmpT_trans y z x (by omega) (by omega)
      omega
  neg x y z h1 h2 := by
    unfold ltT at *
    have a1 := of_decide_eq_false h1
    have a2 := of_decide_eq_false h2
    have := cmpT_goes x y z (by omega) (by omega)
    exact decide_eq_false (by omega)
/-- Items that are read in w. -/
def GoodE (w : World) (e : El) : Prop := Five e.cs ∧ VRep w e.t e.cs ∧ SmallT e.t
def encE {w : World} (e : {e : El // GoodE w e}) : Array Value := e.1.cs.toArray
theorem enc_ok (w : World) : Sorted.Enc (encE (w := w)) where
  size e := by unfold encE; rw [List.size_toArray]; exact e.2.1.len
  one e := by
    unfold encE
    rw [Array.all_eq_true_iff_forall_mem]
    exact fun v hv => five_cells e.2.1 v (by simpa using hv)
theorem swoE (w : World) : Swo (fun (x y : {e : El // GoodE w e}) => decide (cmpT x.1.t y.1.t < 0)) := ⟨fun x => swoT.irr x.1.t, fun x y z => swoT.tr x.1.t y.1.t z.1.t, fun x y z => swoT.neg x.1.t y.1.t z.1.t⟩
theorem but_below {b : Nat} {w W : World} (h : Sorted.But b w W) (hb : w.heap.size ≤ b) : Below w.heap.size w W := ⟨h.os, h.tape, h.output, h.size, fun k hk => h.block k hk (by omega)⟩
theorem cmpE (w : World) {b : Nat} (hb : w.heap.size ≤ b) (x y : {e : El // GoodE w e}) (W : World) (hW : Sorted.But b w W) : Calls Tryd.prog 19 #[.agg (encE x), .agg (encE y)] W fun e w' => e = .returned (.int .i64 (cmpT x.1.t y.1.t)) ∧ Below W.heap.size W w' :=
  compare_any x.1.t y.1.t x.1.cs y.1.cs W (VRep.keep (but_below hW hb) _ _ x.2.2.1) (VRep.keep (but_below hW hb) _ _ y.2.2.1) (small_below _ x.2.2.2) (small_below _ y.2.2.2)
theorem rowE_cells {w : World} {X : World} {b : Nat} {cur : Array Value} {t : TypeId} {fr : Nat × Nat} {D : List {e : El // GoodE w e}} (hh : X.heap[b]? = some (.cells cur t fr)) (hs : cur.size = D.length * 5) (hR : Sorted.RowE encE X b D) : cur.toList = cellsE (D.map (·.1)) := by
  have hf : ∀ e ∈ D.map (·.1), Five e.cs := fun e he => by obtain ⟨d, -, rfl⟩ := List.mem_map.1 he; exact d.2.1
  refine List.ext_getElem? (fun i => ?_)
  by_cases hi : i < D.length * 5
  · obtain ⟨q, r, hr, rfl⟩ : ∃ q r, r < 5 ∧ i = q * 5 + r := ⟨i / 5, i % 5, by omega, by omega⟩
    have hq : q < D.length := by omega
    have hd : D[q]? = some D[q] := List.getElem?_eq_getElem hq
    obtain ⟨u, hu⟩ : ∃ u, (D[q]).1.cs[r]? = some u := ⟨_, List.getElem?_eq_getElem (by rw [(D[q]).2.1.len]; exact hr)⟩
    have h1 := (hR q _ hd).1 r u (by unfold encE; simpa using hu)
    have h2 := cellsE_at (D.map (·.1)) hf q (D[q]).1 (by rw [List.getElem?_map, hd]; rfl) r u hu
    rw [h2, Array.getElem?_toList]
    simpa [World.cell?, hh] using h1
  · rw [List.getElem?_eq_none (by rw [Array.length_toList]; omega), List.getElem?_eq_none (by rw [cellsE_len hf, List.length_map]; omega)]
theorem cells_rowE {w : World} {X : World} {b : Nat} {cur : Array Value} {t : TypeId} {D : List {e : El // GoodE w e}} (hh : X.heap[b]? = some (.cells cur t (0, 0))) (hc : cur.toList = cellsE (D.map (·.1))) : Sorted.RowE encE X b D := fun q x hx => by
  have hf : ∀ e ∈ D.map (·.1), Five e.cs := fun e he => by obtain ⟨d, -, rfl⟩ := List.mem_map.1 he; exact d.2.1
  have h2 : ∀ (j : Nat) u, (encE x).toList[j]? = some u → X.cell? ⟨b, q * 5 + j, none⟩ = some u := fun j u hj => by
    have := cellsE_at (D.map (·.1)) hf q x.1 (by rw [List.getElem?_map, hx]; rfl) j u (by unfold encE at hj; simpa using hj)
    rw [← hc, Array.getElem?_toList] at this
    simpa [World.cell?, hh] using this
  refine ⟨h2, fun j hj => ⟨?_, by simp [World.frozen?, hh]⟩⟩
  obtain ⟨u, hu⟩ : ∃ u, (encE x).toList[j]? = some u := ⟨_, List.getElem?_eq_getElem (by have := (enc_ok w).size x; simp; omega)⟩
  rw [h2 j u hu]
  rfl
def sortE (es : List El) : List El := isort (fun x y : El => ltT x.t y.t) es
theorem sortE_trees (es : List El) : treesE (sortE es) = isort ltT (treesE es) := isort_map (fun e : El => e.t) (fun _ _ => rfl) es
theorem mem_sortE {es : List El} {e : El} (h : e ∈ sortE es) : e ∈ es := (isort_perm _ es).mem_iff.1 h
set_option maxHeartbeats 4000000 in
set_option maxRecDepth 100000 in
/-- Sort: the sorted items, in a row of their own. -/
theorem osort_any (base : Nat) (a : Option Addr) (c n : Nat) (es : List El) (w : World) (hn : es.length = n) (hnn : n * 80 ≤ 140737488351232) (hL : LAt base w (.slice a n c) es) (hS : ∀ e ∈ es, SmallT e.t) (hbase : base ≤ w.heap.size) :
    Calls Tryd.prog 10 #[.slice a n c] w fun e w' => e = .returned (.slice (some ⟨w.heap.size, 0, none⟩) n n) ∧ LAt base w' (.slice (some ⟨w.heap.size, 0, none⟩) n n) (sortE es) ∧ Below w.heap.size w w' := by
  obtain ⟨i0, hi, hz0, hz1, hz2⟩ := info_parts AV
  have hmk := make_vn n (by omega) w
  have hclen : (cellsE es).length = n * 5 := by rw [cellsE_len hL.fives, hn]
  -- the world behind copy
  obtain ⟨W1, r, hcp, hW1, hb1⟩ : ∃ W1 r, (Builtin.copy_ #[22, 22] 3 #[.slice (some ⟨w.heap.size, 0, none⟩) n n, .slice a n c]).run Tryd.prog (w.alloc (.cells (madeCells #[.int .i64 0, .int .i64 0, .string ⟨#[]⟩, .slice none 0 0, .slice none 0 0] (n * 5)) 31)) = .ok r W1 ∧ W1 = w.alloc (.cells (cellsE es).toArray 31) ∧ Below w.heap.size w W1 := by
    by_cases h0 : n = 0
    · subst h0
      refine ⟨_, _, copy_zero _ _ _ 31 i0 _ _ _ Tryd.underlying22 hi, ?_, (Below.refl _ w).alloc (Nat.le_refl _) _⟩
      have : es = [] := List.eq_nil_of_length_eq_zero hn
      subst this
      rw [show madeCells #[.int .i64 0, .int .i64 0, .string ⟨#[]⟩, .slice none 0 0, .slice none 0 0] (0 * 5) = #[] from Array.eq_empty_of_size_eq_zero (size_madeCells _ _)]
      rfl
    · have hr := hL.row
      rcases hr.2 with ⟨e, h0'⟩ | ⟨g, cap, cur, e, hg, hh, hc, hm, hs, ht⟩
      · omega
      · obtain ⟨rfl, -, rfl⟩ : a = _ ∧ n = _ ∧ c = _ := by simpa using e
        have hrow : ∀ j v, (cellsE es)[j]? = some v → w.cell? ⟨g, j, none⟩ = some v := fun j v hj => by
          rw [← ht] at hj
          have hjl := (List.getElem?_eq_some_iff.1 hj).1
          rw [List.getElem?_take_of_lt (by simp at hjl; omega), Array.getElem?_toList] at hj
          simp [World.cell?, hh, hj]
        refine ⟨_, _, copy_n _ _ _ 31 i0 _ n n ⟨g, 0, none⟩ c _ 31 (cellsE es) Tryd.underlying22 hi (heap_alloc_new w _) (by rw [hz1]; exact hclen) (fun j v hj => ?_) (by rw [size_madeCells]; omega) (cellsE_one hL.fives), ?_, ?_⟩
        · rw [add_off, Nat.zero_add]
          exact cell_alloc' (hrow j v hj) _
        · rw [World.setRow_alloc_new]
          congr 2
          rw [List.drop_eq_nil_of_le (by rw [Array.length_toList, size_madeCells]; omega), List.append_nil]
        · rw [World.setRow_alloc_new]
          exact (Below.refl _ w).alloc (Nat.le_refl _) _
  have hg1 : W1.heap[w.heap.size]? = some (.cells (cellsE es).toArray 31 (0, 0)) := by rw [hW1]; exact heap_alloc_new w _
  have hgood : ∀ e ∈ es, GoodE w e := fun e he => ⟨hL.fives e he, hL.seen e he w ⟨Nat.le_refl _, fun _ _ _ h => h⟩, hS e he⟩
  obtain ⟨D, hD⟩ : ∃ D : List {e : El // GoodE w e}, D.map (·.1) = es := ⟨es.attachWith _ hgood, by simp⟩
  have hDl : D.length = n := by rw [← hn, ← hD]; simp
  have hRow : Sorted.RowE encE W1 w.heap.size D := cells_rowE hg1 (by rw [hD])
  have hBut : Sorted.But w.heap.size w W1 := ⟨hb1.os, hb1.tape, hb1.output, hb1.size, fun k hk _ => hb1.block k hk, fun cur t f h => by simp at h⟩
  have call := hid_e (Sorted.sort_any (enc_ok w) (swoE w) (fun x y => cmpT x.1.t y.1.t) (fun _ _ => rfl) (cmpE w (Nat.le_refl _)) D n n W1 hBut hRow hDl (by omega))
  replace hL := hid_e hL
  have hfin : Hid (∀ X, Sorted.RowE encE X w.heap.size (isort (fun (x y : {e : El // GoodE w e}) => decide (cmpT x.1.t y.1.t < 0)) D) → Sorted.But w.heap.size W1 X → LAt base X (.slice (some ⟨w.heap.size, 0, none⟩) n n) (sortE es) ∧ Below w.heap.size w X) := by
    intro X hR hB
    have hbX : Below w.heap.size w X := hb1.trans ⟨hB.os, hB.tape, hB.output, hB.size, fun k hk => hB.block k (by have := hb1.size; omega) (by omega)⟩
    obtain ⟨cur', hc', hs'⟩ := hB.shape _ _ _ hg1
    have hsz : cur'.size = (isort (fun (x y : {e : El // GoodE w e}) => decide (cmpT x.1.t y.1.t < 0)) D).length * 5 := by rw [hs', isort_length, hDl, List.size_toArray, hclen]
    have hcells := rowE_cells hc' hsz hR
    have hm : (isort (fun (x y : {e : El // GoodE w e}) => decide (cmpT x.1.t y.1.t < 0)) D).map (·.1) = sortE es := (isort_map (lt := fun (x y : {e : El // GoodE w e}) => decide (cmpT x.1.t y.1.t < 0)) (lt' := fun x y : El => ltT x.t y.t) (fun d : {e : El // GoodE w e} => d.1) (fun _ _ => rfl) D).trans (by rw [hD]; rfl)
    rw [hm] at hcells
    have hsl : (sortE es).length = n := by rw [← hn]; exact isort_length _ _
    have hL := hL.out
    refine ⟨⟨⟨by rw [hsl, cellsE_len (fun e he => hL.fives e (mem_sortE he)), hsl], .inr ⟨w.heap.size, n, cur', by rw [hsl], hbase, hc', by rw [hsl]; exact Nat.le_refl _, by unfold maxLen; omega, by rw [hs', List.size_toArray, hclen], ?_⟩⟩, fun e he => hL.fives e (mem_sortE he), fun e he W' hW => hL.seen e (mem_sortE he) W' ⟨Nat.le_trans hbX.size hW.1, fun p u hp hc => hW.2 p u ⟨hp.1, ?_⟩ (stay hbX hc)⟩⟩, hbX⟩
    · rw [hcells, List.take_of_length_le (by rw [cellsE_len (fun e he => hL.fives e (mem_sortE he))]; exact Nat.le_refl _)]
    · have := lt_of_cell hc
      intro e
      have : w.heap.size = p.block := by simpa [Value.ownBlock] using e
      omega
  clear hL hBut hRow hDl hD hgood hg1 hW1 hb1 hclen hS
  go_enter Tryd.func10, Tryd.ntmps10
  go_wp2_with fail
  refine call.out.mono ?_
  rintro e X ⟨rfl, hR, hB⟩
  have hz := hid_e (hfin.out X hR hB)
  clear hR hB call hfin
  go_wp2_with fail
  go_ret
  exact ⟨rfl, hz.out.1, hz.out.2⟩
end Go.Proofs.YthijpmomcompaaaDoor
