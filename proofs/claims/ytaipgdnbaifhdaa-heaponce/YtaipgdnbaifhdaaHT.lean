import Derived.Test.YtaipgdnbaifhdaaHS
/-! HeapOnce: Alloc and Free beside what was told. -/
namespace Go.Proofs.Ytaipgdnbaifhdaa
open Go Go.RowKit
section
variable {lo : Nat} {w : World} {hb : Nat} {most : Int} {ns : List Nd} {st : List Int} {tv : List Tk} {i : Nat}
/-- What comes of an Alloc. -/
structure AllocOnce (lo : Nat) (w : World) (hb : Nat) (most : Int) (i : Nat) (tv : List Tk) (v num gen er : Int) (e : Ending) (w' : World) (ns : List Nd) (st : List Int) : Prop where
  post : AllocPost lo w hb 5 most num gen er ns st e w'
  inv : HInv (i + 1) ns st
  what : (er = 0 ∧ (∀ t ∈ tv, ¬ (t.u.1 = num ∧ t.u.2 = gen)) ∧ OInv ns st (tv ++ [⟨(num, gen), v, false⟩])) ∨ (er = 5 ∧ OInv ns st tv)
theorem alloc_once (h : HeapS lo w hb 5 most ns st) (hlo : lo ≤ w.heap.size) (hI : HInv i ns st) (hi : i ≤ 1000000) (hJ : OInv ns st tv) (v : Int) :
    Calls Try.prog 11 #[.pointer (some ⟨hb, 0, none⟩), .pointer none, .int .i64 v] w fun e w' => ∃ num gen er ns' st', AllocOnce lo w hb most i tv v num gen er e w' ns' st' := by
  have h1 := hI.ln
  have h2 := hI.ls
  cases st with
  | cons x st' =>
    obtain ⟨k, y, hxk, hky⟩ := hI.num x (by simp)
    subst hxk
    refine (alloc_again h hlo k st' y rfl hky (by omega) v).mono fun e w' hp => ?_
    exact ⟨_, _, _, _, _, hp, hI.again hky v, .inl ⟨rfl, (hJ.fresh hky).2, hJ.again hky v⟩⟩
  | nil =>
    refine (alloc_rest h hlo (by omega) v).mono fun e w' hp => ?_
    by_cases hlt : (ns.length : Int) < most
    · rw [if_pos hlt] at hp
      exact ⟨_, _, _, _, _, hp, hI.make v, .inl ⟨rfl, hJ.freshM, hJ.make v⟩⟩
    · rw [if_neg hlt] at hp
      exact ⟨_, _, _, _, _, hp, hI.mono, .inr ⟨rfl, hJ⟩⟩
/-- What comes of a Free. -/
structure FreeOnce (lo : Nat) (w : World) (hb : Nat) (most : Int) (i : Nat) (tv : List Tk) (rx rg : Int) (w' : World) (ns : List Nd) (st : List Int) : Prop where
  ft : FT lo w w'
  heap : HeapS lo w' hb 5 most ns st
  inv : HInv (i + 1) ns st
  once : OInv ns st (tv.map (goneT (rx, rg)))
theorem free_once (h : HeapS lo w hb 5 most ns st) (hlo : lo ≤ w.heap.size) (hI : HInv i ns st) (hi : i ≤ 1000000) (hJ : OInv ns st tv) (rx rg : Int) :
    Calls Try.prog 12 #[.pointer (some ⟨hb, 0, none⟩), .pointer none, .agg #[.int .i64 rx, .int .i64 rg]] w fun e w' => e = .returned (.bool (isLive ns rx rg)) ∧ ∃ ns' st', FreeOnce lo w hb most i tv rx rg w' ns' st' := by
  have h1 := hI.ln
  have h2 := hI.ls
  cases hl : isLive ns rx rg with
  | false =>
    refine (free_no h rx rg hl).mono fun e w' hp => ⟨hp.1, ns, st, FT.of_below hp.2 hlo, h.under hp.2, hI.mono, ?_⟩
    rw [hJ.no (r := (rx, rg)) hl]
    exact hJ
  | true =>
    obtain ⟨k, v, hk1, hk2⟩ := isLive_some hl
    subst hk1
    have hgb := hI.gen _ (List.mem_of_getElem? hk2)
    simp only at hgb
    refine (free_s h k rg v hk2 hlo (by omega) (by omega)).mono fun e w' hp => ⟨hp.1, _, _, hp.2.1, hp.2.2, hI.free hk2, ?_⟩
    exact hJ.free hk2
end
/-- One of two lists of bools is written. -/
theorem row_set {w : World} {lo g n c k : Nat} {e : TypeId} {gl : List Bool} (h : w.ownsRow lo e 1 (.slice (some ⟨g, 0, none⟩) n c) n (gl.map .bool)) (x : Bool) : (w.setCell ⟨g, k, none⟩ (.bool x)).ownsRow lo e 1 (.slice (some ⟨g, 0, none⟩) n c) n ((gl.set k x).map .bool) := by
  rw [List.map_set]
  exact (h.stored k (.bool x)).1
theorem Below.al {X W : World} (h : Below X.heap.size X W) (o : Obj) : Below X.heap.size X (W.alloc o) := h.alloc h.size o
theorem nb_alloc {W : World} {b : Nat} {x : Obj} (o : Obj) (h : W.heap[b]? = some x) : (W.alloc o).heap[b]? = some x := (Below.heap_alloc W o b (Array.getElem?_eq_some_iff.1 h).1).trans h
theorem far_block {B W w' : World} {ob : Option Nat} {b : Nat} {x : Obj} (hB : Below B.heap.size B W) (hg : W.grownBy w' ob) (hne : ob ≠ some b) (h : B.heap[b]? = some x) : w'.heap[b]? = some x := by
  have hlt := (Array.getElem?_eq_some_iff.1 h).1
  exact (hg.block b (Nat.lt_of_lt_of_le hlt hB.size) (fun e => hne e.symm)).trans ((hB.block b hlt).trans h)
theorem cell_alloc {W : World} {p : Addr} {v : Value} (o : Obj) (h : W.cell? p = some v) : (W.alloc o).cell? p = some v := by rw [World.cell?_alloc_lt _ _ _ (World.block_lt_of_cell? W _ h)]; exact h
theorem cell_drew {W : World} {p : Addr} {v : Value} (h : W.cell? p = some v) : W.drew.cell? p = some v := h
theorem nb_new {W : World} {b : Nat} (o : Obj) (h : b = W.heap.size) : (W.alloc o).heap[b]? = some o := by rw [h]; exact heap_alloc_new W o
/-- Three rows, a heap, an operation's block. -/
structure St3 (lo : Nat) (w0 : World) (hb : Nat) (most : Int) (ns : List Nd) (st : List Int) (ob : Nat) (o : Hop) (n1 n2 n3 : Nat) (x1 x2 x3 : List Value) (sa sv sg : Value) (B : World) : Prop where
  r1 : B.ownsRow lo 35 2 sa n1 x1
  r2 : B.ownsRow lo 2 1 sv n2 x2
  r3 : B.ownsRow lo 4 1 sg n3 x3
  heap : HeapS lo B hb 5 most ns st
  op : B.heap[ob]? = some (.cells (hopCs o) 37 (0, 0))
  bel : Below lo w0 B
  lo : lo ≤ B.heap.size
section
variable {lo : Nat} {w0 : World} {hb : Nat} {most : Int} {ns : List Nd} {st : List Int} {ob : Nat} {o : Hop} {n1 n2 n3 : Nat} {x1 x2 x3 : List Value} {sa sv sg : Value} {B W : World}
theorem St3.below (h : St3 lo w0 hb most ns st ob o n1 n2 n3 x1 x2 x3 sa sv sg B) (hB : Below B.heap.size B W) : St3 lo w0 hb most ns st ob o n1 n2 n3 x1 x2 x3 sa sv sg W :=
  ⟨ownsRow_keep h.r1 (fun g _ e => hB.block g (Array.getElem?_eq_some_iff.1 e).1), ownsRow_keep h.r2 (fun g _ e => hB.block g (Array.getElem?_eq_some_iff.1 e).1), ownsRow_keep h.r3 (fun g _ e => hB.block g (Array.getElem?_eq_some_iff.1 e).1), h.heap.under hB, (hB.block _ (Array.getElem?_eq_some_iff.1 h.op).1).trans h.op, h.bel.trans (hB.mono h.lo), Nat.le_trans h.lo hB.size⟩
theorem row_own {lo : Nat} {w : World} {e : TypeId} {size n : Nat} {v : Value} {xs : List Value} (h : w.ownsRow lo e size v n xs) (b : Nat) (he : v.ownBlock = some b) : lo ≤ b ∧ ∃ cs, w.heap[b]? = some (.cells cs e (0, 0)) := by
  obtain ⟨h1, h2⟩ := h
  rcases h2 with ⟨hv, _⟩ | ⟨g', cap', cur, hv, hg', hh, _⟩
  · rw [hv] at he; cases he
  · rw [hv] at he
    cases he
    exact ⟨hg', cur, hh⟩
/-- What a change of one row leaves. -/
def KeepT (t0 : TypeId) (B W : World) : Prop := ∀ (b : Nat) vs t, B.heap[b]? = some (.cells vs t (0, 0)) → t ≠ t0 → W.heap[b]? = some (.cells vs t (0, 0))
theorem grown_keep {lo : Nat} {e : TypeId} {size n : Nat} {v : Value} {xs : List Value} (h : B.ownsRow lo e size v n xs) (hg : B.grownBy W v.ownBlock) : KeepT e B W := other_types (Below.refl _ B) hg (fun b e' => (row_own h b e').2)
theorem heap_keep (h : HeapS lo B hb 5 most ns st) {t0 : TypeId} (ht : ownT t0 = false) (hk : KeepT t0 B W) : HeapS lo W hb 5 most ns st := h.keepW (fun b vs t e h1 => (hk b vs t e (fun e' => by subst e'; rw [ht] at h1; cases h1)).trans e.symm)
theorem bel_grown {e : TypeId} {size n : Nat} {v : Value} {xs : List Value} (h : B.ownsRow lo e size v n xs) (hl : lo ≤ B.heap.size) (hb0 : Below lo w0 B) (hg : B.grownBy W v.ownBlock) : Below lo w0 W := hb0.grown hg hl (fun b e' => (row_own h b e').1)
theorem St3.app1 (h : St3 lo w0 hb most ns st ob o n1 n2 n3 x1 x2 x3 sa sv sg B) {n' : Nat} {x' : List Value} {v' : Value} (r : W.ownsRow lo 35 2 v' n' x') (hg : B.grownBy W sa.ownBlock) : St3 lo w0 hb most ns st ob o n' n2 n3 x' x2 x3 v' sv sg W ∧ KeepT 35 B W := by
  have hk := grown_keep h.r1 hg
  exact ⟨⟨r, keep_row hk (by decide) h.r2, keep_row hk (by decide) h.r3, heap_keep h.heap (by decide) hk, hk _ _ _ h.op (by decide), bel_grown h.r1 h.lo h.bel hg, Nat.le_trans h.lo hg.size⟩, hk⟩
theorem St3.app2 (h : St3 lo w0 hb most ns st ob o n1 n2 n3 x1 x2 x3 sa sv sg B) {n' : Nat} {x' : List Value} {v' : Value} (r : W.ownsRow lo 2 1 v' n' x') (hg : B.grownBy W sv.ownBlock) : St3 lo w0 hb most ns st ob o n1 n' n3 x1 x' x3 sa v' sg W ∧ KeepT 2 B W := by
  have hk := grown_keep h.r2 hg
  exact ⟨⟨keep_row hk (by decide) h.r1, r, keep_row hk (by decide) h.r3, heap_keep h.heap (by decide) hk, hk _ _ _ h.op (by decide), bel_grown h.r2 h.lo h.bel hg, Nat.le_trans h.lo hg.size⟩, hk⟩
theorem St3.app3 (h : St3 lo w0 hb most ns st ob o n1 n2 n3 x1 x2 x3 sa sv sg B) {n' : Nat} {x' : List Value} {v' : Value} (r : W.ownsRow lo 4 1 v' n' x') (hg : B.grownBy W sg.ownBlock) : St3 lo w0 hb most ns st ob o n1 n2 n' x1 x2 x' sa sv v' W ∧ KeepT 4 B W := by
  have hk := grown_keep h.r3 hg
  exact ⟨⟨keep_row hk (by decide) h.r1, keep_row hk (by decide) h.r2, r, heap_keep h.heap (by decide) hk, hk _ _ _ h.op (by decide), bel_grown h.r3 h.lo h.bel hg, Nat.le_trans h.lo hg.size⟩, hk⟩
end
/-- The table, the heap, the operation: behind a part of one round. -/
structure AftA (lo : Nat) (w0 : World) (hb : Nat) (most : Int) (j i ob rb : Nat) (o : Hop) (rx rg : Int) (sa sv sg : Value) (wx : World) (ns : List Nd) (st : List Int) (tv : List Tk) : Prop where
  len : tv.length ≤ i
  inv : HInv j ns st
  once : OInv ns st tv
  st3 : St3 lo w0 hb most ns st ob o tv.length tv.length tv.length (flatT (tv.map (·.u))) (tv.map fun t => .int .i64 t.v) (tv.map fun t => .bool t.g) sa sv sg wx
  ref : o.k = 2 → wx.heap[rb]? = some (.cells #[.int .i64 rx, .int .i64 rg] 35 (0, 0))
section
variable {lo : Nat} {w0 : World} {hb : Nat} {most : Int} {ns : List Nd} {st : List Int} {ob rb i j k : Nat} {o : Hop} {rx rg : Int} {sa sv sg : Value} {W : World} {tv : List Tk}
theorem aft_more {num gen ev : Int} (h : St3 lo w0 hb most ns st ob o (k + 1) (k + 1) (k + 1) (flatT (tv.map (·.u)) ++ [.int .i64 num, .int .i64 gen]) ((tv.map fun t => .int .i64 t.v) ++ [.int .i64 ev]) ((tv.map fun t => .bool t.g) ++ [.bool false]) sa sv sg W) (hk : tv.length = k) (hki : k ≤ i) (hI : HInv j ns st) (hJ : OInv ns st (tv ++ [⟨(num, gen), ev, false⟩])) (ho : o.k ≠ 2) : AftA lo w0 hb most j (i + 1) ob rb o rx rg sa sv sg W ns st (tv ++ [⟨(num, gen), ev, false⟩]) := by
  subst hk
  have hl : (tv ++ [(⟨(num, gen), ev, false⟩ : Tk)]).length = tv.length + 1 := by simp
  refine ⟨by rw [hl]; omega, hI, hJ, ?_, fun e => absurd e ho⟩
  rw [hl, List.map_append, List.map_append, List.map_append, List.map_singleton, List.map_singleton, List.map_singleton, flatT_snoc]
  exact h
theorem aft_gone {gl : List Bool} (h : St3 lo w0 hb most ns st ob o k k k (flatT (tv.map (·.u))) (tv.map fun t => .int .i64 t.v) (gl.map .bool) sa sv sg W) (hk : tv.length = k) (hki : k ≤ i) (hI : HInv j ns st) (hJ : OInv ns st (tv.map (goneT (rx, rg)))) (hG : GoneK (rx, rg) k tv gl) (hr : o.k = 2 → W.heap[rb]? = some (.cells #[.int .i64 rx, .int .i64 rg] 35 (0, 0))) : AftA lo w0 hb most j i ob rb o rx rg sa sv sg W ns st (tv.map (goneT (rx, rg))) := by
  subst hk
  have e := hG.all
  subst e
  refine ⟨by rw [List.length_map]; exact hki, hI, hJ, ?_, hr⟩
  rw [List.length_map, List.map_map, List.map_map, List.map_map]
  rw [List.map_map, List.map_map] at h
  exact h
end
theorem int64_info : ∃ ri, Try.prog.info? 2 = some ri ∧ ri.zero = some (.int .i64 0) ∧ ri.size = 1 ∧ ri.bytes = 8 := by
  have : (Try.prog.info? 2).map (fun i => (i.zero, i.size, i.bytes)) = some (some (.int .i64 0), 1, 8) := by kernel_rfl
  cases hq : Try.prog.info? 2 with
  | none => rw [hq] at this; cases this
  | some ri => rw [hq] at this; simp at this; exact ⟨ri, rfl, this.1, this.2.1, this.2.2⟩
theorem bool_info : ∃ ri, Try.prog.info? 4 = some ri ∧ ri.zero = some (.bool false) ∧ ri.size = 1 ∧ ri.bytes = 1 := by
  have : (Try.prog.info? 4).map (fun i => (i.zero, i.size, i.bytes)) = some (some (.bool false), 1, 1) := by kernel_rfl
  cases hq : Try.prog.info? 4 with
  | none => rw [hq] at this; cases this
  | some ri => rw [hq] at this; simp at this; exact ⟨ri, rfl, this.1, this.2.1, this.2.2⟩
theorem ints_u : Try.prog.underlying 32 = some (.slice 2) := by kernel_rfl
theorem bools_u : Try.prog.underlying 33 = some (.slice 4) := by kernel_rfl
end Go.Proofs.Ytaipgdnbaifhdaa
