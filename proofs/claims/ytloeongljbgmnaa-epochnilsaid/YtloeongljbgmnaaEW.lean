import Derived.Test.YtloeongljbgmnaaEV
/-! epoch: the law's run: what lies in memory between its operations. -/
namespace Go.Proofs.Ytloeongljbgmnaa
open Go Go.RowKit
theorem live_a1 {lo hb : Nat} {w : World} (h : HeapS lo w hb 5 1048576 [] []) (hlo : lo ≤ w.heap.size) : Calls Try.prog 52 #[.pointer (some ⟨hb, 0, none⟩), .pointer none, .int .i64 7] w (AllocPost lo w hb 5 1048576 1 1 0 [⟨1, true, 7⟩] []) := by
  have := alloc_rest h hlo (by decide) 7
  exact this
theorem ans_u : Try.prog.underlying 122 = some (.slice 130) := by kernel_rfl
theorem ans_info : ∃ ri, Try.prog.info? 130 = some ri ∧ ri.zero = some (.agg #[.int .i64 0, .int .i64 0, .int .i64 0, .int .i64 0, .bool false]) ∧ ri.size = 5 ∧ ri.bytes = 40 := by
  have : (Try.prog.info? 130).map (fun i => (i.zero, i.size, i.bytes)) = some (some (.agg #[.int .i64 0, .int .i64 0, .int .i64 0, .int .i64 0, .bool false]), 5, 40) := by kernel_rfl
  cases hq : Try.prog.info? 130 with
  | none => rw [hq] at this; cases this
  | some ri => rw [hq] at this; simp at this; exact ⟨ri, rfl, this.1, this.2.1, this.2.2⟩
theorem cell_al {w : World} {p : Addr} {v : Value} {o : Obj} (h : w.cell? p = some v) : (w.alloc o).cell? p = some v := stay ((Below.refl _ w).alloc (Nat.le_refl _) o) h
theorem news2 {w : World} {g : Nat} {a b : Value} (h0 : w.cell? ⟨g, 0, none⟩ = some a) (h1 : w.cell? ⟨g, 1, none⟩ = some b) : ∀ (j : Nat) (u : Value), [a, b][j]? = some u → w.cell? ((⟨g, 0, none⟩ : Addr).add j) = some u := fun j u hj => by
  rcases j with _ | _ | j
  · simp at hj; subst hj; simpa [Addr.add] using h0
  · simp at hj; subst hj; simpa [Addr.add] using h1
  · simp at hj
def opA : Array Value := #[.int .i64 1, .int .i64 1, .int .i64 7, .slice none 0 0, .int .i64 1, .int .i64 0, .int .i64 0]
def ansL : List Value := [.int .i64 0, .int .i64 0, .int .i64 0, .int .i64 0, .bool false]
/-- A client whose log has n answers. -/
structure Cl (lo : Nat) (w : World) (cb n : Nat) (xs : List Value) (log : Value) : Prop where
  blk : w.heap[cb]? = some (.cells #[.int .i64 0, .slice none 0 0, .int .i64 0, log, .bool false] 124 (0, 0))
  row : w.ownsRow lo 130 5 log n xs
  lc : lo ≤ cb
theorem Cl.keep {lo : Nat} {w w' : World} {cb n : Nat} {xs : List Value} {log : Value} (h : Cl lo w cb n xs log) (hk : FH hotK lo w w') : Cl lo w' cb n xs log :=
  ⟨hk.cold _ _ _ h.blk rfl, ownsRow_keep h.row (fun _ _ e => (hk.cold _ _ _ e rfl).trans e.symm), h.lc⟩
theorem Cl.under {lo : Nat} {w w' : World} {cb n : Nat} {xs : List Value} {log : Value} (h : Cl lo w cb n xs log) (hB : Below w.heap.size w w') : Cl lo w' cb n xs log :=
  ⟨up_below hB h.blk, ownsRow_keep h.row (fun g _ e => hB.block g (Array.getElem?_eq_some_iff.1 e).1), h.lc⟩
def hotA (t : TypeId) : Bool := t == 130 || t == 124
theorem HeapS.keepA {lo : Nat} {w w' : World} {hb : Nat} {obj most : Int} {ns : List Nd} {st : List Int} (h : HeapS lo w hb obj most ns st) (hk : FH hotA lo w w') : HeapS lo w' hb obj most ns st := by
  obtain ⟨c, cs, p, h1, h2, h3⟩ := h
  have k : ∀ {b : Nat} {vs : Array Value} {t : TypeId}, w.heap[b]? = some (.cells vs t (0, 0)) → hotA t = false → w'.heap[b]? = some (.cells vs t (0, 0)) := fun {b vs t} e ht => hk.cold b vs t e ht
  exact ⟨c, cs, p, h1, ⟨k h2.hbk rfl, k h2.wbk rfl, k h2.pbk rfl, h2.pool.keep (fun b cs hb => hb.elim (fun e => (k e rfl).trans e.symm) (fun e => (k e rfl).trans e.symm)), k h2.mbk rfl, ownsRow_keep h2.row (fun g cs e => (k e rfl).trans e.symm), fun i x hx => k (h2.nd i x hx) rfl, h2.inj, h2.lh, h2.lp, h2.ln⟩, h3⟩
theorem KS.keepA {lo : Nat} {w w' : World} {x : Kx} {v : Kv} (h : KS lo w x v) (hB : FH hotA lo w w') : KS lo w' x v := by
  obtain ⟨vr, r1, r2⟩ := h.r
  obtain ⟨v0, a1, a2⟩ := h.p0
  obtain ⟨v1, b1, b2⟩ := h.p1
  have hk := hB.cold
  exact ⟨hk _ _ _ h.k rfl, hk _ _ _ h.p rfl, ⟨vr, hk _ _ _ r1 rfl, hk _ _ _ r2 rfl⟩, ⟨v0, hk _ _ _ a1 rfl, hk _ _ _ a2 rfl⟩, ⟨v1, hk _ _ _ b1 rfl, hk _ _ _ b2 rfl⟩, hk _ _ _ h.l rfl, h.lr, h.l0, h.l1, h.ll, h.ne⟩
theorem LW.keepA {lo : Nat} {w w' : World} {wl cb : Nat} {x : Kx} (h : LW w wl cb x) (hB : FH hotA lo w w') : LW w' wl cb x := by
  obtain ⟨cg, cc, cur, h1, h2, h3⟩ := h.at_
  exact ⟨cg, cc, cur, hB.cold _ _ _ h1 rfl, hB.cold _ _ _ h2 rfl, h3⟩
/-- Within an operation that began in w: the operation, the root and the result lie in three new blocks. -/
structure SA (lo : Nat) (w : World) (wl cb : Nat) (x : Kx) (v : Kv) (ns : List Nd) (n : Nat) (xs : List Value) (log : Value) (op rt : Array Value) (W : World) : Prop where
  below : Below lo w W
  size : w.heap.size + 3 ≤ W.heap.size
  lw : LW W wl cb x
  cl : Cl lo W cb n xs log
  ks : KS lo W x v
  hs : HeapS lo W x.hb 5 1048576 ns []
  op : W.heap[w.heap.size]? = some (.cells op 78 (0, 0))
  rt : W.heap[w.heap.size + 1]? = some (.cells rt 28 (0, 0))
  res : W.heap[w.heap.size + 2]? = some (.cells #[.int .i64 0, .slice none 0 0, .int .i64 0] 28 (0, 0))
  lo_ : lo ≤ w.heap.size
section
variable {lo : Nat} {w W W' : World} {wl cb n : Nat} {x : Kx} {v : Kv} {ns : List Nd} {xs : List Value} {log : Value} {op rt : Array Value}
theorem SA.los (h : SA lo w wl cb x v ns n xs log op rt W) : lo ≤ W.heap.size := Nat.le_trans h.lo_ (Nat.le_trans (by omega) h.size)
theorem SA.under (h : SA lo w wl cb x v ns n xs log op rt W) (hB : Below W.heap.size W W') : SA lo w wl cb x v ns n xs log op rt W' :=
  ⟨h.below.trans (hB.mono h.los), Nat.le_trans h.size hB.size, h.lw.under hB, h.cl.under hB, h.ks.under hB, h.hs.under hB, up_below hB h.op, up_below hB h.rt, up_below hB h.res, h.lo_⟩
theorem SA.hot3 {v' : Kv} (h : SA lo w wl cb x v ns n xs log op rt W) (hT : FH hot3 lo W W') (hk : KS lo W' x v') : SA lo w wl cb x v' ns n xs log op rt W' :=
  ⟨h.below.trans hT.below, Nat.le_trans h.size hT.size, h.lw.keep (fun b vs t e ht => hT.cold b vs t e (hot3_K _ (hotK_L _ ht))), h.cl.keep (hT.up hot3_K), hk, h.hs.keepK hT, hT.cold _ _ _ h.op rfl, hT.cold _ _ _ h.rt rfl, hT.cold _ _ _ h.res rfl, h.lo_⟩
theorem SA.ft {ns' : List Nd} (h : SA lo w wl cb x v ns n xs log op rt W) (hT : FT lo W W') (hs : HeapS lo W' x.hb 5 1048576 ns' []) : SA lo w wl cb x v ns' n xs log op rt W' :=
  ⟨h.below.trans hT.below, Nat.le_trans h.size hT.size, h.lw.keep (fun b vs t e ht => (FH.of_ft hT).cold b vs t e (hotK_L _ ht)), h.cl.keep (FH.of_ft hT), h.ks.ft hT, hs, hT.cold _ _ h.op rfl, hT.cold _ _ h.rt rfl, hT.cold _ _ h.res rfl, h.lo_⟩
theorem SA.hotA (h : SA lo w wl cb x v ns n xs log op rt W) (hT : FH hotA lo W W') {n' : Nat} {xs' : List Value} {log' : Value} (hc : Cl lo W' cb n' xs' log') : SA lo w wl cb x v ns n' xs' log' op rt W' :=
  ⟨h.below.trans hT.below, Nat.le_trans h.size hT.size, h.lw.keepA hT, hc, h.ks.keepA hT, h.hs.keepA hT, hT.cold _ _ _ h.op rfl, hT.cold _ _ _ h.rt rfl, hT.cold _ _ _ h.res rfl, h.lo_⟩
/-- A new block of Refs may be written. -/
theorem SA.ref (h : SA lo w wl cb x v ns n xs log op rt W) {g : Nat} {vs : Array Value} (hg : W.heap[g]? = some (.cells vs 82 (0, 0))) (hlg : lo ≤ g) (hF : Fr (· = g) W W') : SA lo w wl cb x v ns n xs log op rt W' := by
  have k : ∀ {b : Nat} {us : Array Value} {t : TypeId}, W.heap[b]? = some (.cells us t (0, 0)) → t ≠ 82 → W'.heap[b]? = some (.cells us t (0, 0)) := fun {b us t} e ht => (hF.block b (Array.getElem?_eq_some_iff.1 e).1 (ne_of_types e hg ht)).trans e
  obtain ⟨cg, cc, cur, l1, l2, l3⟩ := h.lw.at_
  obtain ⟨vr, r1, r2⟩ := h.ks.r
  obtain ⟨v0, a1, a2⟩ := h.ks.p0
  obtain ⟨v1, b1, b2⟩ := h.ks.p1
  obtain ⟨c, cs, p, e1, e2, e3⟩ := h.hs
  exact ⟨h.below.trans (hF.below h.los (fun i hi => by have hi' : i = g := hi; rw [hi']; exact hlg)), Nat.le_trans h.size hF.size, ⟨cg, cc, cur, k l1 (by decide), k l2 (by decide), l3⟩, ⟨k h.cl.blk (by decide), ownsRow_keep h.cl.row (fun g cs e => (k e (by decide)).trans e.symm), h.cl.lc⟩,
    ⟨k h.ks.k (by decide), k h.ks.p (by decide), ⟨vr, k r1 (by decide), k r2 (by decide)⟩, ⟨v0, k a1 (by decide), k a2 (by decide)⟩, ⟨v1, k b1 (by decide), k b2 (by decide)⟩, k h.ks.l (by decide), h.ks.lr, h.ks.l0, h.ks.l1, h.ks.ll, h.ks.ne⟩,
    ⟨c, cs, p, e1, e2.keepT (fun b vs t e ht => (k e ht).trans e.symm), e3⟩, k h.op (by decide), k h.rt (by decide), k h.res (by decide), h.lo_⟩
/-- Another root in its box. -/
theorem SA.root (h : SA lo w wl cb x v ns n xs log op rt W) (hv : ∀ vb, W.heap[x.rb]? = some (.cells (rCs 4 0 vb) 94 (0, 0)) → vb ≠ w.heap.size + 1) {rt' : Array Value} (hF : Fr (· = w.heap.size + 1) W W') (hr : W'.heap[w.heap.size + 1]? = some (.cells rt' 28 (0, 0))) : SA lo w wl cb x v ns n xs log op rt' W' := by
  have k : ∀ {b : Nat} {us : Array Value} {t : TypeId}, W.heap[b]? = some (.cells us t (0, 0)) → t ≠ 28 → W'.heap[b]? = some (.cells us t (0, 0)) := fun {b us t} e ht => (hF.block b (Array.getElem?_eq_some_iff.1 e).1 (ne_of_types e h.rt ht)).trans e
  obtain ⟨cg, cc, cur, l1, l2, l3⟩ := h.lw.at_
  obtain ⟨vr, r1, r2⟩ := h.ks.r
  obtain ⟨v0, a1, a2⟩ := h.ks.p0
  obtain ⟨v1, b1, b2⟩ := h.ks.p1
  obtain ⟨c, cs, p, e1, e2, e3⟩ := h.hs
  have hl := h.lo_
  exact ⟨h.below.trans (hF.below h.los (fun i hi => by have hi' : i = w.heap.size + 1 := hi; omega)), Nat.le_trans h.size hF.size, ⟨cg, cc, cur, k l1 (by decide), k l2 (by decide), l3⟩, ⟨k h.cl.blk (by decide), ownsRow_keep h.cl.row (fun g cs e => (k e (by decide)).trans e.symm), h.cl.lc⟩,
    ⟨k h.ks.k (by decide), k h.ks.p (by decide), ⟨vr, k r1 (by decide), (hF.block _ (Array.getElem?_eq_some_iff.1 r2).1 (hv vr r1)).trans r2⟩, ⟨v0, k a1 (by decide), k a2 (by decide)⟩, ⟨v1, k b1 (by decide), k b2 (by decide)⟩, k h.ks.l (by decide), h.ks.lr, h.ks.l0, h.ks.l1, h.ks.ll, h.ks.ne⟩,
    ⟨c, cs, p, e1, ⟨k e2.hbk (by decide), k e2.wbk (by decide), k e2.pbk (by decide), e2.pool.keep (fun b cs hb => hb.elim (fun e => (k e (by decide)).trans e.symm) (fun e => (k e (by decide)).trans e.symm)), k e2.mbk (by decide), ownsRow_keep e2.row (fun g cs e => (k e (by decide)).trans e.symm), fun i x hx => k (e2.nd i x hx) (by decide), e2.inj, e2.lh, e2.lp, e2.ln⟩, e3⟩, k h.op (by decide), hr, (hF.block _ (Array.getElem?_eq_some_iff.1 h.res).1 (by show w.heap.size + 2 ≠ w.heap.size + 1; omega)).trans h.res, h.lo_⟩
/-- One answer more in the client's log. -/
theorem SA.logged (h : SA lo w wl cb x v ns n xs log op rt W) {o : Obj} {Z : World} {g c : Nat} (r1 : Z.ownsRow lo 130 5 (.slice (some ⟨g, 0, none⟩) (n + 1) c) (n + 1) (xs ++ ansL)) (r2 : (W.alloc o).grownBy Z log.ownBlock) :
    SA lo w wl cb x v ns (n + 1) (xs ++ ansL) (.slice (some ⟨g, 0, none⟩) (n + 1) c) op rt (Z.setCell ⟨cb, 3, none⟩ (.slice (some ⟨g, 0, none⟩) (n + 1) c)) := by
  have hbk : ∀ g', log.ownBlock = some g' → lo ≤ g' ∧ ∃ cs, W.heap[g']? = some (.cells cs 130 (0, 0)) := fun g' e => by
    obtain ⟨-, h2⟩ := h.cl.row
    rcases h2 with ⟨hv, -⟩ | ⟨g2, cap', cur, hv, hg, hh, -⟩
    · rw [hv] at e; cases e
    · rw [hv] at e; cases e; exact ⟨hg, cur, hh⟩
  have hB : Below W.heap.size W (W.alloc o) := (Below.refl _ W).alloc (Nat.le_refl _) _
  have hFZ : Fr (fun i => log.ownBlock = some i) W Z := (Fr.of_below hB).grown r2 (fun g e => .inl e)
  have kZ : ∀ {b : Nat} {us : Array Value} {t : TypeId}, W.heap[b]? = some (.cells us t (0, 0)) → t ≠ 130 → Z.heap[b]? = some (.cells us t (0, 0)) := fun {b us t} e ht => (hFZ.block b (Array.getElem?_eq_some_iff.1 e).1 (fun hb => by obtain ⟨-, cs, hc⟩ := hbk b hb; exact ne_of_types e hc ht rfl)).trans e
  have kC := kZ h.cl.blk (by decide)
  have hF2 : Fr (· = cb) Z (Z.setCell ⟨cb, 3, none⟩ (.slice (some ⟨g, 0, none⟩) (n + 1) c)) := (Fr.refl _ Z).set _ _ (.inl rfl)
  have kY : ∀ {b : Nat} {us : Array Value} {t : TypeId}, Z.heap[b]? = some (.cells us t (0, 0)) → t ≠ 124 → (Z.setCell ⟨cb, 3, none⟩ (.slice (some ⟨g, 0, none⟩) (n + 1) c)).heap[b]? = some (.cells us t (0, 0)) := fun {b us t} e ht => (hF2.block b (Array.getElem?_eq_some_iff.1 e).1 (ne_of_types e kC ht)).trans e
  have hT : FH Proofs.Ytloeongljbgmnaa.hotA lo W (Z.setCell ⟨cb, 3, none⟩ (.slice (some ⟨g, 0, none⟩) (n + 1) c)) := ⟨(hFZ.below h.los (fun i hi => (hbk i hi).1)).trans (hF2.below (Nat.le_trans h.los hFZ.size) (fun i hi => by have hi' : i = cb := hi; rw [hi']; exact h.cl.lc)), fun b vs t e ht => by
    have t1 : t ≠ 130 := fun h => by rw [h] at ht; cases ht
    have t2 : t ≠ 124 := fun h => by rw [h] at ht; cases ht
    exact kY (kZ e t1) t2⟩
  exact h.hotA hT ⟨heap_setCell_same Z cb 3 _ _ _ kC, ownsRow_keep r1 (fun g cs e => (kY e (by decide)).trans e.symm), h.cl.lc⟩
end
end Go.Proofs.Ytloeongljbgmnaa
