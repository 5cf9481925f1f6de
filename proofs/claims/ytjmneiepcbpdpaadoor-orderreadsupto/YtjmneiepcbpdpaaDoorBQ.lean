import Derived.Test.YtjmneiepcbpdpaaDoorBM
/-! The reader's objects: what lies in memory. -/
namespace Go.Proofs.YtjmneiepcbpdpaaDoor
open Go Go.RowKit Go.Maps

theorem make_none (w : World) : (Instr.makeMap 80 none).run Tryd.prog w = .ok (.map (some w.heap.size)) (w.alloc (.map #[] 0)) := by
  simp [Instr.makeMap, go_sem]
/-- An object under way. -/
structure OAt (w : World) (r g cap n q : Nat) (ns : List ByteArray) (its : List Tr) (xs : List Value) (an : Option Addr) (cn : Nat) (ao : Option Addr) (ci : Nat) (wr : World) : Prop where
  lat : LAt w r g cap n q 6 (.slice an ns.length cn) (.slice ao its.length ci) wr
  set : SetAt (w.heap.size + 2) ns wr
  names : wr.ownsRow (w.heap.size + 3) 9 1 (.slice an ns.length cn) ns.length (strs ns)
  items : wr.ownsRow (w.heap.size + 3) 25 5 (.slice ao its.length ci) its.length xs
  apart : ∀ j, (Value.slice an ns.length cn).ownBlock = some j → (Value.slice ao its.length ci).ownBlock ≠ some j
  seen : ItsSeen w (fun j => j = w.heap.size + 2 ∨ (Value.slice an ns.length cn).ownBlock = some j ∨ (Value.slice ao its.length ci).ownBlock = some j) its xs wr
theorem OAt.next {w wr w' : World} {r g cap n q q' : Nat} {ns : List ByteArray} {its : List Tr} {xs : List Value} {an : Option Addr} {cn : Nat} {ao : Option Addr} {ci : Nat} (h : OAt w r g cap n q ns its xs an cn ao ci wr) (hr : r < w.heap.size) (hA : At w' r g cap n q') (hF : Fr (· = r) wr w') : OAt w r g cap n q' ns its xs an cn ao ci w' :=
  ⟨h.lat.next hr hA hF, h.set.keep (hF.block _ h.set.lt (by omega)), ownsRow_keep h.names (fun j hj => hF.block j (ownsRow_ge h.names hj).2 (by have := (ownsRow_ge h.names hj).1; omega)), ownsRow_keep h.items (fun j hj => hF.block j (ownsRow_ge h.items hj).2 (by have := (ownsRow_ge h.items hj).1; omega)), h.apart, h.seen.next hr hF⟩
/-- A member more is being laid: the box tells the lists as they were, N and I are as far as they have come. -/
structure OM (w : World) (r g cap n q : Nat) (nm it : Value) (ns : List ByteArray) (N I : Value) (nN : Nat) (sN : List Value) (nI : Nat) (xI : List Value) (its : List Tr) (xs : List Value) (u : Tr) (cs : List Value) (W : World) : Prop where
  lat : LAt w r g cap n q 6 nm it W
  set : SetAt (w.heap.size + 2) ns W
  names : W.ownsRow (w.heap.size + 3) 9 1 N nN sN
  items : W.ownsRow (w.heap.size + 3) 25 5 I nI xI
  apart : ∀ j, N.ownBlock = some j → I.ownBlock ≠ some j
  seen : ItsSeen w (fun j => j = w.heap.size + 2 ∨ N.ownBlock = some j ∨ I.ownBlock = some j) its xs W
  one : Seen W (fun j => w.heap.size + 2 < j ∧ N.ownBlock ≠ some j ∧ I.ownBlock ≠ some j) u cs
section
variable {w W : World} {r g cap n q : Nat} {nm it : Value} {ns : List ByteArray} {N I : Value} {nN : Nat} {sN : List Value} {nI : Nat} {xI : List Value} {its : List Tr} {xs : List Value} {u : Tr} {cs : List Value}
theorem OM.size (h : OM w r g cap n q nm it ns N I nN sN nI xI its xs u cs W) : w.heap.size + 3 ≤ W.heap.size := by
  have := h.set.lt
  omega
theorem OM.drew (h : OM w r g cap n q nm it ns N I nN sN nI xI its xs u cs W) : OM w r g cap n q nm it ns N I nN sN nI xI its xs u cs W.drew :=
  ⟨⟨h.lat.at_, h.lat.fr.drew, h.lat.res, h.lat.box⟩, h.set, h.names, h.items, h.apart, h.seen, h.one⟩
theorem OM.alloc (hr : r < w.heap.size) (h : OM w r g cap n q nm it ns N I nN sN nI xI its xs u cs W) (o : Obj) : OM w r g cap n q nm it ns N I nN sN nI xI its xs u cs (W.alloc o) := by
  have hF : Fr (· = r) W (W.alloc o) := (Fr.refl _ W).alloc o
  have hb : ∀ j, j < W.heap.size → (W.alloc o).heap[j]? = W.heap[j]? := fun j hj => Below.heap_alloc W o j hj
  exact ⟨h.lat.next hr ((hb _ h.lat.at_.lt).trans h.lat.at_) hF, h.set.keep (hb _ h.set.lt), ownsRow_keep h.names (fun j hj => hb j (ownsRow_ge h.names hj).2), ownsRow_keep h.items (fun j hj => hb j (ownsRow_ge h.items hj).2), h.apart, h.seen.next hr hF, h.one.keep ((Below.refl _ W).alloc (Nat.le_refl _) o)⟩
theorem OM.growN (hr : r < w.heap.size) {W' : World} {g4 m4 c4 : Nat} {s4 : List Value} (h : OM w r g cap n q nm it ns N I nN sN nI xI its xs u cs W) (hgrow : W.grownBy W' N.ownBlock) (hat : N.ownBlock = some g4 ∨ g4 = W.heap.size)
    (hown : W'.ownsRow (w.heap.size + 3) 9 1 (.slice (some ⟨g4, 0, none⟩) m4 c4) m4 s4) : OM w r g cap n q nm it ns (.slice (some ⟨g4, 0, none⟩) m4 c4) I m4 s4 nI xI its xs u cs W' := by
  have own_lt : ∀ j, N.ownBlock = some j → w.heap.size + 3 ≤ j ∧ j < W.heap.size := fun j hj => ownsRow_ge h.names hj
  have own_li : ∀ j, I.ownBlock = some j → w.heap.size + 3 ≤ j ∧ j < W.heap.size := fun j hj => ownsRow_ge h.items hj
  have far : ∀ j, j < W.heap.size → N.ownBlock ≠ some j → W'.heap[j]? = W.heap[j]? := fun j hj hne => hgrow.block j hj (fun e => hne e.symm)
  have hsz := hgrow.size
  have hws := h.size
  have old : ∀ j, j < w.heap.size + 3 → W'.heap[j]? = W.heap[j]? := fun j hj => far j (by omega) (fun e => by have := own_lt j e; omega)
  have g4i : I.ownBlock ≠ some g4 := fun e => by
    rcases hat with h' | h'
    · exact h.apart g4 h' e
    · have := own_li g4 e; omega
  have gone : ∀ j, j < W.heap.size → N.ownBlock ≠ some j → (Value.slice (some ⟨g4, 0, none⟩) m4 c4).ownBlock ≠ some j := fun j hj hne e => by
    have e' : g4 = j := by simpa [Value.ownBlock] using e
    rcases hat with h' | h'
    · exact hne (by rw [h', e'])
    · omega
  refine ⟨⟨(old _ (by omega)).trans h.lat.at_, h.lat.fr.grown hgrow (fun g hg => .inr (by have := own_lt g hg; omega)), (old _ (by omega)).trans h.lat.res, (old _ (by omega)).trans h.lat.box⟩, h.set.keep (old _ (by omega)), hown, ownsRow_keep h.items (fun j hj => far j (own_li j hj).2 (fun e => h.apart j e hj)), fun j hj e => ?_, fun W2 a => ?_, fun W2 a => ?_⟩
  · have e' : g4 = j := by simpa [Value.ownBlock] using hj
    exact g4i (by rw [e']; exact e)
  · refine h.seen W2 ⟨Nat.le_trans hsz a.1, fun p v hp hv => ?_⟩
    have hl := lt_of_cell hv
    have h1 : N.ownBlock ≠ some p.block := fun e => hp.2 (.inr (.inl e))
    refine a.2 p v ⟨hp.1, fun e => ?_⟩ ((World.cell?_of_block (w := W) (a := p) (far _ hl h1)).trans hv)
    rcases e with e | e | e
    · exact hp.2 (.inl e)
    · exact gone _ hl h1 e
    · exact hp.2 (.inr (.inr e))
  · refine h.one W2 ⟨Nat.le_trans hsz a.1, fun p v hp hv => ?_⟩
    have hl := lt_of_cell hv
    exact a.2 p v ⟨hp.1, gone _ hl hp.2.1, hp.2.2⟩ ((World.cell?_of_block (w := W) (a := p) (far _ hl hp.2.1)).trans hv)
theorem OM.growI (hr : r < w.heap.size) {W' : World} {g4 m4 c4 : Nat} {s4 : List Value} (h : OM w r g cap n q nm it ns N I nN sN nI xI its xs u cs W) (hgrow : W.grownBy W' I.ownBlock) (hat : I.ownBlock = some g4 ∨ g4 = W.heap.size)
    (hown : W'.ownsRow (w.heap.size + 3) 25 5 (.slice (some ⟨g4, 0, none⟩) m4 c4) m4 s4) : OM w r g cap n q nm it ns N (.slice (some ⟨g4, 0, none⟩) m4 c4) nN sN m4 s4 its xs u cs W' := by
  have own_lt : ∀ j, I.ownBlock = some j → w.heap.size + 3 ≤ j ∧ j < W.heap.size := fun j hj => ownsRow_ge h.items hj
  have own_li : ∀ j, N.ownBlock = some j → w.heap.size + 3 ≤ j ∧ j < W.heap.size := fun j hj => ownsRow_ge h.names hj
  have far : ∀ j, j < W.heap.size → I.ownBlock ≠ some j → W'.heap[j]? = W.heap[j]? := fun j hj hne => hgrow.block j hj (fun e => hne e.symm)
  have hsz := hgrow.size
  have hws := h.size
  have old : ∀ j, j < w.heap.size + 3 → W'.heap[j]? = W.heap[j]? := fun j hj => far j (by omega) (fun e => by have := own_lt j e; omega)
  have g4i : N.ownBlock ≠ some g4 := fun e => by
    rcases hat with h' | h'
    · exact h.apart g4 e h'
    · have := own_li g4 e; omega
  have gone : ∀ j, j < W.heap.size → I.ownBlock ≠ some j → (Value.slice (some ⟨g4, 0, none⟩) m4 c4).ownBlock ≠ some j := fun j hj hne e => by
    have e' : g4 = j := by simpa [Value.ownBlock] using e
    rcases hat with h' | h'
    · exact hne (by rw [h', e'])
    · omega
  refine ⟨⟨(old _ (by omega)).trans h.lat.at_, h.lat.fr.grown hgrow (fun g hg => .inr (by have := own_lt g hg; omega)), (old _ (by omega)).trans h.lat.res, (old _ (by omega)).trans h.lat.box⟩, h.set.keep (old _ (by omega)), ownsRow_keep h.names (fun j hj => far j (own_li j hj).2 (fun e => h.apart j hj e)), hown, fun j hj e => ?_, fun W2 a => ?_, fun W2 a => ?_⟩
  · have e' : g4 = j := by simpa [Value.ownBlock] using e
    exact g4i (by rw [e']; exact hj)
  · refine h.seen W2 ⟨Nat.le_trans hsz a.1, fun p v hp hv => ?_⟩
    have hl := lt_of_cell hv
    have h1 : I.ownBlock ≠ some p.block := fun e => hp.2 (.inr (.inr e))
    refine a.2 p v ⟨hp.1, fun e => ?_⟩ ((World.cell?_of_block (w := W) (a := p) (far _ hl h1)).trans hv)
    rcases e with e | e | e
    · exact hp.2 (.inl e)
    · exact hp.2 (.inr (.inl e))
    · exact gone _ hl h1 e
  · refine h.one W2 ⟨Nat.le_trans hsz a.1, fun p v hp hv => ?_⟩
    have hl := lt_of_cell hv
    exact a.2 p v ⟨hp.1, hp.2.1, gone _ hl hp.2.2⟩ ((World.cell?_of_block (w := W) (a := p) (far _ hl hp.2.2)).trans hv)
end
/-- The beginning: a name and an item have been read. -/
theorem om_start {w w1 w2 w3 : World} {r g cap n q q3 : Nat} {ns : List ByteArray} {its : List Tr} {xs : List Value} {an : Option Addr} {cn : Nat} {ao : Option Addr} {ci : Nat} {ns2 : List ByteArray} {u : Tr} {cs : List Value} (hr : r < w.heap.size) (h : OAt w r g cap n q ns its xs an cn ao ci w1)
    (hF2 : Fr (fun k => k = r ∨ k = w.heap.size + 2) w1 w2) (hS2 : SetAt (w.heap.size + 2) ns2 w2) (hF3 : Fr (· = r) w2 w3) (hA3 : At w3 r g cap n q3) (hu : Seen w3 (fun j => w2.heap.size ≤ j) u cs) :
    OM w r g cap n q3 (.slice an ns.length cn) (.slice ao its.length ci) ns2 (.slice an ns.length cn) (.slice ao its.length ci) ns.length (strs ns) its.length xs its xs u cs w3 := by
  have s2 := hF2.size
  have s3 := hF3.size
  have l2 := h.set.lt
  have far : ∀ j, j < w1.heap.size → j ≠ r → j ≠ w.heap.size + 2 → w3.heap[j]? = w1.heap[j]? := fun j hj h1 h2 => (hF3.block j (by omega) h1).trans (hF2.block j hj (fun e => e.elim h1 h2))
  refine ⟨⟨hA3, (h.lat.fr.next hF2 (fun i e => e.elim .inl (fun e => .inr (by omega)))).trans hF3, (far _ (by omega) (by omega) (by omega)).trans h.lat.res, (far _ (by omega) (by omega) (by omega)).trans h.lat.box⟩, hS2.keep (hF3.block _ hS2.lt (by omega)), ownsRow_keep h.names (fun j hj => ?_), ownsRow_keep h.items (fun j hj => ?_), h.apart, fun W2 a => ?_, ?_⟩
  · have := ownsRow_ge h.names hj
    exact far j this.2 (by omega) (by omega)
  · have := ownsRow_ge h.items hj
    exact far j this.2 (by omega) (by omega)
  · refine h.seen W2 ⟨by have := a.1; omega, fun p v hp hv => ?_⟩
    exact a.2 p v hp ((World.cell?_of_block (w := w1) (a := p) (far _ (lt_of_cell hv) (by omega) (fun e => hp.2 (.inl e)))).trans hv)
  · refine hu.wide (fun j hj => ⟨by omega, fun e => ?_, fun e => ?_⟩)
    · have := ownsRow_ge h.names e; omega
    · have := ownsRow_ge h.items e; omega
/-- The end: the box tells both lists. -/
theorem om_fin {w W : World} {r g cap n q : Nat} {nm it : Value} {ns : List ByteArray} {g4 c4 g5 c5 : Nat} {s : ByteArray} {its : List Tr} {xs : List Value} {u : Tr} {cs : List Value} (hr : r < w.heap.size) (hcs : cs.length = 5)
    (h : OM w r g cap n q nm it (ns ++ [s]) (.slice (some ⟨g4, 0, none⟩) (ns.length + 1) c4) (.slice (some ⟨g5, 0, none⟩) (its.length + 1) c5) (ns.length + 1) (strs ns ++ [.string s]) (its.length + 1) (xs ++ cs) its xs u cs W) :
    OAt w r g cap n q (ns ++ [s]) (its ++ [u]) (xs ++ cs) (some ⟨g4, 0, none⟩) c4 (some ⟨g5, 0, none⟩) c5 ((W.setCell ⟨w.heap.size + 1, 3, none⟩ (.slice (some ⟨g4, 0, none⟩) (ns.length + 1) c4)).setCell ⟨w.heap.size + 1, 4, none⟩ (.slice (some ⟨g5, 0, none⟩) (its.length + 1) c5)) := by
  have e1 : (ns ++ [s]).length = ns.length + 1 := by simp
  have e2 : (its ++ [u]).length = its.length + 1 := by simp
  have hws := h.size
  generalize hZ : (W.setCell ⟨w.heap.size + 1, 3, none⟩ (.slice (some ⟨g4, 0, none⟩) (ns.length + 1) c4)).setCell ⟨w.heap.size + 1, 4, none⟩ (.slice (some ⟨g5, 0, none⟩) (its.length + 1) c5) = Z
  have far : ∀ j, j ≠ w.heap.size + 1 → Z.heap[j]? = W.heap[j]? := fun j hj => by rw [← hZ]; exact (Below.heap_setCell _ _ _ _ hj).trans (Below.heap_setCell _ _ _ _ hj)
  have hsz : Z.heap.size = W.heap.size := by rw [← hZ]; simp [World.setCell]
  have hF : Fr (· = r) w Z := by rw [← hZ]; exact (h.lat.fr.set _ _ (.inr (by show w.heap.size ≤ w.heap.size + 1; omega))).set _ _ (.inr (by show w.heap.size ≤ w.heap.size + 1; omega))
  have hbox : Z.heap[w.heap.size + 1]? = some (.cells #[.int .i64 6, .int .i64 0, .string ⟨#[]⟩, .slice (some ⟨g4, 0, none⟩) (ns.length + 1) c4, .slice (some ⟨g5, 0, none⟩) (its.length + 1) c5] 25 (0, 0)) := by
    rw [← hZ]
    simp [World.setCell, Array.getElem?_modify, h.lat.box]
  have g4l := ownsRow_ge h.names (g := g4) rfl
  have g5l := ownsRow_ge h.items (g := g5) rfl
  refine ⟨⟨(far _ (by omega)).trans h.lat.at_, hF, (far _ (by omega)).trans h.lat.res, ?_⟩, h.set.keep (far _ (by omega)), ?_, ?_, ?_, ?_⟩
  · rw [e1, e2]; exact hbox
  · rw [e1, strs_snoc]
    exact ownsRow_keep h.names (fun j hj => by cases hj; exact far g4 (by omega))
  · rw [e2]
    exact ownsRow_keep h.items (fun j hj => by cases hj; exact far g5 (by omega))
  · rw [e1, e2]; exact h.apart
  · rw [e1, e2]
    intro W2 a
    have hs := a.1
    rw [hsz] at hs
    refine ItemsRep.snoc hcs (h.one W2 ⟨hs, fun p v hp hv => a.2 p v ⟨by omega, fun e => ?_⟩ ?_⟩) (h.seen W2 ⟨hs, fun p v hp hv => a.2 p v hp ?_⟩)
    · rcases e with e | e | e
      · omega
      · exact hp.2.1 e
      · exact hp.2.2 e
    · exact (World.cell?_of_block (w := W) (a := p) (far _ (by omega))).trans hv
    · exact (World.cell?_of_block (w := W) (a := p) (far _ (by omega))).trans hv
/-- The end of an object. -/
theorem obj_end {w wr : World} {r g cap n q : Nat} {ns : List ByteArray} {its : List Tr} {xs : List Value} {an : Option Addr} {cn : Nat} {ao : Option Addr} {ci : Nat} (h : OAt w r g cap n q ns its xs an cn ao ci wr) (hni : ns.length = its.length) (c0 c1 c2 c3 c4 : Value) :
    Seen (put5 wr w.heap.size c0 c1 c2 c3 c4) (fun j => w.heap.size ≤ j) (.node 6 0 ⟨#[]⟩ ns its) (five 6 0 ⟨#[]⟩ (.slice an ns.length cn) (.slice ao its.length ci)) := by
  intro W' hW
  have hAll : ∀ p v, w.heap.size < p.block → wr.cell? p = some v → W'.cell? p = some v := fun p v hp hv =>
    hW.2 p v (by omega) ((World.cell?_of_block (w := wr) (a := p) (put5_far _ _ _ _ _ (by omega))).trans hv)
  have hsz : wr.heap.size ≤ W'.heap.size := by have := hW.1; rw [put5_size] at this; exact this
  have hI := h.seen W' ⟨hsz, fun p v hp hv => hAll p v (by omega) hv⟩
  have hR : Reads W' (.slice an ns.length cn) ns := by
    rcases h.names.2 with ⟨hv, h0⟩ | ⟨gi, ci', cur, hv, hg, hh, hc, hm, rr⟩
    · have e := List.eq_nil_of_length_eq_zero h0
      subst e
      exact ⟨an, cn, rfl, ⟨Nat.zero_le _, by injection hv with _ _ h3; omega⟩, .inl rfl⟩
    · cases hv
      exact own_reads (S := fun j => w.heap.size < j) h.names (by show w.heap.size < gi; omega) ⟨hsz, fun p v hp hv => hAll p v hp hv⟩
  unfold VRep
  rcases h.items.2 with ⟨hv, h0⟩ | ⟨gi, ci', cur, hv, hg, hh, hc, hm, rr⟩
  · have e := List.eq_nil_of_length_eq_zero h0
    subst e
    exact ⟨_, ao, ci, rfl, hR, ⟨Nat.zero_le _, by injection hv with _ _ h3; omega⟩, .inl rfl⟩
  · cases hv
    refine ⟨_, _, ci, rfl, hR, ⟨hc, by unfold maxLen at hm; omega⟩, .inr ⟨gi, 0, rfl, Nat.lt_of_lt_of_le (Array.getElem?_eq_some_iff.1 hh).1 hsz, items_rep hI (fun j u hj => hAll ⟨gi, j, none⟩ u (by show w.heap.size < gi; omega) (row_cell h.items j u hj))⟩⟩
end Go.Proofs.YtjmneiepcbpdpaaDoor
