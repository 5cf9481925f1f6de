import Derived.Test.YtlkomknjgfjnlaaGreatDoorPT
import Derived.Test.YtlkomknjgfjnlaaGreatDoorPA
import Derived.Test.YtlkomknjgfjnlaaGreatDoorY1
/-! The document's reader of texts: values, lists and objects in memory. -/
namespace Go.Proofs.YtlkomknjgfjnlaaGreatDoor.Tree
open Go Go.RowKit

/-- What the reader is behind a value: the place but for blanks behind it. -/
def VSt {α : Type} (w : World) (r : Nat) (T : ByteArray) : Res α → Prop
  | .ok _ q => ∃ m : Nat, q ≤ m ∧ m ≤ T.size ∧ skip T m = skip T q ∧ RT w r T (m : Int) 0 0
  | .bad e p => e ≠ 0 ∧ ∃ z : Int, RT w r T z (e : Int) (p : Int)
theorem VSt.keepF {α : Type} {S : Nat → Prop} {w w' : World} {r : Nat} {T : ByteArray} {R : Res α} (h : VSt w r T R) (f : Fr S w w') (hr : ¬ S r) : VSt w' r T R := by
  cases R with
  | ok x q => obtain ⟨m, h1, h2, h3, h4⟩ := h; exact ⟨m, h1, h2, h3, RT.keep h4 f hr⟩
  | bad e pl => exact ⟨h.1, h.2.choose, RT.keep h.2.choose_spec f hr⟩
theorem VSt.keep {α : Type} {w w' : World} {r : Nat} {T : ByteArray} {R : Res α} (h : VSt w r T R) (f : Fr (fun _ => False) w w') : VSt w' r T R := h.keepF f (fun e => e)
theorem VSt.put5 {α : Type} {w : World} {r : Nat} {T : ByteArray} {R : Res α} (h : VSt w r T R) {g : Nat} (hg : r ≠ g) (a0 a1 a2 a3 a4 : Value) : VSt (put5 w g a0 a1 a2 a3 a4) r T R := by
  cases R with
  | ok x q => obtain ⟨m, h1, h2, h3, h4⟩ := h; exact ⟨m, h1, h2, h3, (put5_far _ _ _ _ _ hg).trans h4⟩
  | bad e pl => exact ⟨h.1, h.2.choose, (put5_far _ _ _ _ _ hg).trans h.2.choose_spec⟩
theorem VSt.of {α β : Type} {w : World} {r : Nat} {T : ByteArray} {R : Res α} (f : α → β) (h : RSt w r T R) (hq : ∀ x q, R = .ok x q → q ≤ T.size) : VSt w r T (R.map f) := by
  cases R with
  | ok x q => exact ⟨q, Nat.le_refl _, hq x q rfl, rfl, h⟩
  | bad e pl => exact h
/-- What a call of value, list or object comes to. -/
def RValPost (w : World) (r : Nat) (T : ByteArray) (R : Res J) (x : Ending) (w' : World) : Prop :=
  ∃ k x0 s an ln cn ai li ci, x = .returned (.agg #[.int .i64 k, .int .i64 x0, .string s, .slice an ln cn, .slice ai li ci]) ∧ (∀ j q, R = .ok j q → Seen w' (fun b => w.heap.size ≤ b) (ofJ j) (five k x0 s (.slice an ln cn) (.slice ai li ci))) ∧ VSt w' r T R ∧ Fr (· = r) w w'
theorem seen_flat (w : World) (S : Nat → Prop) (k x : Int) (s : ByteArray) : Seen w S (.node k x s [] []) (five k x s (.slice none 0 0) (.slice none 0 0)) := fun W' _ => by
  unfold VRep
  exact ⟨_, none, 0, rfl, ⟨none, 0, rfl, ⟨Nat.le_refl _, by omega⟩, .inl rfl⟩, ⟨Nat.le_refl _, by omega⟩, .inl rfl⟩
/-- The items that were read: in new blocks, but for the boxes and the rows. -/
def ItsSeen (w : World) (P : Nat → Prop) (ts : List Tr) (xs : List Value) (wr : World) : Prop := ∀ W', Agree (fun j => w.heap.size + 1 < j ∧ ¬ P j) wr W' → ItemsRep W' ts xs
theorem ItsSeen.next {w wr w' : World} {r : Nat} {P : Nat → Prop} {ts : List Tr} {xs : List Value} (h : ItsSeen w P ts xs wr) (hr : r < w.heap.size) (hF : Fr (· = r) wr w') : ItsSeen w P ts xs w' := fun W' a =>
  h W' ⟨Nat.le_trans hF.size a.1, fun p u hp hc => a.2 p u hp (hF.cell hc (by omega))⟩
theorem items_rep {W' : World} {gi : Nat} {its : List Tr} {xs : List Value} (hI : ItemsRep W' its xs) (hc : ∀ j u, xs[j]? = some u → W'.cell? ⟨gi, j, none⟩ = some u) : VRepL W' gi 0 its :=
  ItemsRep.list its xs 0 hI (fun j u hj => by rw [Nat.zero_add]; exact hc j u hj)
/-- Lists under way: the box tells nm and it; N and I are as far as they have come. -/
structure QM (w : World) (r : Nat) (k : Int) (nm it : Value) (N I : Value) (nN : Nat) (sN : List Value) (nI : Nat) (xI : List Value) (its : List Tr) (xs : List Value) (W : World) : Prop where
  rl : r < w.heap.size
  fr : Fr (· = r) w W
  res : W.heap[w.heap.size]? = some (.cells #[.int .i64 0, .int .i64 0, .string ⟨#[]⟩, .slice none 0 0, .slice none 0 0] 25 (0, 0))
  box : W.heap[w.heap.size + 1]? = some (.cells #[.int .i64 k, .int .i64 0, .string ⟨#[]⟩, nm, it] 25 (0, 0))
  names : W.ownsRow (w.heap.size + 2) 9 1 N nN sN
  items : W.ownsRow (w.heap.size + 2) 25 5 I nI xI
  apart : ∀ j, N.ownBlock = some j → I.ownBlock ≠ some j
  seen : ItsSeen w (fun j => N.ownBlock = some j ∨ I.ownBlock = some j) its xs W
section
variable {w W : World} {r : Nat} {k : Int} {nm it : Value} {N I : Value} {nN : Nat} {sN : List Value} {nI : Nat} {xI : List Value} {its : List Tr} {xs : List Value}
theorem QM.size (h : QM w r k nm it N I nN sN nI xI its xs W) : w.heap.size + 2 ≤ W.heap.size := (Array.getElem?_eq_some_iff.1 h.box).1
theorem QM.blind (h : QM w r k nm it N I nN sN nI xI its xs W) : QM w r k nm it N I nN sN nI xI [] [] W := ⟨h.rl, h.fr, h.res, h.box, h.names, h.items, h.apart, fun W' _ => by unfold ItemsRep; rfl⟩
theorem QM.next {W' : World} (h : QM w r k nm it N I nN sN nI xI its xs W) (hF : Fr (· = r) W W') : QM w r k nm it N I nN sN nI xI its xs W' := by
  have hs := h.size
  have hr := h.rl
  exact ⟨h.rl, h.fr.trans hF, (hF.block _ (by omega) (by omega)).trans h.res, (hF.block _ (by omega) (by omega)).trans h.box, ownsRow_keep h.names (fun j hj => hF.block j (ownsRow_ge h.names hj).2 (by have := (ownsRow_ge h.names hj).1; omega)), ownsRow_keep h.items (fun j hj => hF.block j (ownsRow_ge h.items hj).2 (by have := (ownsRow_ge h.items hj).1; omega)), h.apart, h.seen.next hr hF⟩
theorem QM.alloc (h : QM w r k nm it N I nN sN nI xI its xs W) (o : Obj) : QM w r k nm it N I nN sN nI xI its xs (W.alloc o) := h.next ((Fr.refl _ W).alloc o)
theorem QM.drew (h : QM w r k nm it N I nN sN nI xI its xs W) : QM w r k nm it N I nN sN nI xI its xs W.drew := h.next ((Fr.refl _ W).drew)
/-- One more was read. -/
theorem QM.read {W' : World} {u : Tr} {cs : List Value} (h : QM w r k nm it N I nN sN nI xI its xs W) (hF : Fr (· = r) W W') (hu : Seen W' (fun j => W.heap.size ≤ j) u cs) (hcs : cs.length = 5) : QM w r k nm it N I nN sN nI xI (its ++ [u]) (xs ++ cs) W' := by
  have h' := h.next hF
  have hs := h.size
  refine ⟨h'.rl, h'.fr, h'.res, h'.box, h'.names, h'.items, h'.apart, fun W2 a => ?_⟩
  refine ItemsRep.snoc hcs (hu W2 ⟨a.1, fun p v hp hv => a.2 p v ⟨by omega, fun e => ?_⟩ hv⟩) (h'.seen W2 a)
  rcases e with e | e
  · have := (ownsRow_ge h.names e).2; omega
  · have := (ownsRow_ge h.items e).2; omega
theorem QM.growN {W' : World} {g4 m4 c4 : Nat} {s4 : List Value} (h : QM w r k nm it N I nN sN nI xI its xs W) (hgrow : W.grownBy W' N.ownBlock) (hat : N.ownBlock = some g4 ∨ g4 = W.heap.size)
    (hown : W'.ownsRow (w.heap.size + 2) 9 1 (.slice (some ⟨g4, 0, none⟩) m4 c4) m4 s4) : QM w r k nm it (.slice (some ⟨g4, 0, none⟩) m4 c4) I m4 s4 nI xI its xs W' := by
  have own_lt : ∀ j, N.ownBlock = some j → w.heap.size + 2 ≤ j ∧ j < W.heap.size := fun j hj => ownsRow_ge h.names hj
  have own_li : ∀ j, I.ownBlock = some j → w.heap.size + 2 ≤ j ∧ j < W.heap.size := fun j hj => ownsRow_ge h.items hj
  have far : ∀ j, j < W.heap.size → N.ownBlock ≠ some j → W'.heap[j]? = W.heap[j]? := fun j hj hne => hgrow.block j hj (fun e => hne e.symm)
  have hsz := hgrow.size
  have hws := h.size
  have old : ∀ j, j < w.heap.size + 2 → W'.heap[j]? = W.heap[j]? := fun j hj => far j (by omega) (fun e => by have := own_lt j e; omega)
  have g4i : I.ownBlock ≠ some g4 := fun e => by
    rcases hat with h' | h'
    · exact h.apart g4 h' e
    · have := own_li g4 e; omega
  have gone : ∀ j, j < W.heap.size → N.ownBlock ≠ some j → (Value.slice (some ⟨g4, 0, none⟩) m4 c4).ownBlock ≠ some j := fun j hj hne e => by
    have e' : g4 = j := by simpa [Value.ownBlock] using e
    rcases hat with h' | h'
    · exact hne (by rw [h', e'])
    · omega
  refine ⟨h.rl, h.fr.grown hgrow (fun g hg => .inr (by have := own_lt g hg; omega)), (old _ (by omega)).trans h.res, (old _ (by omega)).trans h.box, hown, ownsRow_keep h.items (fun j hj => far j (own_li j hj).2 (fun e => h.apart j e hj)), fun j hj e => ?_, fun W2 a => ?_⟩
  · have e' : g4 = j := by simpa [Value.ownBlock] using hj
    exact g4i (by rw [e']; exact e)
  · refine h.seen W2 ⟨Nat.le_trans hsz a.1, fun p v hp hv => ?_⟩
    have hl := lt_of_cell hv
    have h1 : N.ownBlock ≠ some p.block := fun e => hp.2 (.inl e)
    refine a.2 p v ⟨hp.1, fun e => ?_⟩ ((World.cell?_of_block (w := W) (a := p) (far _ hl h1)).trans hv)
    rcases e with e | e
    · exact gone _ hl h1 e
    · exact hp.2 (.inr e)
theorem QM.growI {W' : World} {g4 m4 c4 : Nat} {s4 : List Value} (h : QM w r k nm it N I nN sN nI xI its xs W) (hgrow : W.grownBy W' I.ownBlock) (hat : I.ownBlock = some g4 ∨ g4 = W.heap.size)
    (hown : W'.ownsRow (w.heap.size + 2) 25 5 (.slice (some ⟨g4, 0, none⟩) m4 c4) m4 s4) : QM w r k nm it N (.slice (some ⟨g4, 0, none⟩) m4 c4) nN sN m4 s4 its xs W' := by
  have own_lt : ∀ j, I.ownBlock = some j → w.heap.size + 2 ≤ j ∧ j < W.heap.size := fun j hj => ownsRow_ge h.items hj
  have own_li : ∀ j, N.ownBlock = some j → w.heap.size + 2 ≤ j ∧ j < W.heap.size := fun j hj => ownsRow_ge h.names hj
  have far : ∀ j, j < W.heap.size → I.ownBlock ≠ some j → W'.heap[j]? = W.heap[j]? := fun j hj hne => hgrow.block j hj (fun e => hne e.symm)
  have hsz := hgrow.size
  have hws := h.size
  have old : ∀ j, j < w.heap.size + 2 → W'.heap[j]? = W.heap[j]? := fun j hj => far j (by omega) (fun e => by have := own_lt j e; omega)
  have g4i : N.ownBlock ≠ some g4 := fun e => by
    rcases hat with h' | h'
    · exact h.apart g4 e h'
    · have := own_li g4 e; omega
  have gone : ∀ j, j < W.heap.size → I.ownBlock ≠ some j → (Value.slice (some ⟨g4, 0, none⟩) m4 c4).ownBlock ≠ some j := fun j hj hne e => by
    have e' : g4 = j := by simpa [Value.ownBlock] using e
    rcases hat with h' | h'
    · exact hne (by rw [h', e'])
    · omega
  refine ⟨h.rl, h.fr.grown hgrow (fun g hg => .inr (by have := own_lt g hg; omega)), (old _ (by omega)).trans h.res, (old _ (by omega)).trans h.box, ownsRow_keep h.names (fun j hj => far j (own_li j hj).2 (fun e => h.apart j hj e)), hown, fun j hj e => ?_, fun W2 a => ?_⟩
  · have e' : g4 = j := by simpa [Value.ownBlock] using e
    exact g4i (by rw [e']; exact hj)
  · refine h.seen W2 ⟨Nat.le_trans hsz a.1, fun p v hp hv => ?_⟩
    have hl := lt_of_cell hv
    have h1 : I.ownBlock ≠ some p.block := fun e => hp.2 (.inr e)
    refine a.2 p v ⟨hp.1, fun e => ?_⟩ ((World.cell?_of_block (w := W) (a := p) (far _ hl h1)).trans hv)
    rcases e with e | e
    · exact hp.2 (.inl e)
    · exact gone _ hl h1 e
/-- The box is told anew. -/
theorem QM.told {Z : World} {nm' it' : Value} (h : QM w r k nm it N I nN sN nI xI its xs W) (hsz : Z.heap.size = W.heap.size) (hfr : Fr (· = r) w Z) (far : ∀ j, j ≠ w.heap.size + 1 → Z.heap[j]? = W.heap[j]?)
    (hbox : Z.heap[w.heap.size + 1]? = some (.cells #[.int .i64 k, .int .i64 0, .string ⟨#[]⟩, nm', it'] 25 (0, 0))) : QM w r k nm' it' N I nN sN nI xI its xs Z :=
  ⟨h.rl, hfr, (far _ (by omega)).trans h.res, hbox, ownsRow_keep h.names (fun j hj => far j (by have := (ownsRow_ge h.names hj).1; omega)), ownsRow_keep h.items (fun j hj => far j (by have := (ownsRow_ge h.items hj).1; omega)), h.apart, fun W2 a => h.seen W2 ⟨by have := a.1; omega, fun p v hp hv => a.2 p v hp ((World.cell?_of_block (w := W) (a := p) (far _ (by omega))).trans hv)⟩⟩
theorem QM.setN (h : QM w r k nm it N I nN sN nI xI its xs W) (v : Value) : QM w r k v it N I nN sN nI xI its xs (W.setCell ⟨w.heap.size + 1, 3, none⟩ v) :=
  h.told (by simp [World.setCell]) (h.fr.set _ _ (.inr (by show w.heap.size ≤ w.heap.size + 1; omega))) (fun j hj => Below.heap_setCell _ _ _ _ hj) (by simp [World.setCell, Array.getElem?_modify, h.box])
theorem QM.setI (h : QM w r k nm it N I nN sN nI xI its xs W) (v : Value) : QM w r k nm v N I nN sN nI xI its xs (W.setCell ⟨w.heap.size + 1, 4, none⟩ v) :=
  h.told (by simp [World.setCell]) (h.fr.set _ _ (.inr (by show w.heap.size ≤ w.heap.size + 1; omega))) (fun j hj => Below.heap_setCell _ _ _ _ hj) (by simp [World.setCell, Array.getElem?_modify, h.box])
end
/-- The end. -/
theorem qm_end {w wr : World} {r : Nat} {k : Int} {ns : List ByteArray} {its : List Tr} {xs : List Value} {an : Option Addr} {cn : Nat} {ao : Option Addr} {ci : Nat} (h : QM w r k (.slice an ns.length cn) (.slice ao its.length ci) (.slice an ns.length cn) (.slice ao its.length ci) ns.length (strs ns) its.length xs its xs wr) (c0 c1 c2 c3 c4 : Value) :
    Seen (put5 wr w.heap.size c0 c1 c2 c3 c4) (fun j => w.heap.size ≤ j) (.node k 0 ⟨#[]⟩ ns its) (five k 0 ⟨#[]⟩ (.slice an ns.length cn) (.slice ao its.length ci)) := by
  intro W' hW
  have hAll : ∀ p v, w.heap.size < p.block → wr.cell? p = some v → W'.cell? p = some v := fun p v hp hv =>
    hW.2 p v (by omega) ((World.cell?_of_block (w := wr) (a := p) (put5_far _ _ _ _ _ (by omega))).trans hv)
  have hsz : wr.heap.size ≤ W'.heap.size := by have := hW.1; rw [put5_size] at this; exact this
  have hI := h.seen W' ⟨hsz, fun p v hp hv => hAll p v (by omega) hv⟩
  have hR : Reads W' (.slice an ns.length cn) ns := by
    rcases h.names.2 with ⟨hv, h0⟩ | ⟨gi, ci', cur, hv, hg, hh, hc, hm, rr⟩
    · have e := List.eq_nil_of_length_eq_zero h0
      subst e
      exact ⟨an, cn, rfl, ⟨Nat.zero_le _, by injection hv with _ _ h3; omega⟩, .inl rfl⟩
    · cases hv
      exact own_reads (S := fun j => w.heap.size < j) h.names (by show w.heap.size < gi; omega) ⟨hsz, fun p v hp hv => hAll p v hp hv⟩
  unfold VRep
  rcases h.items.2 with ⟨hv, h0⟩ | ⟨gi, ci', cur, hv, hg, hh, hc, hm, rr⟩
  · have e := List.eq_nil_of_length_eq_zero h0
    subst e
    exact ⟨_, ao, ci, rfl, hR, ⟨Nat.zero_le _, by injection hv with _ _ h3; omega⟩, .inl rfl⟩
  · cases hv
    refine ⟨_, _, ci, rfl, hR, ⟨hc, by unfold maxLen at hm; omega⟩, .inr ⟨gi, 0, rfl, Nat.lt_of_lt_of_le (Array.getElem?_eq_some_iff.1 hh).1 hsz, items_rep hI (fun j u hj => hAll ⟨gi, j, none⟩ u (by show w.heap.size < gi; omega) (row_cell h.items j u hj))⟩⟩
end Go.Proofs.YtlkomknjgfjnlaaGreatDoor.Tree
