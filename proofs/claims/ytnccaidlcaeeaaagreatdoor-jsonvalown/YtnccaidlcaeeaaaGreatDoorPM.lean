import Derived.Test.YtnccaidlcaeeaaaGreatDoorPA
import Derived.Test.YtnccaidlcaeeaaaGreatDoorY1
import Derived.Deep.LoopGhost
import Derived.Deep.DeepBigQuietO
/-! The document's reader of texts: values, lists and objects in memory. -/
namespace Go.Proofs.YtnccaidlcaeeaaaGreatDoor.Tree
open Go Go.RowKit

/-- What the reader is behind a value: the place but for blanks behind it. -/
def VSt {α : Type} (w : World) (r : Nat) (T : ByteArray) : Res α → Prop
  | .ok _ q => ∃ m : Nat, q ≤ m ∧ m ≤ T.size ∧ skip T m = skip T q ∧ RT w r T (m : Int) 0 0
  | .bad e p => e ≠ 0 ∧ ∃ z : Int, RT w r T z (e : Int) (p : Int)
theorem VSt.keepF {α : Type} {S : Nat → Prop} {w w' : World} {r : Nat} {T : ByteArray} {R : Res α} (h : VSt w r T R) (f : FrP S w w') (hr : ¬ S r) : VSt w' r T R := by
  cases R with
  | ok x q => obtain ⟨m, h1, h2, h3, h4⟩ := h; exact ⟨m, h1, h2, h3, RT.keep h4 f hr⟩
  | bad e pl => exact ⟨h.1, h.2.choose, RT.keep h.2.choose_spec f hr⟩
theorem VSt.keep {α : Type} {w w' : World} {r : Nat} {T : ByteArray} {R : Res α} (h : VSt w r T R) (f : FrP (fun _ => False) w w') : VSt w' r T R := h.keepF f (fun e => e)
theorem VSt.put5 {α : Type} {w : World} {r : Nat} {T : ByteArray} {R : Res α} (h : VSt w r T R) {g : Nat} (hg : r ≠ g) (a0 a1 a2 a3 a4 : Value) : VSt (put5 w g a0 a1 a2 a3 a4) r T R := by
  cases R with
  | ok x q => obtain ⟨m, h1, h2, h3, h4⟩ := h; exact ⟨m, h1, h2, h3, (put5_far _ _ _ _ _ hg).trans h4⟩
  | bad e pl => exact ⟨h.1, h.2.choose, (put5_far _ _ _ _ _ hg).trans h.2.choose_spec⟩
theorem VSt.of {α β : Type} {w : World} {r : Nat} {T : ByteArray} {R : Res α} (f : α → β) (h : RSt w r T R) (hq : ∀ x q, R = .ok x q → q ≤ T.size) : VSt w r T (R.map f) := by
  cases R with
  | ok x q => exact ⟨q, Nat.le_refl _, hq x q rfl, rfl, h⟩
  | bad e pl => exact h
/-- What a call of value, list or object comes to. -/
def RValPost (w : World) (r : Nat) (T : ByteArray) (R : Res J) (x : Ending) (w' : World) : Prop :=
  ∃ k x0 s an ln cn ai li ci, x = .returned (.agg #[.int .i64 k, .int .i64 x0, .string s, .slice an ln cn, .slice ai li ci]) ∧ (∀ j q, R = .ok j q → Seen w' (fun b => w.heap.size ≤ b) (ofJ j) (five k x0 s (.slice an ln cn) (.slice ai li ci))) ∧ VSt w' r T R ∧ FrP (· = r) w w'
theorem seen_flat (w : World) (S : Nat → Prop) (k x : Int) (s : ByteArray) : Seen w S (.node k x s [] []) (five k x s (.slice none 0 0) (.slice none 0 0)) := fun W' _ => by
  unfold VRep
  exact ⟨_, none, 0, rfl, ⟨none, 0, rfl, ⟨Nat.le_refl _, by omega⟩, .inl rfl⟩, ⟨Nat.le_refl _, by omega⟩, .inl rfl⟩
/-- The items that were read: in new blocks, but for the boxes and the rows. -/
def ItsSeen (w : World) (P : Nat → Prop) (ts : List Tr) (xs : List Value) (wr : World) : Prop := ∀ W', Agree (fun j => w.heap.size + 1 < j ∧ ¬ P j) wr W' → ItemsRep W' ts xs
theorem ItsSeen.next {w wr w' : World} {r : Nat} {P : Nat → Prop} {ts : List Tr} {xs : List Value} (h : ItsSeen w P ts xs wr) (hr : r < w.heap.size) (hF : FrP (· = r) wr w') : ItsSeen w P ts xs w' := fun W' a =>
  h W' ⟨Nat.le_trans hF.size a.1, fun p u hp hc => a.2 p u hp (hF.cell hc (by omega))⟩
theorem items_rep {W' : World} {gi : Nat} {its : List Tr} {xs : List Value} (hI : ItemsRep W' its xs) (hc : ∀ j u, xs[j]? = some u → W'.cell? ⟨gi, j, none⟩ = some u) : VRepL W' gi 0 its :=
  ItemsRep.list its xs 0 hI (fun j u hj => by rw [Nat.zero_add]; exact hc j u hj)
/-- Lists under way: the box tells nm and it; N and I are as far as they have come. -/
structure QM (w : World) (r : Nat) (k : Int) (nm it : Value) (N I : Value) (nN : Nat) (sN : List Value) (nI : Nat) (xI : List Value) (its : List Tr) (xs : List Value) (W : World) : Prop where
  rl : r < w.heap.size
  fr : FrP (· = r) w W
  res : W.heap[w.heap.size]? = some (.cells #[.int .i64 0, .int .i64 0, .string ⟨#[]⟩, .slice none 0 0, .slice none 0 0] 25 (0, 0))
  box : W.heap[w.heap.size + 1]? = some (.cells #[.int .i64 k, .int .i64 0, .string ⟨#[]⟩, nm, it] 25 (0, 0))
  names : W.ownsRow (w.heap.size + 2) 9 1 N nN sN
  items : W.ownsRow (w.heap.size + 2) 25 5 I nI xI
  apart : ∀ j, N.ownBlock = some j → I.ownBlock ≠ some j
  seen : ItsSeen w (fun j => N.ownBlock = some j ∨ I.ownBlock = some j) its xs W
section
variable {w W : World} {r : Nat} {k : Int} {nm it : Value} {N I : Value} {nN : Nat} {sN : List Value} {nI : Nat} {xI : List Value} {its : List Tr} {xs : List Value}
theorem QM.size (h : QM w r k nm it N I nN sN nI xI its xs W) : w.heap.size + 2 ≤ W.heap.size := (Array.getElem?_eq_some_iff.1 h.box).1
theorem QM.blind (h : QM w r k nm it N I nN sN nI xI its xs W) : QM w r k nm it N I nN sN nI xI [] [] W := ⟨h.rl, h.fr, h.res, h.box, h.names, h.items, h.apart, fun W' _ => by unfold ItemsRep; rfl⟩
theorem QM.next {W' : World} (h : QM w r k nm it N I nN sN nI xI its xs W) (hF : FrP (· = r) W W') : QM w r k nm it N I nN sN nI xI its xs W' := by
  have hs := h.size
  have hr := h.rl
  exact ⟨h.rl, h.fr.trans hF, (hF.block _ (by omega) (by omega)).trans h.res, (hF.block _ (by omega) (by omega)).trans h.box, ownsRow_keep h.names (fun j hj => hF.block j (ownsRow_ge h.names hj).2 (by have := (ownsRow_ge h.names hj).1; omega)), ownsRow_keep h.items (fun j hj => hF.block j (ownsRow_ge h.items hj).2 (by have := (ownsRow_ge h.items hj).1; omega)), h.apart, h.seen.next hr hF⟩
theorem QM.alloc (h : QM w r k nm it N I nN sN nI xI its xs W) (o : Obj) : QM w r k nm it N I nN sN nI xI its xs (W.alloc o) := h.next ((FrP.refl _ W).alloc o)
theorem QM.drew (h : QM w r k nm it N I nN sN nI xI its xs W) : QM w r k nm it N I nN sN nI xI its xs W.drew := h.next ((FrP.refl _ W).drew)
/-- One more was read. -/
theorem QM.read {W' : World} {u : Tr} {cs : List Value} (h : QM w r k nm it N I nN sN nI xI its xs W) (hF : FrP (· = r) W W') (hu : Seen W' (fun j => W.heap.size ≤ j) u cs) (hcs : cs.length = 5) : QM w r k nm it N I nN sN nI xI (its ++ [u]) (xs ++ cs) W' := by
  have h' := h.next hF
  have hs := h.size
  refine ⟨h'.rl, h'.fr, h'.res, h'.box, h'.names, h'.items, h'.apart, fun W2 a => ?_⟩
  refine ItemsRep.snoc hcs (hu W2 ⟨a.1, fun p v hp hv => a.2 p v ⟨by omega, fun e => ?_⟩ hv⟩) (h'.seen W2 a)
  rcases e with e | e
  · have := (ownsRow_ge h.names e).2; omega
  · have := (ownsRow_ge h.items e).2; omega
theorem QM.growN {W' : World} {g4 m4 c4 : Nat} {s4 : List Value} (h : QM w r k nm it N I nN sN nI xI its xs W) (hgrow : W.grownBy W' N.ownBlock) (hat : N.ownBlock = some g4 ∨ g4 = W.heap.size)
    (hown : W'.ownsRow (w.heap.size + 2) 9 1 (.slice (some ⟨g4, 0, none⟩) m4 c4) m4 s4) : QM w r k nm it (.slice (some ⟨g4, 0, none⟩) m4 c4) I m4 s4 nI xI its xs W' := by
  have own_lt : ∀ j, N.ownBlock = some j → w.heap.size + 2 ≤ j ∧ j < W.heap.size := fun j hj => ownsRow_ge h.names hj
  have own_li : ∀ j, I.ownBlock = some j → w.heap.size + 2 ≤ j ∧ j < W.heap.size := fun j hj => ownsRow_ge h.items hj
  have far : ∀ j, j < W.heap.size → N.ownBlock ≠ some j → W'.heap[j]? = W.heap[j]? := fun j hj hne => hgrow.block j hj (fun e => hne e.symm)
  have hsz := hgrow.size
  have hws := h.size
  have old : ∀ j, j < w.heap.size + 2 → W'.heap[j]? = W.heap[j]? := fun j hj => far j (by omega) (fun e => by have := own_lt j e; omega)
  have g4i : I.ownBlock ≠ some g4 := fun e => by
    rcases hat with h' | h'
    · exact h.apart g4 h' e
    · have := own_li g4 e; omega
  have gone : ∀ j, j < W.heap.size → N.ownBlock ≠ some j → (Value.slice (some ⟨g4, 0, none⟩) m4 c4).ownBlock ≠ some j := fun j hj hne e => by
    have e' : g4 = j := by simpa [Value.ownBlock] using e
    rcases hat with h' | h'
    · exact hne (by rw [h', e'])
    · omega
  refine ⟨h.rl, h.fr.grown hgrow (fun g hg => .inr (by have := own_lt g hg; omega)), (old _ (by omega)).trans h.res, (old _ (by omega)).trans h.box, hown, ownsRow_keep h.items (fun j hj => far j (own_li j hj).2 (fun e => h.apart j e hj)), fun j hj e => ?_, fun W2 a => ?_⟩
  · have e' : g4 = j := by simpa [Value.ownBlock] using hj
    exact g4i (by rw [e']; exact e)
  · refine h.seen W2 ⟨Nat.le_trans hsz a.1, fun p v hp hv => ?_⟩
    have hl := lt_of_cell hv
    have h1 : N.ownBlock ≠ some p.block := fun e => hp.2 (.inl e)
    refine a.2 p v ⟨hp.1, fun e => ?_⟩ ((World.cell?_of_block (w := W) (a := p) (far _ hl h1)).trans hv)
    rcases e with e | e
    · exact gone _ hl h1 e
    · exact hp.2 (.inr e)
theorem QM.growI {W' : World} {g4 m4 c4 : Nat} {s4 : List Value} (h : QM w r k nm it N I nN sN nI xI its xs W) (hgrow : W.grownBy W' I.ownBlock) (hat : I.ownBlock = some g4 ∨ g4 = W.heap.size)
    (hown : W'.ownsRow (w.heap.size + 2) 25 5 (.slice (some ⟨g4, 0, none⟩) m4 c4) m4 s4) : QM w r k nm it N (.slice (some ⟨g4, 0, none⟩) m4 c4) nN sN m4 s4 its xs W' := by
  have own_lt : ∀ j, I.ownBlock = some j → w.heap.size + 2 ≤ j ∧ j < W.heap.size := fun j hj => ownsRow_ge h.items hj
  have own_li : ∀ j, N.ownBlock = some j → w.heap.size + 2 ≤ j ∧ j < W.heap.size := fun j hj => ownsRow_ge h.names hj
  have far : ∀ j, j < W.heap.size → I.ownBlock ≠ some j → W'.heap[j]? = W.heap[j]? := fun j hj hne => hgrow.block j hj (fun e => hne e.symm)
  have hsz := hgrow.size
  have hws := h.size
  have old : ∀ j, j < w.heap.size + 2 → W'.heap[j]? = W.heap[j]? := fun j hj => far j (by omega) (fun e => by have := own_lt j e; omega)
  have g4i : N.ownBlock ≠ some g4 := fun e => by
    rcases hat with h' | h'
    · exact h.apart g4 e h'
    · have := own_li g4 e; omega
  have gone : ∀ j, j < W.heap.size → I.ownBlock ≠ some j → (Value.slice (some ⟨g4, 0, none⟩) m4 c4).ownBlock ≠ some j := fun j hj hne e => by
    have e' : g4 = j := by simpa [Value.ownBlock] using e
    rcases hat with h' | h'
    · exact hne (by rw [h', e'])
    · omega
  refine ⟨h.rl, h.fr.grown hgrow (fun g hg => .inr (by have := own_lt g hg; omega)), (old _ (by omega)).trans h.res, (old _ (by omega)).trans h.box, ownsRow_keep h.names (fun j hj => far j (own_li j hj).2 (fun e => h.apart j hj e)), hown, fun j hj e => ?_, fun W2 a => ?_⟩
  · have e' : g4 = j := by simpa [Value.ownBlock] using e
    exact g4i (by rw [e']; exact hj)
  · refine h.seen W2 ⟨Nat.le_trans hsz a.1, fun p v hp hv => ?_⟩
    have hl := lt_of_cell hv
    have h1 : I.ownBlock ≠ some p.block := fun e => hp.2 (.inr e)
    refine a.2 p v ⟨hp.1, fun e => ?_⟩ ((World.cell?_of_block (w := W) (a := p) (far _ hl h1)).trans hv)
    rcases e with e | e
    · exact hp.2 (.inl e)
    · exact gone _ hl h1 e
/-- The box is told anew. -/
theorem QM.told {Z : World} {nm' it' : Value} (h : QM w r k nm it N I nN sN nI xI its xs W) (hsz : Z.heap.size = W.heap.size) (hfr : FrP (· = r) w Z) (far : ∀ j, j ≠ w.heap.size + 1 → Z.heap[j]? = W.heap[j]?)
    (hbox : Z.heap[w.heap.size + 1]? = some (.cells #[.int .i64 k, .int .i64 0, .string ⟨#[]⟩, nm', it'] 25 (0, 0))) : QM w r k nm' it' N I nN sN nI xI its xs Z :=
  ⟨h.rl, hfr, (far _ (by omega)).trans h.res, hbox, ownsRow_keep h.names (fun j hj => far j (by have := (ownsRow_ge h.names hj).1; omega)), ownsRow_keep h.items (fun j hj => far j (by have := (ownsRow_ge h.items hj).1; omega)), h.apart, fun W2 a => h.seen W2 ⟨by have := a.1; omega, fun p v hp hv => a.2 p v hp ((World.cell?_of_block (w := W) (a := p) (far _ (by omega))).trans hv)⟩⟩
theorem QM.setN (h : QM w r k nm it N I nN sN nI xI its xs W) (v : Value) : QM w r k v it N I nN sN nI xI its xs (W.setCell ⟨w.heap.size + 1, 3, none⟩ v) :=
  h.told (by simp [World.setCell]) (h.fr.set _ _ (.inr (by show w.heap.size ≤ w.heap.size + 1; omega))) (fun j hj => Below.heap_setCell _ _ _ _ hj) (by simp [World.setCell, Array.getElem?_modify, h.box])
theorem QM.setI (h : QM w r k nm it N I nN sN nI xI its xs W) (v : Value) : QM w r k nm v N I nN sN nI xI its xs (W.setCell ⟨w.heap.size + 1, 4, none⟩ v) :=
  h.told (by simp [World.setCell]) (h.fr.set _ _ (.inr (by show w.heap.size ≤ w.heap.size + 1; omega))) (fun j hj => Below.heap_setCell _ _ _ _ hj) (by simp [World.setCell, Array.getElem?_modify, h.box])
end
/-- The end. -/
theorem qm_end {w wr : World} {r : Nat} {k : Int} {ns : List ByteArray} {its : List Tr} {xs : List Value} {an : Option Addr} {cn : Nat} {ao : Option Addr} {ci : Nat} (h : QM w r k (.slice an ns.length cn) (.slice ao its.length ci) (.slice an ns.length cn) (.slice ao its.length ci) ns.length (strs ns) its.length xs its xs wr) (c0 c1 c2 c3 c4 : Value) :
    Seen (put5 wr w.heap.size c0 c1 c2 c3 c4) (fun j => w.heap.size ≤ j) (.node k 0 ⟨#[]⟩ ns its) (five k 0 ⟨#[]⟩ (.slice an ns.length cn) (.slice ao its.length ci)) := by
  intro W' hW
  have hAll : ∀ p v, w.heap.size < p.block → wr.cell? p = some v → W'.cell? p = some v := fun p v hp hv =>
    hW.2 p v (by omega) ((World.cell?_of_block (w := wr) (a := p) (put5_far _ _ _ _ _ (by omega))).trans hv)
  have hsz : wr.heap.size ≤ W'.heap.size := by have := hW.1; rw [put5_size] at this; exact this
  have hI := h.seen W' ⟨hsz, fun p v hp hv => hAll p v (by omega) hv⟩
  have hR : Reads W' (.slice an ns.length cn) ns := by
    rcases h.names.2 with ⟨hv, h0⟩ | ⟨gi, ci', cur, hv, hg, hh, hc, hm, rr⟩
    · have e := List.eq_nil_of_length_eq_zero h0
      subst e
      exact ⟨an, cn, rfl, ⟨Nat.zero_le _, by injection hv with _ _ h3; omega⟩, .inl rfl⟩
    · cases hv
      exact own_reads (S := fun j => w.heap.size < j) h.names (by show w.heap.size < gi; omega) ⟨hsz, fun p v hp hv => hAll p v hp hv⟩
  unfold VRep
  rcases h.items.2 with ⟨hv, h0⟩ | ⟨gi, ci', cur, hv, hg, hh, hc, hm, rr⟩
  · have e := List.eq_nil_of_length_eq_zero h0
    subst e
    exact ⟨_, ao, ci, rfl, hR, ⟨Nat.zero_le _, by injection hv with _ _ h3; omega⟩, .inl rfl⟩
  · cases hv
    refine ⟨_, _, ci, rfl, hR, ⟨hc, by unfold maxLen at hm; omega⟩, .inr ⟨gi, 0, rfl, Nat.lt_of_lt_of_le (Array.getElem?_eq_some_iff.1 hh).1 hsz, items_rep hI (fun j u hj => hAll ⟨gi, j, none⟩ u (by show w.heap.size < gi; omega) (row_cell h.items j u hj))⟩⟩
end Go.Proofs.YtnccaidlcaeeaaaGreatDoor.Tree
/-! The document's reader of texts: blanks, words. -/
namespace Go.Proofs.YtnccaidlcaeeaaaGreatDoor.Tree
open Go Go.RowKit

theorem byte_ne {b c : UInt8} (h : b ≠ c) : ((b.toNat : Int) == (c.toNat : Int)) = false := by
  rw [beq_eq_false_iff_ne]
  intro e
  exact h (UInt8.toNat_inj.1 (by omega))
theorem blank_yes {b : UInt8} (h : blank b = true) : b = 32 ∨ b = 9 ∨ b = 10 ∨ b = 13 := by
  unfold blank at h
  simp only [Bool.or_eq_true, beq_iff_eq] at h
  rcases h with ((h | h) | h) | h
  · exact .inl h
  · exact .inr (.inl h)
  · exact .inr (.inr (.inl h))
  · exact .inr (.inr (.inr h))
theorem blank_no {b : UInt8} (h : blank b = false) : b ≠ 32 ∧ b ≠ 9 ∧ b ≠ 10 ∧ b ≠ 13 := by
  refine ⟨?_, ?_, ?_, ?_⟩ <;> (rintro rfl; revert h; decide)
theorem blanks_dead (r : Nat) (T : ByteArray) (q pl e : Int) (w : World) (h : RT w r T q e pl) (he : e ≠ 0) :
    Calls Tryz.prog 23 #[.pointer (some ⟨r, 0, none⟩)] w fun x w' => x = .returned (.tuple #[]) ∧ RT w' r T q e pl ∧ FrP (· = r) w w' := by
  obtain ⟨y0, y1, y2, y3, yf⟩ := h.cells
  have he' : (e == 0) = false := by simpa using he
  go_enter Tryz.func23, Tryz.ntmps23
  go_wp2_with fail
  go_loopg [] 1 (fun gk wr => Hid (wr = w))
  case atStart => exact hid_e rfl
  case round =>
    obtain rfl := hrel.out
    go_wp2_with fail
    go_region
    go_wp2_with fail
    refine bodyPost_end (results_none rfl _ _ _) rfl ?_
    exact ⟨rfl, h, (FrP.refl _ _).drewN 1⟩
set_option maxHeartbeats 4000000 in
set_option maxRecDepth 100000 in
theorem blanks_code (r : Nat) (T : ByteArray) (q : Nat) (w : World) (hT : T.size ≤ 65536) (h : RT w r T (q : Int) 0 0) (hq : q ≤ T.size) :
    Calls Tryz.prog 23 #[.pointer (some ⟨r, 0, none⟩)] w fun x w' => x = .returned (.tuple #[]) ∧ RT w' r T (skip T q : Int) 0 0 ∧ FrP (· = r) w w' := by
  go_enter Tryz.func23, Tryz.ntmps23
  go_wp2_with fail
  go_loopg [] (T.size + 1) (fun gk wr => ∃ i : Nat, q ≤ i ∧ i ≤ T.size ∧ T.size - i < gk ∧ Hid (∀ j, q ≤ j → j < i → blank (byteAt T j) = true) ∧ Hid (RT wr r T (i : Int) 0 0) ∧ Hid (FrP (· = r) w wr))
  case atStart => exact ⟨q, Nat.le_refl _, hq, by omega, hid_e (fun j h1 h2 => by omega), hid_e h, hid_e (FrP.refl _ _)⟩
  case round =>
    clear h
    obtain ⟨i, h1, h2, hgk, hbl, hA, hF⟩ := hrel
    obtain ⟨g', rfl⟩ : ∃ g', gk = g' + 1 := ⟨gk - 1, by omega⟩
    obtain ⟨y0, y1, y2, y3, yf⟩ := hA.out.cells
    have yf1 := yf 1
    clear yf
    have i2 : (0 : Int) ≤ (i : Int) := by omega
    by_cases hlt : i < T.size
    · have i1 : (i : Int) < (T.size : Int) := by omega
      have he := byteAt_eq hlt
      obtain ⟨z, hz⟩ : ∃ z : Int, Hid (((byteAt T i).toNat : Int) = z) := ⟨_, hid_e rfl⟩
      cases hb : blank (byteAt T i) with
      | true =>
        have hR1 := hA.out.set1 ((i : Int) + 1)
        have hF1 : FrP (· = r) wr (wr.setCell ⟨r, 1, none⟩ (.int .i64 ((i : Int) + 1))) := (FrP.refl (· = r) wr).set _ _ (.inl rfl)
        have hz4 : z = 32 ∨ z = 9 ∨ z = 10 ∨ z = 13 := by
          rw [← hz.out]
          rcases blank_yes hb with h | h | h | h <;> rw [h] <;> decide
        have hi9 : (i : Int) + 1 ≤ 9223372036854775807 := by omega
        have hrel' : Hid (∃ j : Nat, q ≤ j ∧ j ≤ T.size ∧ T.size - j < g' ∧ Hid (∀ k, q ≤ k → k < j → blank (byteAt T k) = true) ∧ ((j : Int) = (i : Int) + 1)) := ⟨i + 1, by omega, by omega, by omega, hid_e (fun k a b => (Nat.lt_or_ge k i).elim (fun c => hbl.out k a c) (fun c => by obtain rfl : k = i := (by omega); exact hb)), by omega⟩
        clear hb
        have hcs : ((z != 32) = false) ∨ ((z != 32) = true ∧ (z != 9) = false) ∨ ((z != 32) = true ∧ (z != 9) = true ∧ (z != 10) = false) ∨ ((z != 32) = true ∧ (z != 9) = true ∧ (z != 10) = true ∧ (z != 13) = false) := by
          rcases hz4 with rfl | rfl | rfl | rfl <;> decide
        clear hz4
        rcases hcs with c1 | ⟨c1, c2⟩ | ⟨c1, c2, c3⟩ | ⟨c1, c2, c3, c4⟩
        all_goals
          go_wp2_with fail
          go_region
          go_wp2_with fail
          go_region
          rw [hz.out]
          go_wp2_with fail
          go_roundg g'
          case measure => omega
          case rel =>
            obtain ⟨j, a1, a2, a3, a4, a5⟩ := hrel'.out
            exact ⟨j, a1, a2, a3, a4, hid_e (by rw [a5]; exact hR1), hid_e (hF.out.trans (hF1.drewN 2))⟩
      | false =>
        obtain ⟨n1, n2, n3, n4⟩ := blank_no hb
        have k1 := byte_ne n1
        have k2 := byte_ne n2
        have k3 := byte_ne n3
        have k4 := byte_ne n4
        rw [hz.out] at k1 k2 k3 k4
        have j1 : (z != 32) = true := by simpa using k1
        have j2 : (z != 9) = true := by simpa using k2
        have j3 : (z != 10) = true := by simpa using k3
        have j4 : (z != 13) = true := by simpa using k4
        have hsk : Hid (skip T q = i) := skip_eq T q i h1 h2 hbl.out (.inr hb)
        clear k1 k2 k3 k4 n1 n2 n3 n4 hb
        go_wp2_with fail
        go_region
        go_wp2_with fail
        go_region
        rw [hz.out]
        go_wp2_with fail
        refine bodyPost_ret (results_none rfl _ _ _) rfl ?_
        rw [hsk.out]
        exact ⟨rfl, hA.out, hF.out.drewN 2⟩
    · have i1 : ¬ ((i : Int) < (T.size : Int)) := by omega
      have hsk : Hid (skip T q = i) := skip_eq T q i h1 h2 hbl.out (.inl (by omega))
      go_wp2_with fail
      go_region
      go_wp2_with fail
      refine bodyPost_end (results_none rfl _ _ _) rfl ?_
      rw [hsk.out]
      exact ⟨rfl, hA.out, hF.out.drewN 1⟩
theorem lit_get {W : ByteArray} {i : Nat} (h : i < W.size) : W.data.toList.drop i = byteAt W i :: W.data.toList.drop (i + 1) := by
  have hl : i < W.data.toList.length := by rw [Array.length_toList]; exact h
  rw [List.drop_eq_getElem_cons hl]
  congr 1
  unfold byteAt
  rw [Array.getD_eq_getD_getElem?, Array.getElem?_eq_getElem (by simpa using hl)]
  simp
set_option maxHeartbeats 4000000 in
set_option maxRecDepth 100000 in
theorem word_code (r : Nat) (T W : ByteArray) (q : Nat) (w : World) (hT : T.size ≤ 65536) (hW : W.size ≤ 100) (h : Hid (RT w r T (q : Int) 0 0)) (hq : q ≤ T.size) :
    Calls Tryz.prog 35 #[.pointer (some ⟨r, 0, none⟩), .string W] w fun x w' => x = .returned (.tuple #[]) ∧ RSt w' r T (litR T W.data.toList q) ∧ FrP (· = r) w w' := by
  obtain ⟨R, hR⟩ : ∃ R, Hid (litR T W.data.toList q = R) := ⟨_, hid_e rfl⟩
  rw [hR.out]
  go_enter Tryz.func35, Tryz.ntmps35
  go_wp2_with fail
  go_loopw [4] (fun iv wr => ∃ i : Nat, i ≤ W.size ∧ iv = .int .i64 i ∧ q + i ≤ T.size ∧ Hid (litR T (W.data.toList.drop i) (q + i) = R) ∧ Hid (RT wr r T ((q + i : Nat) : Int) 0 0) ∧ Hid (FrP (· = r) w wr)) (fun iv _ => W.size - (intOf iv).toNat)
  case atStart => exact ⟨0, Nat.zero_le _, rfl, hq, hR, h, hid_e (FrP.refl _ _)⟩
  case round =>
    clear h hR
    obtain ⟨i, hi, rfl, hqi, hK, hA, hF⟩ := hrel
    by_cases hlt : i < W.size
    · have i1 : (i : Int) < (W.size : Int) := by omega
      have i2 : (0 : Int) ≤ (i : Int) := by omega
      have he := byteAt_eq hlt
      by_cases hs : q + i < T.size
      · have hn := hid_e (next_byte r T (q + i) wr hA.out hs)
        go_wp2_with fail
        go_fit hn.out
        clear hn
        rintro e w1 ⟨rfl, hR1, hF1⟩
        obtain ⟨y0, y1, y2, y3, yf⟩ := hR1.cells
        have yf1 := yf 1
        clear yf y0 y2 y3
        obtain ⟨z, hz⟩ : ∃ z : Int, Hid (((byteAt T (q + i)).toNat : Int) = z) := ⟨_, hid_e rfl⟩
        obtain ⟨Q, hQ⟩ : ∃ Q : Int, Hid (((q + i : Nat) : Int) = Q) := ⟨_, hid_e rfl⟩
        rw [hQ.out] at y1
        have hQ9 : Q ≤ 70000 ∧ 0 ≤ Q := by have := hQ.out; omega
        rw [hz.out]
        by_cases heq : byteAt T (q + i) = byteAt W i
        · have hzv : (z != ((byteAt W i).toNat : Int)) = false := by rw [← hz.out, heq]; simp
          have hK2 : Hid (litR T (W.data.toList.drop (i + 1)) (q + (i + 1)) = R) := by
            rw [Hid, ← hK.out, lit_get hlt, litR_cons, if_pos hs, if_pos heq]
            rfl
          have hR2 := hR1.set1 (Q + 1)
          have hF2 : FrP (· = r) w1 (w1.setCell ⟨r, 1, none⟩ (.int .i64 (Q + 1))) := (FrP.refl (· = r) w1).set _ _ (.inl rfl)
          go_wp2_with fail
          go_roundw
          case rel => exact ⟨i + 1, hlt, by go_num, by omega, hK2, hid_e (by rw [show ((q + (i + 1) : Nat) : Int) = Q + 1 by have := hQ.out; omega]; exact hR2), hid_e ((hF.out.trans hF1).trans hF2)⟩
          case measure => simp [intOf]; omega
        · have hzv : (z != ((byteAt W i).toNat : Int)) = true := by
            rw [← hz.out]
            have := byte_ne heq
            simpa using this
          have hRe : Hid (R = .bad 10 (q + i)) := by rw [Hid, ← hK.out, lit_get hlt, litR_cons, if_pos hs, if_neg heq]
          have hfl := hid_e (fail_code r T Q Q 10 w1 (by rw [← hQ.out]; exact hR1))
          go_wp2_with fail
          go_fit hfl.out
          rintro e w2 ⟨rfl, hS2, hF2⟩
          go_wp2_with fail
          refine bodyPost_ret (results_none rfl _ _ _) rfl ?_
          rw [hRe.out]
          exact ⟨rfl, ⟨by decide, Q, by rw [hQ.out]; exact hS2⟩, (hF.out.trans hF1).trans hF2⟩
      · obtain hqe : q + i = T.size := by omega
        have hRe : Hid (R = .bad 3 T.size) := by rw [Hid, ← hK.out, lit_get hlt, litR_cons, if_neg hs]
        have hn := hid_e (next_short r T wr (by have := hA.out; rw [hqe] at this; exact this))
        replace hqe := hid_e hqe
        go_wp2_with fail
        go_fit hn.out
        clear hn
        rintro e w1 ⟨rfl, hR1, hF1⟩
        go_wp2_with fail
        refine bodyPost_ret (results_none rfl _ _ _) rfl ?_
        rw [hRe.out]
        exact ⟨rfl, ⟨by decide, _, hR1⟩, hF.out.trans hF1⟩
    · obtain rfl : i = W.size := by omega
      have hRe : Hid (R = .ok () (q + W.size)) := by
        rw [Hid, ← hK.out, List.drop_eq_nil_of_le (by rw [Array.length_toList]; exact Nat.le_refl _)]
        rfl
      go_wp2_with fail
      refine bodyPost_end (results_none rfl _ _ _) rfl ?_
      rw [hRe.out]
      exact ⟨rfl, hA.out, hF.out⟩
end Go.Proofs.YtnccaidlcaeeaaaGreatDoor.Tree
/-! The document's reader of texts: a value, behind a fault. -/
namespace Go.Proofs.YtnccaidlcaeeaaaGreatDoor.Tree
open Go Go.RowKit

set_option maxHeartbeats 2000000 in
set_option maxRecDepth 100000 in
theorem value_dead (r : Nat) (T : ByteArray) (d q pl e : Int) (w : World) (h : RT w r T q e pl) (he : e ≠ 0) :
    Calls Tryz.prog 24 #[.pointer (some ⟨r, 0, none⟩), .int .i64 d] w fun x w' => x = .returned (.agg #[.int .i64 0, .int .i64 0, .string ⟨#[]⟩, .slice none 0 0, .slice none 0 0]) ∧ RT w' r T q e pl ∧ FrP (· = r) w w' := by
  have hrl := h.lt
  have n0 := heap_alloc_new w (.cells #[.int .i64 0, .int .i64 0, .string ⟨#[]⟩, .slice none 0 0, .slice none 0 0] 25)
  have hF0 : FrP (· = r) w (w.alloc (.cells #[.int .i64 0, .int .i64 0, .string ⟨#[]⟩, .slice none 0 0, .slice none 0 0] 25)) := (FrP.refl _ w).alloc _
  have hR0 : RT (w.alloc (.cells #[.int .i64 0, .int .i64 0, .string ⟨#[]⟩, .slice none 0 0, .slice none 0 0] 25)) r T q e pl := h.keep (S := fun _ => False) ((FrP.refl _ w).alloc _) (fun e => e)
  go_enter Tryz.func24, Tryz.ntmps24
  go_upto_region 1 with fail
  generalize w.alloc (.cells #[.int .i64 0, .int .i64 0, .string ⟨#[]⟩, .slice none 0 0, .slice none 0 0] 25) = W at n0 hF0 hR0 ⊢
  have hn := hid_e (next_dead r T q pl e W hR0 he)
  go_wp2_with fail
  go_fit hn.out
  rintro e1 w1 ⟨rfl, hw⟩
  replace hw := hw.symm
  subst hw
  obtain ⟨v0, v1, v2, v3, v4, vf⟩ := row_cells n0
  have vf0 := vf 0; have vf1 := vf 1; have vf2 := vf 2; have vf3 := vf 3; have vf4 := vf 4
  clear vf
  go_wp2_with fail
  have hr5 := put5_cells n0 (.int .i64 0) (.int .i64 0) (.string ⟨#[]⟩) (.slice none 0 0) (.slice none 0 0)
  have r0 := hr5 0; have r1 := hr5 1; have r2 := hr5 2; have r3 := hr5 3; have r4 := hr5 4
  clear hr5
  refine bodyPost_ret (v := .agg #[.int .i64 0, .int .i64 0, .string ⟨#[]⟩, .slice none 0 0, .slice none 0 0]) (by simp [results, Tryz.results24, go_sem, r0, r1, r2, r3, r4]) rfl ?_
  exact ⟨rfl, (put5_far _ _ _ _ _ (by omega)).trans hR0, hF0.put5 (.inr (Nat.le_refl _)) _ _ _ _ _⟩
end Go.Proofs.YtnccaidlcaeeaaaGreatDoor.Tree
