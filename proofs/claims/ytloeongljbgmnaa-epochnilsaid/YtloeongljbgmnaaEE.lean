import Derived.Test.YtloeongljbgmnaaED
import Derived.Test.YtloeongljbgmnaaHM
/-! epoch: a keeper with two slots, in memory. -/
namespace Go.Proofs.Ytloeongljbgmnaa
open Go Go.RowKit
/-- Types of the keeper's own blocks. -/
def hot3 (t : TypeId) : Bool := t == 94 || t == 103 || t == 97
def hotK (t : TypeId) : Bool := hot3 t || hotT t
def hotL (t : TypeId) : Bool := hotK t || t == 124
/-- A frame by types: blocks of other types stay. -/
structure FH (hot : TypeId → Bool) (lo : Nat) (w w' : World) : Prop where
  below : Below lo w w'
  cold : ∀ (b : Nat) vs t, w.heap[b]? = some (.cells vs t (0, 0)) → hot t = false → w'.heap[b]? = some (.cells vs t (0, 0))
theorem FH.refl (hot : TypeId → Bool) (lo : Nat) (w : World) : FH hot lo w w := ⟨Below.refl _ _, fun _ _ _ h _ => h⟩
theorem FH.trans {hot : TypeId → Bool} {lo : Nat} {x y z : World} (h : FH hot lo x y) (k : FH hot lo y z) : FH hot lo x z := ⟨h.below.trans k.below, fun b vs t hb hh => k.cold b vs t (h.cold b vs t hb hh) hh⟩
theorem FH.of_below {hot : TypeId → Bool} {lo : Nat} {w w' : World} (h : Below w.heap.size w w') (hlo : lo ≤ w.heap.size) : FH hot lo w w' := ⟨h.mono hlo, fun b _ _ hb _ => (h.block b (Array.getElem?_eq_some_iff.1 hb).1).trans hb⟩
theorem FH.size {hot : TypeId → Bool} {lo : Nat} {w w' : World} (h : FH hot lo w w') : w.heap.size ≤ w'.heap.size := h.below.size
theorem FH.of_fr {hot : TypeId → Bool} {lo nb : Nat} {w w' : World} {vs : Array Value} {t : TypeId} (h : Fr (· = nb) w w') (ho : w.heap[nb]? = some (.cells vs t (0, 0))) (hh : hot t = true) (hlo : lo ≤ nb) : FH hot lo w w' := by
  have hn := (Array.getElem?_eq_some_iff.1 ho).1
  refine ⟨h.below (by omega) (fun i hi => by omega), fun b vs' t' hb hc => (h.block b (Array.getElem?_eq_some_iff.1 hb).1 (fun e => ?_)).trans hb⟩
  subst e
  rw [ho] at hb
  cases hb
  rw [hh] at hc
  cases hc
theorem FH.of_ft {lo : Nat} {w w' : World} (h : FT lo w w') : FH hotK lo w w' := ⟨h.below, fun b vs t hb hh => h.cold b _ hb (by
  have : hotT t = false := by unfold hotK at hh; cases h1 : hot3 t <;> cases h2 : hotT t <;> simp_all
  exact this)⟩
theorem FH.up {hot hot' : TypeId → Bool} {lo : Nat} {w w' : World} (h : FH hot lo w w') (hs : ∀ t, hot' t = false → hot t = false) : FH hot' lo w w' := ⟨h.below, fun b vs t hb hh => h.cold b vs t hb (hs t hh)⟩
theorem hot3_K : ∀ t, hotK t = false → hot3 t = false := fun t h => by unfold hotK at h; cases h1 : hot3 t <;> simp_all
theorem hotK_L : ∀ t, hotL t = false → hotK t = false := fun t h => by unfold hotL at h; cases h1 : hotK t <;> simp_all
/-- The heap stays as long as only the keeper's own blocks change. -/
theorem HeapS.keepK {lo : Nat} {w w' : World} {hb : Nat} {obj most : Int} {ns : List Nd} {st : List Int} (h : HeapS lo w hb obj most ns st) (hk : FH hot3 lo w w') : HeapS lo w' hb obj most ns st := by
  obtain ⟨c, cs, p, h1, h2, h3⟩ := h
  have k : ∀ {b : Nat} {vs : Array Value} {t : TypeId}, w.heap[b]? = some (.cells vs t (0, 0)) → hot3 t = false → w'.heap[b]? = some (.cells vs t (0, 0)) := fun {b vs t} e ht => hk.cold b vs t e ht
  exact ⟨c, cs, p, h1, ⟨k h2.hbk rfl, k h2.wbk rfl, k h2.pbk rfl, h2.pool.keep (fun b cs hb => hb.elim (fun e => (k e rfl).trans e.symm) (fun e => (k e rfl).trans e.symm)), k h2.mbk rfl, ownsRow_keep h2.row (fun g cs e => (k e rfl).trans e.symm), fun i x hx => k (h2.nd i x hx) rfl, h2.inj, h2.lh, h2.lp, h2.ln⟩, h3⟩
theorem HeapS.keepC {lo : Nat} {w w' : World} {hb : Nat} {obj most : Int} {ns : List Nd} {st : List Int} (h : HeapS lo w hb obj most ns st) (hk : FH (· == 124) lo w w') : HeapS lo w' hb obj most ns st := by
  obtain ⟨c, cs, p, h1, h2, h3⟩ := h
  have k : ∀ {b : Nat} {vs : Array Value} {t : TypeId}, w.heap[b]? = some (.cells vs t (0, 0)) → (t == 124) = false → w'.heap[b]? = some (.cells vs t (0, 0)) := fun {b vs t} e ht => hk.cold b vs t e ht
  exact ⟨c, cs, p, h1, ⟨k h2.hbk rfl, k h2.wbk rfl, k h2.pbk rfl, h2.pool.keep (fun b cs hb => hb.elim (fun e => (k e rfl).trans e.symm) (fun e => (k e rfl).trans e.symm)), k h2.mbk rfl, ownsRow_keep h2.row (fun g cs e => (k e rfl).trans e.symm), fun i x hx => k (h2.nd i x hx) rfl, h2.inj, h2.lh, h2.lp, h2.ln⟩, h3⟩
/-- Where a keeper's blocks lie. -/
structure Kx where
  kb : Nat
  hb : Nat
  rb : Nat
  pb : Nat
  q0 : Nat
  q1 : Nat
  lb : Nat
/-- What a keeper holds: the root, the two pins, the list. -/
structure Kv where
  s : Int
  na : Option Addr
  nn : Nat
  nc : Nat
  tg : Int
  a : Int
  b : Int
  cnt : Int
  la : Option Addr
  ln : Nat
  lc : Nat
structure KS (lo : Nat) (w : World) (x : Kx) (v : Kv) : Prop where
  k : w.heap[x.kb]? = some (.cells #[.pointer (some ⟨x.hb, 0, none⟩), .pointer (some ⟨x.rb, 0, none⟩), .slice (some ⟨x.pb, 0, none⟩) 2 2, .pointer (some ⟨x.lb, 0, none⟩)] 51 (0, 0))
  p : w.heap[x.pb]? = some (.cells #[.pointer (some ⟨x.q0, 0, none⟩), .pointer (some ⟨x.q1, 0, none⟩)] 52 (0, 0))
  r : ∃ vb, w.heap[x.rb]? = some (.cells (rCs 4 0 vb) 94 (0, 0)) ∧ w.heap[vb]? = some (.cells #[.int .i64 v.s, .slice v.na v.nn v.nc, .int .i64 v.tg] 28 (0, 0))
  p0 : ∃ vb, w.heap[x.q0]? = some (.cells (iCs 4 1 vb) 103 (0, 0)) ∧ w.heap[vb]? = some (.cells #[.int .i64 v.a] 2 (0, 0))
  p1 : ∃ vb, w.heap[x.q1]? = some (.cells (iCs 4 2 vb) 103 (0, 0)) ∧ w.heap[vb]? = some (.cells #[.int .i64 v.b] 2 (0, 0))
  l : w.heap[x.lb]? = some (.cells (lCs 4 3 v.cnt v.la v.ln v.lc) 97 (0, 0))
  lr : lo ≤ x.rb
  l0 : lo ≤ x.q0
  l1 : lo ≤ x.q1
  ll : lo ≤ x.lb
  ne : x.q0 ≠ x.q1
section
variable {lo : Nat} {w w' : World} {x : Kx} {v : Kv}
theorem KS.keep (h : KS lo w x v) (hk : ∀ (b : Nat) vs t, w.heap[b]? = some (.cells vs t (0, 0)) → (t == 124 || hotT t) = false → w'.heap[b]? = some (.cells vs t (0, 0))) : KS lo w' x v := by
  obtain ⟨vr, r1, r2⟩ := h.r
  obtain ⟨v0, a1, a2⟩ := h.p0
  obtain ⟨v1, b1, b2⟩ := h.p1
  exact ⟨hk _ _ _ h.k rfl, hk _ _ _ h.p rfl, ⟨vr, hk _ _ _ r1 rfl, hk _ _ _ r2 rfl⟩, ⟨v0, hk _ _ _ a1 rfl, hk _ _ _ a2 rfl⟩, ⟨v1, hk _ _ _ b1 rfl, hk _ _ _ b2 rfl⟩, hk _ _ _ h.l rfl, h.lr, h.l0, h.l1, h.ll, h.ne⟩
theorem KS.under (h : KS lo w x v) (hB : Below w.heap.size w w') : KS lo w' x v := h.keep (fun b _ _ e _ => (hB.block b (Array.getElem?_eq_some_iff.1 e).1).trans e)
theorem KS.ft (h : KS lo w x v) (hB : FT lo w w') : KS lo w' x v := h.keep (fun b vs t e ht => hB.cold b _ e (by cases h1 : hotT t <;> simp_all [hotO]))
theorem KS.client (h : KS lo w x v) (hB : FH (· == 124) lo w w') : KS lo w' x v := h.keep (fun b vs t e ht => hB.cold b vs t e (by cases h1 : (t == 124) <;> simp_all))
theorem ne_of_types {a b : Nat} {x y : Array Value} {s t : TypeId} (ha : w.heap[a]? = some (.cells x s (0, 0))) (hb' : w.heap[b]? = some (.cells y t (0, 0))) (hst : s ≠ t) : a ≠ b := fun e => by
  subst e
  rw [ha] at hb'
  cases hb'
  exact hst rfl
/-- Another root. -/
theorem KS.setR (h : KS lo w x v) {s : Int} {na : Option Addr} {nn nc : Nat} {tg : Int} {vb : Nat} (hF : Fr (· = x.rb) w w') (h1 : w'.heap[x.rb]? = some (.cells (rCs 4 0 vb) 94 (0, 0))) (h2 : w'.heap[vb]? = some (.cells #[.int .i64 s, .slice na nn nc, .int .i64 tg] 28 (0, 0))) :
    KS lo w' x { v with s := s, na := na, nn := nn, nc := nc, tg := tg } ∧ FH hot3 lo w w' := by
  obtain ⟨vr, r1, r2⟩ := h.r
  obtain ⟨v0, a1, a2⟩ := h.p0
  obtain ⟨v1, b1, b2⟩ := h.p1
  have k : ∀ {b : Nat} {vs : Array Value} {t : TypeId}, w.heap[b]? = some (.cells vs t (0, 0)) → t ≠ 94 → w'.heap[b]? = some (.cells vs t (0, 0)) := fun {b vs t} e ht => (hF.block b (Array.getElem?_eq_some_iff.1 e).1 (ne_of_types e r1 ht)).trans e
  exact ⟨⟨k h.k (by decide), k h.p (by decide), ⟨vb, h1, h2⟩, ⟨v0, k a1 (by decide), k a2 (by decide)⟩, ⟨v1, k b1 (by decide), k b2 (by decide)⟩, k h.l (by decide), h.lr, h.l0, h.l1, h.ll, h.ne⟩, FH.of_fr hF r1 rfl h.lr⟩
/-- Another first pin. -/
theorem KS.setP (h : KS lo w x v) {a : Int} {vb : Nat} (hF : Fr (· = x.q0) w w') (h1 : w'.heap[x.q0]? = some (.cells (iCs 4 1 vb) 103 (0, 0))) (h2 : w'.heap[vb]? = some (.cells #[.int .i64 a] 2 (0, 0))) :
    KS lo w' x { v with a := a } ∧ FH hot3 lo w w' := by
  obtain ⟨vr, r1, r2⟩ := h.r
  obtain ⟨v0, a1, a2⟩ := h.p0
  obtain ⟨v1, b1, b2⟩ := h.p1
  have k : ∀ {b : Nat} {vs : Array Value} {t : TypeId}, w.heap[b]? = some (.cells vs t (0, 0)) → t ≠ 103 → w'.heap[b]? = some (.cells vs t (0, 0)) := fun {b vs t} e ht => (hF.block b (Array.getElem?_eq_some_iff.1 e).1 (ne_of_types e a1 ht)).trans e
  exact ⟨⟨k h.k (by decide), k h.p (by decide), ⟨vr, k r1 (by decide), k r2 (by decide)⟩, ⟨vb, h1, h2⟩, ⟨v1, (hF.block _ (Array.getElem?_eq_some_iff.1 b1).1 h.ne.symm).trans b1, k b2 (by decide)⟩, k h.l (by decide), h.lr, h.l0, h.l1, h.ll, h.ne⟩, FH.of_fr hF a1 rfl h.l0⟩
/-- Another list. -/
theorem KS.setL (h : KS lo w x v) {cnt : Int} {la : Option Addr} {ln lc : Nat} (hF : Fr (· = x.lb) w w') (h1 : w'.heap[x.lb]? = some (.cells (lCs 4 3 cnt la ln lc) 97 (0, 0))) :
    KS lo w' x { v with cnt := cnt, la := la, ln := ln, lc := lc } ∧ FH hot3 lo w w' := by
  obtain ⟨vr, r1, r2⟩ := h.r
  obtain ⟨v0, a1, a2⟩ := h.p0
  obtain ⟨v1, b1, b2⟩ := h.p1
  have k : ∀ {b : Nat} {vs : Array Value} {t : TypeId}, w.heap[b]? = some (.cells vs t (0, 0)) → t ≠ 97 → w'.heap[b]? = some (.cells vs t (0, 0)) := fun {b vs t} e ht => (hF.block b (Array.getElem?_eq_some_iff.1 e).1 (ne_of_types e h.l ht)).trans e
  exact ⟨⟨k h.k (by decide), k h.p (by decide), ⟨vr, k r1 (by decide), k r2 (by decide)⟩, ⟨v0, k a1 (by decide), k a2 (by decide)⟩, ⟨v1, k b1 (by decide), k b2 (by decide)⟩, h1, h.lr, h.l0, h.l1, h.ll, h.ne⟩, FH.of_fr hF h.l rfl h.ll⟩
end
end Go.Proofs.Ytloeongljbgmnaa
