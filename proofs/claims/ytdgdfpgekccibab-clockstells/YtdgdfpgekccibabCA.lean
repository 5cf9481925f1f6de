import Derived.Test.YtdgdfpgekccibabProg
import Derived.WalkKit
import Derived.WalkLawsBesides
import Derived.Outline
import Derived.Below
import Derived.Deep.QuietTactic
import Derived.BigQuiet
import Derived.BigRegion
import Derived.Deep.MidRow
/-! clocks: frames; clocks in memory. -/
namespace Go.Proofs.Ytdgdfpgekccibab
open Go Go.RowKit

theorem hid_of {p : Prop} (h : p) : Hid p := h
theorem lt_of_cell {w : World} {p : Addr} {v : Value} (h : w.cell? p = some v) : p.block < w.heap.size := by
  rcases Nat.lt_or_ge p.block w.heap.size with h' | h'
  · exact h'
  · simp [World.cell?, Array.getElem?_eq_none h'] at h
theorem below_drew {B : Nat} {x w : World} (h : Below B x w) : Below B x w.drew := ⟨h.os, h.tape, h.output, h.size, h.block⟩
theorem below_drewN {B : Nat} {x w : World} (h : Below B x w) (n : Nat) : Below B x (w.drewN n) := ⟨h.os, h.tape, h.output, h.size, h.block⟩
theorem stay {w w' : World} (h : Below w.heap.size w w') {p : Addr} {v : Value} (hc : w.cell? p = some v) : w'.cell? p = some v := (h.cell (lt_of_cell hc)).trans hc
/-- All that was there is as it was, but for the blocks of S. -/
structure Fr (S : Nat → Prop) (w w' : World) : Prop where
  os : w'.os = w.os
  tape : w'.tape = w.tape
  output : w'.output = w.output
  size : w.heap.size ≤ w'.heap.size
  block : ∀ k, k < w.heap.size → ¬ S k → w'.heap[k]? = w.heap[k]?
theorem Fr.refl (S : Nat → Prop) (w : World) : Fr S w w := ⟨rfl, rfl, rfl, Nat.le_refl _, fun _ _ _ => rfl⟩
theorem Fr.trans {S : Nat → Prop} {x y z : World} (h : Fr S x y) (k : Fr S y z) : Fr S x z :=
  ⟨k.os.trans h.os, k.tape.trans h.tape, k.output.trans h.output, Nat.le_trans h.size k.size, fun i hi hb => (k.block i (Nat.lt_of_lt_of_le hi h.size) hb).trans (h.block i hi hb)⟩
/-- What came behind may also change what was not yet there. -/
theorem Fr.next {S T : Nat → Prop} {x y z : World} (h : Fr S x y) (k : Fr T y z) (hT : ∀ i, T i → S i ∨ x.heap.size ≤ i) : Fr S x z :=
  ⟨k.os.trans h.os, k.tape.trans h.tape, k.output.trans h.output, Nat.le_trans h.size k.size, fun i hi hb => (k.block i (Nat.lt_of_lt_of_le hi h.size) (fun e => (hT i e).elim hb (fun h' => by omega))).trans (h.block i hi hb)⟩
theorem Fr.mono {S T : Nat → Prop} {x y : World} (h : Fr S x y) (hT : ∀ i, S i → T i ∨ x.heap.size ≤ i) : Fr T x y :=
  ⟨h.os, h.tape, h.output, h.size, fun i hi hb => h.block i hi (fun e => (hT i e).elim hb (fun h' => by omega))⟩
theorem Fr.of_below {S : Nat → Prop} {w w' : World} (h : Below w.heap.size w w') : Fr S w w' := ⟨h.os, h.tape, h.output, h.size, fun k hk _ => h.block k hk⟩
theorem Fr.alloc {S : Nat → Prop} {x w : World} (h : Fr S x w) (o : Obj) : Fr S x (w.alloc o) := h.trans (Fr.of_below ((Below.refl _ w).alloc (Nat.le_refl _) o))
theorem Fr.drewN {S : Nat → Prop} {x w : World} (h : Fr S x w) (n : Nat) : Fr S x (w.drewN n) := ⟨h.os, h.tape, h.output, h.size, h.block⟩
theorem Fr.drew {S : Nat → Prop} {x w : World} (h : Fr S x w) : Fr S x w.drew := ⟨h.os, h.tape, h.output, h.size, h.block⟩
theorem Fr.set {S : Nat → Prop} {x w : World} (h : Fr S x w) (p : Addr) (u : Value) (hp : S p.block ∨ x.heap.size ≤ p.block) : Fr S x (w.setCell p u) :=
  ⟨h.os, h.tape, h.output, by simpa [World.setCell] using h.size, fun k hk hs => (Below.heap_setCell _ _ _ _ (fun e => hp.elim (fun h' => hs (by rw [e]; exact h')) (fun h' => by omega))).trans (h.block k hk hs)⟩
theorem Fr.grown {S : Nat → Prop} {x w w' : World} {b : Option Nat} (h : Fr S x w) (k : w.grownBy w' b) (hb : ∀ g, b = some g → S g ∨ x.heap.size ≤ g) : Fr S x w' :=
  ⟨k.os.trans h.os, k.tape.trans h.tape, k.output.trans h.output, Nat.le_trans h.size k.size, fun i hi hs => (k.block i (Nat.lt_of_lt_of_le hi h.size) (fun e => (hb i e.symm).elim hs (fun h' => by omega))).trans (h.block i hi hs)⟩
theorem Fr.below {S : Nat → Prop} {x w : World} {B : Nat} (h : Fr S x w) (hB : B ≤ x.heap.size) (hS : ∀ i, S i → B ≤ i) : Below B x w := ⟨h.os, h.tape, h.output, h.size, fun k hk => h.block k (by omega) (fun e => by have := hS k e; omega)⟩
theorem Fr.cell {S : Nat → Prop} {x w : World} (h : Fr S x w) {p : Addr} {v : Value} (hc : x.cell? p = some v) (hS : ¬ S p.block) : w.cell? p = some v := (World.cell?_of_block (w := x) (h.block _ (lt_of_cell hc) hS)).trans hc
theorem setCells_heap (b : Nat) : (vs : List Value) → (o : Nat) → (w : World) → (k : Nat) → k ≠ b → (w.setCells b o vs).heap[k]? = w.heap[k]?
  | [], _, _, _, _ => rfl
  | v :: vs, o, w, k, h => by
    rw [World.setCells, setCells_heap b vs (o + 1) _ k h]
    exact Below.heap_setCell _ _ _ _ h
theorem setCells_size (b : Nat) : (vs : List Value) → (o : Nat) → (w : World) → (w.setCells b o vs).heap.size = w.heap.size
  | [], _, _ => rfl
  | v :: vs, o, w => by
    rw [World.setCells, setCells_size b vs (o + 1)]
    simp [World.setCell]
theorem setCells_rest (b : Nat) : (vs : List Value) → (o : Nat) → (w : World) → (w.setCells b o vs).os = w.os ∧ (w.setCells b o vs).tape = w.tape ∧ (w.setCells b o vs).output = w.output
  | [], _, _ => ⟨rfl, rfl, rfl⟩
  | v :: vs, o, w => by
    rw [World.setCells]
    obtain ⟨h1, h2, h3⟩ := setCells_rest b vs (o + 1) (w.setCell ⟨b, o, none⟩ v)
    exact ⟨h1.trans rfl, h2.trans rfl, h3.trans rfl⟩
theorem Fr.sets {S : Nat → Prop} {x w : World} (h : Fr S x w) (b o : Nat) (vs : List Value) (hp : S b ∨ x.heap.size ≤ b) : Fr S x (w.setCells b o vs) := by
  obtain ⟨h1, h2, h3⟩ := setCells_rest b vs o w
  exact ⟨h1.trans h.os, h2.trans h.tape, h3.trans h.output, by rw [setCells_size]; exact h.size, fun k hk hs => (setCells_heap b vs o w k (fun e => hp.elim (fun h' => hs (by rw [e]; exact h')) (fun h' => by omega))).trans (h.block k hk hs)⟩

/-- A clock: of each client how many of its events are known. -/
abbrev Clk := Nat → Nat
def zeroC : Clk := fun _ => 0
def joinC (a b : Clk) : Clk := fun i => max (a i) (b i)
def bumpC (a : Clk) (c : Nat) : Clk := fun i => if i = c then a i + 1 else a i
/-- Its cells. -/
def ck (c : Clk) : List Value := (List.range 16).map fun i => .int .i32 (c i : Nat)
theorem ck_len (c : Clk) : (ck c).length = 16 := by simp [ck]
theorem ck_at (c : Clk) {i : Nat} (h : i < 16) : (ck c)[i]? = some (.int .i32 (c i : Nat)) := by simp [ck, h]
def upd {α : Type} (f : Nat → α) (c : Nat) (g : α) : Nat → α := fun i => if i = c then g else f i
theorem upd_same {α : Type} (f : Nat → α) (c : Nat) (g : α) : upd f c g c = g := by simp [upd]
theorem upd_other {α : Type} (f : Nat → α) {c i : Nat} (g : α) (h : i ≠ c) : upd f c g i = f i := by simp [upd, h]
/-- A block of n clocks. -/
def Grid (w : World) (b n : Nat) (t : TypeId) (f : Nat → Clk) : Prop := ∃ cs, w.heap[b]? = some (.cells cs t (0, 0)) ∧ cs.size = n * 16 ∧ ∀ c, c < n → ∀ i, i < 16 → cs[c * 16 + i]? = some (.int .i32 (f c i : Nat))
theorem Grid.lt {w : World} {b n : Nat} {t : TypeId} {f : Nat → Clk} (h : Grid w b n t f) : b < w.heap.size := by
  obtain ⟨cs, h1, _⟩ := h
  exact (Array.getElem?_eq_some_iff.1 h1).1
theorem Grid.keep {w w' : World} {b n : Nat} {t : TypeId} {f : Nat → Clk} (h : Grid w b n t f) (hk : w'.heap[b]? = w.heap[b]?) : Grid w' b n t f := by
  obtain ⟨cs, h1, h2⟩ := h
  exact ⟨cs, hk.trans h1, h2⟩
theorem Grid.fr {S : Nat → Prop} {w w' : World} {b n : Nat} {t : TypeId} {f : Nat → Clk} (h : Grid w b n t f) (hf : Fr S w w') (hS : ¬ S b) : Grid w' b n t f := h.keep (hf.block b h.lt hS)
theorem Grid.congr {w : World} {b n : Nat} {t : TypeId} {f g : Nat → Clk} (h : Grid w b n t f) (e : ∀ c, c < n → ∀ i, i < 16 → f c i = g c i) : Grid w b n t g := by
  obtain ⟨cs, h1, h2, h3⟩ := h
  exact ⟨cs, h1, h2, fun c hc i hi => by rw [h3 c hc i hi, e c hc i hi]⟩
theorem Grid.cell {w : World} {b n : Nat} {t : TypeId} {f : Nat → Clk} (h : Grid w b n t f) {c i : Nat} (hc : c < n) (hi : i < 16) : w.cell? ⟨b, c * 16 + i, none⟩ = some (.int .i32 (f c i : Nat)) := by
  obtain ⟨cs, h1, h2, h3⟩ := h
  simp [World.cell?, h1, h3 c hc i hi]
theorem Grid.frozen {w : World} {b n : Nat} {t : TypeId} {f : Nat → Clk} (h : Grid w b n t f) (k : Nat) : w.frozen? ⟨b, k, none⟩ = false := by
  obtain ⟨cs, h1, _⟩ := h
  simp [World.frozen?, h1]
theorem Grid.range {w : World} {b n : Nat} {t : TypeId} {f : Nat → Clk} (h : Grid w b n t f) {c : Nat} (hc : c < n) : w.rangeAt b (c * 16) (ck (f c)) := fun j v hv => by
  have hj : j < 16 := by have := (List.getElem?_eq_some_iff.1 hv).1; rwa [ck_len] at this
  rw [h.cell hc hj, ← ck_at (f c) hj, hv]
theorem Grid.there {w : World} {b n : Nat} {t : TypeId} {f : Nat → Clk} (h : Grid w b n t f) {c : Nat} (hc : c < n) : w.there b (c * 16) 16 := fun j hj => ⟨by rw [h.cell hc hj]; rfl, h.frozen _⟩
theorem Grid.set {w : World} {b n : Nat} {t : TypeId} {f : Nat → Clk} (h : Grid w b n t f) {c i : Nat} (hc : c < n) (hi : i < 16) (v : Nat) : Grid (w.setCell ⟨b, c * 16 + i, none⟩ (.int .i32 (v : Nat))) b n t (upd f c (upd (f c) i v)) := by
  obtain ⟨cs, h1, h2, h3⟩ := h
  refine ⟨cs.setIfInBounds (c * 16 + i) (.int .i32 (v : Nat)), by simp [World.setCell, Array.getElem?_modify, h1], by simpa using h2, fun c' hc' i' hi' => ?_⟩
  rw [Array.getElem?_setIfInBounds]
  by_cases e : c * 16 + i = c' * 16 + i'
  · obtain ⟨rfl, rfl⟩ : c = c' ∧ i = i' := by omega
    rw [if_pos rfl, if_pos (by omega), upd_same, upd_same]
  · rw [if_neg e, h3 c' hc' i' hi']
    by_cases ec : c' = c
    · subst ec
      rw [upd_same, upd_other _ _ (by omega)]
    · rw [upd_other _ _ ec]
theorem setCells_block (b : Nat) (t : TypeId) : (vs : List Value) → (o : Nat) → (w : World) → (cs : Array Value) → w.heap[b]? = some (.cells cs t (0, 0)) → ∃ cs', (w.setCells b o vs).heap[b]? = some (.cells cs' t (0, 0)) ∧ cs'.size = cs.size
  | [], _, _, cs, h => ⟨cs, h, rfl⟩
  | v :: vs, o, w, cs, h => by
    rw [World.setCells]
    obtain ⟨cs', h1, h2⟩ := setCells_block b t vs (o + 1) (w.setCell ⟨b, o, none⟩ v) (cs.setIfInBounds o v) (by simp [World.setCell, Array.getElem?_modify, h])
    exact ⟨cs', h1, by simpa using h2⟩
theorem Grid.sets {w : World} {b n : Nat} {t : TypeId} {f : Nat → Clk} (h : Grid w b n t f) {c : Nat} (hc : c < n) (g : Clk) : Grid (w.setCells b (c * 16) (ck g)) b n t (upd f c g) := by
  have ht := h.there hc
  obtain ⟨cs, h1, h2, h3⟩ := id h
  obtain ⟨cs', h4, h5⟩ := setCells_block b t (ck g) (c * 16) w cs h1
  have hcell : ∀ k, cs'[k]? = (w.setCells b (c * 16) (ck g)).cell? ⟨b, k, none⟩ := fun k => by simp [World.cell?, h4]
  refine ⟨cs', h4, h5.trans h2, fun c' hc' i' hi' => ?_⟩
  rw [hcell]
  by_cases ec : c' = c
  · subst ec
    rw [upd_same]
    exact World.rangeAt_setCells_same w b (c' * 16) (ck g) (by rw [ck_len]; exact ht) i' _ (ck_at g hi')
  · rw [upd_other _ _ ec, World.cell?_setCells_out b (ck g) (c * 16) w ⟨b, c' * 16 + i', none⟩ (fun _ _ => by rw [ck_len]; show c' * 16 + i' < c * 16 ∨ c * 16 + 16 ≤ c' * 16 + i'; omega)]
    exact h.cell hc' hi'
theorem grid_one {w : World} {b : Nat} {t : TypeId} {g : Clk} (h : w.heap[b]? = some (.cells (ck g).toArray t (0, 0))) : Grid w b 1 t (fun _ => g) :=
  ⟨_, h, by simp [ck_len], fun c hc i hi => by
    obtain rfl : c = 0 := by omega
    simp only [Nat.zero_mul, Nat.zero_add, List.getElem?_toArray]
    exact ck_at g hi⟩
end Go.Proofs.Ytdgdfpgekccibab
