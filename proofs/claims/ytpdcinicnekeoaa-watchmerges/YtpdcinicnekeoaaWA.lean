import Derived.Test.YtpdcinicnekeoaaProg
import Derived.Test.YtpdcinicnekeoaaPA
import Derived.WalkKit
import Derived.WalkLawsBesides
import Derived.Outline
import Derived.Below
import Derived.Deep.QuietTactic
import Derived.BigQuiet
import Derived.BigRegion
import Derived.Deep.MidRow
import Derived.Deep.AppendSrc
import Derived.Deep.AppendLies
import Derived.Laws.OwnMore
import Derived.Deep.DeepMust
/-! watch: frames; changes and logs in memory. -/
namespace Go.Proofs.Ytpdcinicnekeoaa
open Go Go.RowKit Go.Watch

theorem hid_of {p : Prop} (h : p) : Hid p := h
theorem lt_of_cell {w : World} {p : Addr} {v : Value} (h : w.cell? p = some v) : p.block < w.heap.size := by
  rcases Nat.lt_or_ge p.block w.heap.size with h' | h'
  · exact h'
  · simp [World.cell?, Array.getElem?_eq_none h'] at h
theorem below_drew {B : Nat} {x w : World} (h : Below B x w) : Below B x w.drew := ⟨h.os, h.tape, h.output, h.size, h.block⟩
theorem below_drewN {B : Nat} {x w : World} (h : Below B x w) (n : Nat) : Below B x (w.drewN n) := ⟨h.os, h.tape, h.output, h.size, h.block⟩
theorem stay {w w' : World} (h : Below w.heap.size w w') {p : Addr} {v : Value} (hc : w.cell? p = some v) : w'.cell? p = some v := (h.cell (lt_of_cell hc)).trans hc
/-- All that was there is as it was, but for the blocks of S. -/
structure Fr (S : Nat → Prop) (w w' : World) : Prop where
  os : w'.os = w.os
  tape : w'.tape = w.tape
  output : w'.output = w.output
  size : w.heap.size ≤ w'.heap.size
  block : ∀ k, k < w.heap.size → ¬ S k → w'.heap[k]? = w.heap[k]?
theorem Fr.refl (S : Nat → Prop) (w : World) : Fr S w w := ⟨rfl, rfl, rfl, Nat.le_refl _, fun _ _ _ => rfl⟩
theorem Fr.trans {S : Nat → Prop} {x y z : World} (h : Fr S x y) (k : Fr S y z) : Fr S x z :=
  ⟨k.os.trans h.os, k.tape.trans h.tape, k.output.trans h.output, Nat.le_trans h.size k.size, fun i hi hb => (k.block i (Nat.lt_of_lt_of_le hi h.size) hb).trans (h.block i hi hb)⟩
/-- What came behind may also change what was not yet there. -/
theorem Fr.next {S T : Nat → Prop} {x y z : World} (h : Fr S x y) (k : Fr T y z) (hT : ∀ i, T i → S i ∨ x.heap.size ≤ i) : Fr S x z :=
  ⟨k.os.trans h.os, k.tape.trans h.tape, k.output.trans h.output, Nat.le_trans h.size k.size, fun i hi hb => (k.block i (Nat.lt_of_lt_of_le hi h.size) (fun e => (hT i e).elim hb (fun h' => by omega))).trans (h.block i hi hb)⟩
theorem Fr.mono {S T : Nat → Prop} {x y : World} (h : Fr S x y) (hT : ∀ i, S i → T i ∨ x.heap.size ≤ i) : Fr T x y :=
  ⟨h.os, h.tape, h.output, h.size, fun i hi hb => h.block i hi (fun e => (hT i e).elim hb (fun h' => by omega))⟩
theorem Fr.of_below {S : Nat → Prop} {w w' : World} (h : Below w.heap.size w w') : Fr S w w' := ⟨h.os, h.tape, h.output, h.size, fun k hk _ => h.block k hk⟩
theorem Fr.alloc {S : Nat → Prop} {x w : World} (h : Fr S x w) (o : Obj) : Fr S x (w.alloc o) := h.trans (Fr.of_below ((Below.refl _ w).alloc (Nat.le_refl _) o))
theorem Fr.drewN {S : Nat → Prop} {x w : World} (h : Fr S x w) (n : Nat) : Fr S x (w.drewN n) := ⟨h.os, h.tape, h.output, h.size, h.block⟩
theorem Fr.drew {S : Nat → Prop} {x w : World} (h : Fr S x w) : Fr S x w.drew := ⟨h.os, h.tape, h.output, h.size, h.block⟩
theorem Fr.set {S : Nat → Prop} {x w : World} (h : Fr S x w) (p : Addr) (u : Value) (hp : S p.block ∨ x.heap.size ≤ p.block) : Fr S x (w.setCell p u) :=
  ⟨h.os, h.tape, h.output, by simpa [World.setCell] using h.size, fun k hk hs => (Below.heap_setCell _ _ _ _ (fun e => hp.elim (fun h' => hs (by rw [e]; exact h')) (fun h' => by omega))).trans (h.block k hk hs)⟩
theorem Fr.grown {S : Nat → Prop} {x w w' : World} {b : Option Nat} (h : Fr S x w) (k : w.grownBy w' b) (hb : ∀ g, b = some g → S g ∨ x.heap.size ≤ g) : Fr S x w' :=
  ⟨k.os.trans h.os, k.tape.trans h.tape, k.output.trans h.output, Nat.le_trans h.size k.size, fun i hi hs => (k.block i (Nat.lt_of_lt_of_le hi h.size) (fun e => (hb i e.symm).elim hs (fun h' => by omega))).trans (h.block i hi hs)⟩
theorem Fr.below {S : Nat → Prop} {x w : World} {B : Nat} (h : Fr S x w) (hB : B ≤ x.heap.size) (hS : ∀ i, S i → B ≤ i) : Below B x w := ⟨h.os, h.tape, h.output, h.size, fun k hk => h.block k (by omega) (fun e => by have := hS k e; omega)⟩
theorem Fr.cell {S : Nat → Prop} {x w : World} (h : Fr S x w) {p : Addr} {v : Value} (hc : x.cell? p = some v) (hS : ¬ S p.block) : w.cell? p = some v := (World.cell?_of_block (w := x) (h.block _ (lt_of_cell hc) hS)).trans hc
theorem Fr.to_below {S : Nat → Prop} {w w' : World} (h : Fr S w w') (hS : ∀ i, S i → w.heap.size ≤ i) : Below w.heap.size w w' := h.below (Nat.le_refl _) hS
/-- A change's cells. -/
def chgCs (c : Chg) : List Value := [.int .i64 c.st, .string c.nm, .string c.id, .int .i64 c.kd]
def chgV (c : Chg) : Value := .agg #[.int .i64 c.st, .string c.nm, .string c.id, .int .i64 c.kd]
/-- A change's cells in memory. -/
structure ChgCell (w : World) (b o : Nat) (c : Chg) : Prop where
  st : w.cell? ⟨b, o, none⟩ = some (.int .i64 c.st)
  nm : w.cell? ⟨b, o + 1, none⟩ = some (.string c.nm)
  id : w.cell? ⟨b, o + 2, none⟩ = some (.string c.id)
  kd : w.cell? ⟨b, o + 3, none⟩ = some (.int .i64 c.kd)
theorem ChgCell.keep {w w' : World} {b o : Nat} {c : Chg} (h : ChgCell w b o c) (hk : w'.heap[b]? = w.heap[b]?) : ChgCell w' b o c := by
  have k : ∀ i : Nat, w'.cell? ⟨b, i, none⟩ = w.cell? ⟨b, i, none⟩ := fun i => World.cell?_of_block (w := w) (a := ⟨b, i, none⟩) hk
  exact ⟨(k _).trans h.st, (k _).trans h.nm, (k _).trans h.id, (k _).trans h.kd⟩
theorem ChgCell.lt {w : World} {b o : Nat} {c : Chg} (h : ChgCell w b o c) : b < w.heap.size := lt_of_cell h.st
/-- Changes in a row; each block is one of S. -/
def ChgsAt (S : Nat → Prop) (w : World) (a : Option Addr) (l : List Chg) : Prop := ∀ (j : Nat) c, l[j]? = some c → ∃ b o, a = some ⟨b, o, none⟩ ∧ S b ∧ ChgCell w b (o + j * 4) c
theorem ChgsAt.keep {S : Nat → Prop} {w w' : World} {a : Option Addr} {l : List Chg} (h : ChgsAt S w a l) (hk : ∀ b, S b → b < w.heap.size → w'.heap[b]? = w.heap[b]?) : ChgsAt S w' a l := fun j c hj => by
  obtain ⟨b, o, h1, h2, h3⟩ := h j c hj
  exact ⟨b, o, h1, h2, h3.keep (hk b h2 h3.lt)⟩
theorem ChgsAt.below {S : Nat → Prop} {w w' : World} {a : Option Addr} {l : List Chg} (h : ChgsAt S w a l) (hb : Below w.heap.size w w') : ChgsAt S w' a l := h.keep (fun b _ hl => hb.block b hl)
theorem ChgsAt.mono {S T : Nat → Prop} {w : World} {a : Option Addr} {l : List Chg} (h : ChgsAt S w a l) (hT : ∀ b, S b → b < w.heap.size → T b) : ChgsAt T w a l := fun j c hj => by
  obtain ⟨b, o, h1, h2, h3⟩ := h j c hj
  exact ⟨b, o, h1, hT b h2 h3.lt, h3⟩
theorem ChgsAt.nil {S : Nat → Prop} {w : World} {a : Option Addr} : ChgsAt S w a [] := fun j c hj => by simp at hj
theorem ChgsAt.take {S : Nat → Prop} {w : World} {a : Option Addr} {l : List Chg} (h : ChgsAt S w a l) (k : Nat) : ChgsAt S w a (l.take k) := fun j c hj => by
  have := (List.getElem?_eq_some_iff.1 hj).1
  rw [List.length_take] at this
  rw [List.getElem?_take_of_lt (by omega)] at hj
  exact h j c hj
/-- Where a slice's rest lies. -/
def advA (a : Option Addr) (l size m : Nat) : Option Addr := if m = l then a else a.map (·.add (l * size))
theorem add_plain (b o i : Nat) : (⟨b, o, none⟩ : Addr).add i = ⟨b, o + i, none⟩ := by
  unfold Addr.add
  split <;> simp_all
theorem ChgsAt.drop {S : Nat → Prop} {w : World} {a : Option Addr} {l : List Chg} (h : ChgsAt S w a l) (k m : Nat) (hm : m = k → l.length ≤ k) : ChgsAt S w (advA a k 4 m) (l.drop k) := fun j c hj => by
  rw [List.getElem?_drop] at hj
  obtain ⟨b, o, h1, h2, h3⟩ := h _ c hj
  have hl := (List.getElem?_eq_some_iff.1 hj).1
  refine ⟨b, o + k * 4, ?_, h2, ?_⟩
  · unfold advA
    rw [if_neg (fun e => by have := hm e; omega), h1]
    simp [add_plain]
  · rw [show o + k * 4 + j * 4 = o + (k + j) * 4 from by omega]
    exact h3
/-- Pointers to changes in a row. -/
def PtrsAt (S : Nat → Prop) (w : World) (a : Option Addr) (l : List Chg) : Prop := ∀ (j : Nat) c, l[j]? = some c → ∃ b o g, a = some ⟨b, o, none⟩ ∧ S b ∧ S g ∧ w.cell? ⟨b, o + j, none⟩ = some (.pointer (some ⟨g, 0, none⟩)) ∧ ChgCell w g 0 c
theorem PtrsAt.keep {S : Nat → Prop} {w w' : World} {a : Option Addr} {l : List Chg} (h : PtrsAt S w a l) (hk : ∀ b, S b → b < w.heap.size → w'.heap[b]? = w.heap[b]?) : PtrsAt S w' a l := fun j c hj => by
  obtain ⟨b, o, g, h1, h2, h3, h4, h5⟩ := h j c hj
  exact ⟨b, o, g, h1, h2, h3, (World.cell?_of_block (w := w) (a := ⟨b, o + j, none⟩) (hk b h2 (lt_of_cell h4))).trans h4, h5.keep (hk g h3 h5.lt)⟩
theorem PtrsAt.below {S : Nat → Prop} {w w' : World} {a : Option Addr} {l : List Chg} (h : PtrsAt S w a l) (hb : Below w.heap.size w w') : PtrsAt S w' a l := h.keep (fun b _ hl => hb.block b hl)
theorem PtrsAt.mono {S T : Nat → Prop} {w : World} {a : Option Addr} {l : List Chg} (h : PtrsAt S w a l) (hT : ∀ b, S b → b < w.heap.size → T b) : PtrsAt T w a l := fun j c hj => by
  obtain ⟨b, o, g, h1, h2, h3, h4, h5⟩ := h j c hj
  exact ⟨b, o, g, h1, hT b h2 (lt_of_cell h4), hT g h3 h5.lt, h4, h5⟩
theorem PtrsAt.nil {S : Nat → Prop} {w : World} {a : Option Addr} : PtrsAt S w a [] := fun j c hj => by simp at hj
theorem PtrsAt.take {S : Nat → Prop} {w : World} {a : Option Addr} {l : List Chg} (h : PtrsAt S w a l) (k : Nat) : PtrsAt S w a (l.take k) := fun j c hj => by
  have := (List.getElem?_eq_some_iff.1 hj).1
  rw [List.length_take] at this
  rw [List.getElem?_take_of_lt (by omega)] at hj
  exact h j c hj
theorem PtrsAt.drop {S : Nat → Prop} {w : World} {a : Option Addr} {l : List Chg} (h : PtrsAt S w a l) (k m : Nat) (hm : m = k → l.length ≤ k) : PtrsAt S w (advA a k 1 m) (l.drop k) := fun j c hj => by
  rw [List.getElem?_drop] at hj
  obtain ⟨b, o, g, h1, h2, h3, h4, h5⟩ := h _ c hj
  have hl := (List.getElem?_eq_some_iff.1 hj).1
  refine ⟨b, o + k, g, ?_, h2, h3, ?_, h5⟩
  · unfold advA
    rw [if_neg (fun e => by have := hm e; omega), h1]
    simp [add_plain]
  · rw [show o + k + j = o + (k + j) from by omega]
    exact h4
/-- A log in memory. -/
structure LogAt (S : Nat → Prop) (w : World) (p : Nat) (k : Int) (g : Lg) (a : Option Addr) (cap : Nat) : Prop where
  kp : w.cell? ⟨p, 0, none⟩ = some (.int .i64 k)
  hr : w.cell? ⟨p, 1, none⟩ = some (.int .i64 g.hor)
  sl : w.cell? ⟨p, 2, none⟩ = some (.slice a g.cs.length cap)
  le : g.cs.length ≤ cap
  mx : cap ≤ 9223372036854775807
  own : S p
  row : PtrsAt S w a g.cs
theorem LogAt.keep {S : Nat → Prop} {w w' : World} {p : Nat} {k : Int} {g : Lg} {a : Option Addr} {cap : Nat} (h : LogAt S w p k g a cap) (hk : ∀ b, S b → b < w.heap.size → w'.heap[b]? = w.heap[b]?) : LogAt S w' p k g a cap := by
  have c : ∀ i : Nat, w'.cell? ⟨p, i, none⟩ = w.cell? ⟨p, i, none⟩ := fun i => World.cell?_of_block (w := w) (a := ⟨p, i, none⟩) (hk p h.own (lt_of_cell h.kp))
  exact ⟨(c _).trans h.kp, (c _).trans h.hr, (c _).trans h.sl, h.le, h.mx, h.own, h.row.keep hk⟩
theorem LogAt.below {S : Nat → Prop} {w w' : World} {p : Nat} {k : Int} {g : Lg} {a : Option Addr} {cap : Nat} (h : LogAt S w p k g a cap) (hb : Below w.heap.size w w') : LogAt S w' p k g a cap := h.keep (fun b _ hl => hb.block b hl)
theorem LogAt.drewN {S : Nat → Prop} {w : World} {p : Nat} {k : Int} {g : Lg} {a : Option Addr} {cap : Nat} (h : LogAt S w p k g a cap) (m : Nat) : LogAt S (w.drewN m) p k g a cap := h.keep (fun _ _ _ => rfl)
theorem LogAt.mono {S T : Nat → Prop} {w : World} {p : Nat} {k : Int} {g : Lg} {a : Option Addr} {cap : Nat} (h : LogAt S w p k g a cap) (hT : ∀ b, S b → b < w.heap.size → T b) : LogAt T w p k g a cap :=
  ⟨h.kp, h.hr, h.sl, h.le, h.mx, hT p h.own (lt_of_cell h.kp), h.row.mono hT⟩
theorem LogAt.lt {S : Nat → Prop} {w : World} {p : Nat} {k : Int} {g : Lg} {a : Option Addr} {cap : Nat} (h : LogAt S w p k g a cap) : p < w.heap.size := lt_of_cell h.kp
theorem wrap_in {n : Int} (h0 : 0 ≤ n) (h1 : n ≤ 9223372036854775807) : IntKind.i64.wrap n = n := by rw [IntKind.wrap_i64]; omega
theorem ret_int {k : IntKind} {a b : Int} (h : a = b) : Ending.returned (.int k a) = .returned (.int k b) := by rw [h]
end Go.Proofs.Ytpdcinicnekeoaa
