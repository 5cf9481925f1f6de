import Derived.Test.YtjmneiepcbpdpaaDoorBB
import Derived.Test.YtjmneiepcbpdpaaDoorL4
/-! The reader of keys in memory; its small functions. -/
namespace Go.Proofs.YtjmneiepcbpdpaaDoor
open Go Go.RowKit

/-- All that was there is as it was, but for the blocks of S. -/
structure Fr (S : Nat → Prop) (w w' : World) : Prop where
  os : w'.os = w.os
  tape : w'.tape = w.tape
  output : w'.output = w.output
  size : w.heap.size ≤ w'.heap.size
  block : ∀ k, k < w.heap.size → ¬ S k → w'.heap[k]? = w.heap[k]?
theorem Fr.refl (S : Nat → Prop) (w : World) : Fr S w w := ⟨rfl, rfl, rfl, Nat.le_refl _, fun _ _ _ => rfl⟩
theorem Fr.trans {S : Nat → Prop} {x y z : World} (h : Fr S x y) (k : Fr S y z) : Fr S x z :=
  ⟨k.os.trans h.os, k.tape.trans h.tape, k.output.trans h.output, Nat.le_trans h.size k.size, fun i hi hb => (k.block i (Nat.lt_of_lt_of_le hi h.size) hb).trans (h.block i hi hb)⟩
/-- What came behind may also change what was not yet there. -/
theorem Fr.next {S T : Nat → Prop} {x y z : World} (h : Fr S x y) (k : Fr T y z) (hT : ∀ i, T i → S i ∨ x.heap.size ≤ i) : Fr S x z :=
  ⟨k.os.trans h.os, k.tape.trans h.tape, k.output.trans h.output, Nat.le_trans h.size k.size, fun i hi hb => (k.block i (Nat.lt_of_lt_of_le hi h.size) (fun e => (hT i e).elim hb (fun h' => by omega))).trans (h.block i hi hb)⟩
theorem Fr.of_below {S : Nat → Prop} {w w' : World} (h : Below w.heap.size w w') : Fr S w w' := ⟨h.os, h.tape, h.output, h.size, fun k hk _ => h.block k hk⟩
theorem Fr.alloc {S : Nat → Prop} {x w : World} (h : Fr S x w) (o : Obj) : Fr S x (w.alloc o) := h.trans (Fr.of_below ((Below.refl _ w).alloc (Nat.le_refl _) o))
theorem Fr.drewN {S : Nat → Prop} {x w : World} (h : Fr S x w) (n : Nat) : Fr S x (w.drewN n) := ⟨h.os, h.tape, h.output, h.size, h.block⟩
theorem Fr.drew {S : Nat → Prop} {x w : World} (h : Fr S x w) : Fr S x w.drew := ⟨h.os, h.tape, h.output, h.size, h.block⟩
theorem Fr.set {S : Nat → Prop} {x w : World} (h : Fr S x w) (p : Addr) (u : Value) (hp : S p.block ∨ x.heap.size ≤ p.block) : Fr S x (w.setCell p u) :=
  ⟨h.os, h.tape, h.output, by simpa [World.setCell] using h.size, fun k hk hs => (Below.heap_setCell _ _ _ _ (fun e => hp.elim (fun h' => hs (by rw [e]; exact h')) (fun h' => by omega))).trans (h.block k hk hs)⟩
theorem Fr.grown {S : Nat → Prop} {x w w' : World} {b : Option Nat} (h : Fr S x w) (k : w.grownBy w' b) (hb : ∀ g, b = some g → S g ∨ x.heap.size ≤ g) : Fr S x w' :=
  ⟨k.os.trans h.os, k.tape.trans h.tape, k.output.trans h.output, Nat.le_trans h.size k.size, fun i hi hs => (k.block i (Nat.lt_of_lt_of_le hi h.size) (fun e => (hb i e.symm).elim hs (fun h' => by omega))).trans (h.block i hi hs)⟩
theorem Fr.put5 {S : Nat → Prop} {x w : World} (h : Fr S x w) {g : Nat} (hg : S g ∨ x.heap.size ≤ g) (a0 a1 a2 a3 a4 : Value) : Fr S x (put5 w g a0 a1 a2 a3 a4) := by
  unfold Go.Proofs.YtjmneiepcbpdpaaDoor.put5
  exact ((((h.set _ _ hg).set _ _ hg).set _ _ hg).set _ _ hg).set _ _ hg
theorem Fr.below {S : Nat → Prop} {x w : World} {B : Nat} (h : Fr S x w) (hB : B ≤ x.heap.size) (hS : ∀ i, S i → B ≤ i) : Below B x w := ⟨h.os, h.tape, h.output, h.size, fun k hk => h.block k (by omega) (fun e => by have := hS k e; omega)⟩
theorem Fr.cell {S : Nat → Prop} {x w : World} (h : Fr S x w) {p : Addr} {v : Value} (hc : x.cell? p = some v) (hS : ¬ S p.block) : w.cell? p = some v := (World.cell?_of_block (w := x) (h.block _ (lt_of_cell hc) hS)).trans hc

/-- A row of bytes. -/
structure RowB (w : World) (g : Nat) (l : List UInt8) : Prop where
  lt : g < w.heap.size
  at_ : ∀ j, j < l.length → w.cell? ⟨g, j, none⟩ = (Lib.byteCells l)[j]?
theorem RowB.fr {S : Nat → Prop} {w w' : World} {g : Nat} {l : List UInt8} (h : RowB w g l) (hb : Fr S w w') (hg : ¬ S g) : RowB w' g l :=
  ⟨Nat.lt_of_lt_of_le h.lt hb.size, fun j hj => (World.cell?_of_block (w := w) (hb.block g h.lt hg)).trans (h.at_ j hj)⟩
theorem RowB.cell {w : World} {g : Nat} {l : List UInt8} (h : RowB w g l) {p : Nat} {b : UInt8} (hb : l[p]? = some b) : w.cell? ⟨g, p, none⟩ = some (.int .u8 (b.toNat : Int)) := by
  rw [h.at_ p (List.getElem?_eq_some_iff.1 hb).1]
  unfold Lib.byteCells
  rw [List.getElem?_map, hb]
  rfl
/-- What a reader stands on. -/
structure Base (w : World) (r g cap : Nat) (l : List UInt8) : Prop where
  lt : r < w.heap.size
  r3 : 3 ≤ r
  ne : g ≠ r
  row : RowB w g l
  capl : l.length ≤ cap
  capm : cap ≤ 9223372036854775807
  len : l.length ≤ 1000000000
  utf : Lib.Utf8Tabs 1 2 w
theorem Base.keep {S : Nat → Prop} {w w' : World} {r g cap : Nat} {l : List UInt8} (h : Base w r g cap l) (f : Fr S w w') (hg : ¬ S g) (h3 : ∀ k, k < 3 → ¬ S k) : Base w' r g cap l :=
  ⟨Nat.lt_of_lt_of_le h.lt f.size, h.r3, h.ne, h.row.fr f hg, h.capl, h.capm, h.len, utf_keep h.utf (fun k hk => f.block k (by have := h.lt; have := h.r3; omega) (h3 k hk))⟩
theorem Base.keepR {w w' : World} {r g cap : Nat} {l : List UInt8} (h : Base w r g cap l) (f : Fr (· = r) w w') : Base w' r g cap l := h.keep f h.ne (fun k hk e => by have := h.r3; omega)
/-- The reader stands at a place. -/
def At (w : World) (r g cap n p : Nat) : Prop := w.heap[r]? = some (.cells #[.slice (some ⟨g, 0, none⟩) n cap, .int .i64 (p : Int)] 45 (0, 0))
theorem At.keep {S : Nat → Prop} {w w' : World} {r g cap n p : Nat} (h : At w r g cap n p) (f : Fr S w w') (hr : ¬ S r) : At w' r g cap n p := (f.block r (Array.getElem?_eq_some_iff.1 h).1 hr).trans h
theorem At.lt {w : World} {r g cap n p : Nat} (h : At w r g cap n p) : r < w.heap.size := (Array.getElem?_eq_some_iff.1 h).1
theorem At.set {w : World} {r g cap n p : Nat} (h : At w r g cap n p) (q : Nat) : At (w.setCell ⟨r, 1, none⟩ (.int .i64 (q : Int))) r g cap n q := by
  unfold At at *
  simp [World.setCell, Array.getElem?_modify, h]
def Rd.code {α : Type} : Rd α → Int
  | .ok _ _ => 0
  | .no e _ => e
def Rd.place {α : Type} : Rd α → Nat
  | .ok _ p => p
  | .no _ p => p
def Rd.bool : Rd Bool → Bool
  | .ok b _ => b
  | .no _ _ => false
def Rd.text : Rd ByteArray → ByteArray
  | .ok s _ => s
  | .no _ _ => ⟨#[]⟩
theorem fault_code (r g cap n p q : Nat) (e : Int) (w : World) (h : At w r g cap n p) :
    Calls Tryd.prog 24 #[.pointer (some ⟨r, 0, none⟩), .int .i64 e, .int .i64 (q : Int)] w fun x w' => x = .returned (.int .i64 e) ∧ At w' r g cap n q ∧ Fr (· = r) w w' := by
  obtain ⟨y0, y1, yf⟩ := two_cells h
  have yf1 := yf 1
  go_enter Tryd.func24, Tryd.ntmps24
  go_wp2_with fail
  go_ret
  exact ⟨rfl, h.set q, (Fr.refl _ w).set _ _ (.inl rfl)⟩
theorem short_code (r g cap n p : Nat) (w : World) (h : At w r g cap n p) :
    Calls Tryd.prog 23 #[.pointer (some ⟨r, 0, none⟩)] w fun x w' => x = .returned (.int .i64 3) ∧ At w' r g cap n n ∧ Fr (· = r) w w' := by
  have hf := hid_e (fault_code r g cap n p n 3 w h)
  obtain ⟨y0, y1, yf⟩ := two_cells h
  go_enter Tryd.func23, Tryd.ntmps23
  go_wp2_with fail
  go_fit hf.out
  rintro e w1 ⟨rfl, h1, h2⟩
  go_wp2_with fail
  go_ret
  exact ⟨rfl, h1, h2⟩
theorem byte_ne {b c : UInt8} (h : b ≠ c) : ((b.toNat : Int) == (c.toNat : Int)) = false := by
  rw [beq_eq_false_iff_ne]
  intro e
  exact h (UInt8.toNat_inj.1 (by omega))
set_option maxHeartbeats 1000000 in
theorem more_code (r g cap p : Nat) (l : List UInt8) (w : World) (hB : Base w r g cap l) (h : At w r g cap l.length p) (hp : p ≤ l.length) :
    Calls Tryd.prog 46 #[.pointer (some ⟨r, 0, none⟩)] w fun x w' => x = .returned (.tuple #[.bool (moreR l p).bool, .int .i64 (moreR l p).code]) ∧ At w' r g cap l.length (moreR l p).place ∧ Fr (· = r) w w' := by
  have hlen := hB.len
  have hcap := hB.capl
  obtain ⟨y0, y1, yf⟩ := two_cells h
  have yf1 := yf 1
  by_cases he : p = l.length
  · have hm : moreR l p = .no 3 l.length := by unfold moreR; rw [List.getElem?_eq_none (by omega)]
    rw [hm]
    have hf := fun m => hid_e (short_code r g cap l.length p (w.drewN m) h)
    have hd : ((p : Int) == (l.length : Int)) = true := by simp [he]
    go_enter Tryd.func46, Tryd.ntmps46
    go_wp2_with fail
    go_region
    go_wp2_with fail
    go_fit (hf 1).out
    rintro e w1 ⟨rfl, h1, h2⟩
    go_wp2_with fail
    go_ret2
    exact ⟨rfl, h1, ((Fr.refl _ w).drewN 1).trans h2⟩
  · have hd : ((p : Int) == (l.length : Int)) = false := by simp; omega
    have hlt : p < l.length := by omega
    have hlt' : (p : Int) < (l.length : Int) := by omega
    obtain ⟨b, hb⟩ : ∃ b, l[p]? = some b := ⟨_, List.getElem?_eq_getElem hlt⟩
    have hc := hB.row.cell hb
    have hm : moreR l p = if b = 2 then .ok true (p + 1) else if b = 1 then .ok false (p + 1) else .no 30 p := by unfold moreR; rw [hb]
    rw [hm]
    by_cases h2 : b = 2
    · subst h2
      have hc' : w.cell? ⟨g, p, none⟩ = some (.int .u8 2) := hc
      clear hc
      rw [if_pos rfl]
      go_enter Tryd.func46, Tryd.ntmps46
      go_wp2_with fail
      go_region
      go_wp2_with fail
      go_region
      go_wp2_with fail
      go_ret2
      exact ⟨rfl, h.set (p + 1), ((Fr.refl _ w).drewN 2).set _ _ (.inl rfl)⟩
    rw [if_neg h2]
    by_cases h1 : b = 1
    · subst h1
      have hc' : w.cell? ⟨g, p, none⟩ = some (.int .u8 1) := hc
      clear hc
      rw [if_pos rfl]
      go_enter Tryd.func46, Tryd.ntmps46
      go_wp2_with fail
      go_region
      go_wp2_with fail
      go_region
      go_wp2_with fail
      go_ret2
      exact ⟨rfl, h.set (p + 1), ((Fr.refl _ w).drewN 2).set _ _ (.inl rfl)⟩
    rw [if_neg h1]
    have k1 := byte_ne h1
    have k2 := byte_ne h2
    obtain ⟨z, hz⟩ : ∃ z, (b.toNat : Int) = z := ⟨_, rfl⟩
    rw [hz] at hc k1 k2
    have k1' : (z != 1) = true := by simpa using k1
    have k2' : (z != 2) = true := by simpa using k2
    have hf := fun m => hid_e (fault_code r g cap l.length p p 30 (w.drewN m) h)
    go_enter Tryd.func46, Tryd.ntmps46
    go_wp2_with fail
    go_region
    go_wp2_with fail
    go_region
    go_wp2_with fail
    go_fit (hf 2).out
    rintro e w1 ⟨rfl, h1, h2⟩
    go_wp2_with fail
    go_ret2
    exact ⟨rfl, h1, ((Fr.refl _ w).drewN 2).trans h2⟩
end Go.Proofs.YtjmneiepcbpdpaaDoor
