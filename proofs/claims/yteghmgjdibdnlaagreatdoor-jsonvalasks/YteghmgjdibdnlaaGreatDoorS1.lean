import Derived.Test.YteghmgjdibdnlaaGreatDoorProg
import Derived.WalkKit
import Derived.WalkLawsBesides
import Derived.Outline
import Derived.Below
import Derived.Deep.QuietTactic
import Derived.BigQuiet
/-! The reader in memory, and what a step of it keeps. -/
namespace Go.Proofs.YteghmgjdibdnlaaGreatDoor
open Go Go.RowKit

/-- The byte at a place of a text. -/
def byteAt (T : ByteArray) (n : Nat) : UInt8 := T.data.getD n 0
theorem byteAt_eq {T : ByteArray} {n : Nat} (h : n < T.size) : T[n] = byteAt T n := by
  have h' : n < T.data.size := h
  unfold byteAt
  rw [Array.getD_eq_getD_getElem?, Array.getElem?_eq_getElem h']
  rfl
def blank (c : UInt8) : Bool := c == 32 || c == 9 || c == 10 || c == 13
def digit (c : UInt8) : Bool := 48 ≤ c && c ≤ 57
def frac (c : UInt8) : Bool := c == 46 || c == 101 || c == 69

/-- The reader at block b: its text and its place. -/
def At (b : Nat) (T : ByteArray) (n : Nat) (w : World) : Prop := w.heap[b]? = some (.cells #[.string T, .int .i64 (n : Int)] 57 (0, 0))
/-- All that was there is as it was, but for block b. -/
structure Kp (b : Nat) (w w' : World) : Prop where
  os : w'.os = w.os
  tape : w'.tape = w.tape
  output : w'.output = w.output
  size : w.heap.size ≤ w'.heap.size
  block : ∀ k, k < w.heap.size → k ≠ b → w'.heap[k]? = w.heap[k]?

theorem Kp.refl (b : Nat) (w : World) : Kp b w w := ⟨rfl, rfl, rfl, Nat.le_refl _, fun _ _ _ => rfl⟩
theorem Kp.trans {b : Nat} {x y z : World} (h : Kp b x y) (k : Kp b y z) : Kp b x z :=
  ⟨k.os.trans h.os, k.tape.trans h.tape, k.output.trans h.output, Nat.le_trans h.size k.size,
    fun i hi hb => (k.block i (Nat.lt_of_lt_of_le hi h.size) hb).trans (h.block i hi hb)⟩
theorem Kp.drew {b : Nat} {x w : World} (h : Kp b x w) : Kp b x w.drew := ⟨h.os, h.tape, h.output, h.size, h.block⟩
theorem Kp.drewN {b : Nat} {x w : World} (h : Kp b x w) (n : Nat) : Kp b x (w.drewN n) := ⟨h.os, h.tape, h.output, h.size, h.block⟩
theorem Kp.alloc {b : Nat} {x w : World} (h : Kp b x w) (o : Obj) : Kp b x (w.alloc o) :=
  h.trans ⟨rfl, rfl, rfl, by simp, fun k hk _ => Below.heap_alloc _ _ _ hk⟩
theorem Kp.setCell {b : Nat} {x w : World} (h : Kp b x w) (o : Nat) (u : Value) : Kp b x (w.setCell ⟨b, o, none⟩ u) :=
  h.trans ⟨rfl, rfl, rfl, by simp [World.setCell], fun k _ hb => Below.heap_setCell _ _ _ _ hb⟩
theorem Kp.setNew {b : Nat} {x w : World} (h : Kp b x w) {p : Addr} (hp : x.heap.size ≤ p.block) (u : Value) : Kp b x (w.setCell p u) :=
  ⟨h.os, h.tape, h.output, by simpa [World.setCell] using h.size, fun k hk hb => (Below.heap_setCell _ _ _ _ (by omega)).trans (h.block k hk hb)⟩
theorem Kp.sz_set (w : World) (p : Addr) (u : Value) : (w.setCell p u).heap.size = w.heap.size := by simp [World.setCell]
theorem Kp.below {b : Nat} {w w' : World} (h : Below w.heap.size w w') : Kp b w w' := ⟨h.os, h.tape, h.output, h.size, fun k hk _ => h.block k hk⟩
/-- Seen from a world in which block b was not yet there. -/
theorem Kp.above {b B : Nat} {x w w' : World} (h : Kp b w w') (hx : Below B x w) (hB : B ≤ w.heap.size) (hb : B ≤ b) : Below B x w' :=
  hx.trans ⟨h.os, h.tape, h.output, h.size, fun k hk => h.block k (by omega) (by omega)⟩

theorem At.lt {b n : Nat} {T : ByteArray} {w : World} (h : At b T n w) : b < w.heap.size := by
  unfold At at h
  exact (Array.getElem?_eq_some_iff.1 h).1
theorem At.c0 {b n : Nat} {T : ByteArray} {w : World} (h : At b T n w) : w.cell? ⟨b, 0, none⟩ = some (.string T) := by
  unfold At at h; simp [World.cell?, h]
theorem At.c1 {b n : Nat} {T : ByteArray} {w : World} (h : At b T n w) : w.cell? ⟨b, 1, none⟩ = some (.int .i64 (n : Int)) := by
  unfold At at h; simp [World.cell?, h]
theorem At.fz {b n : Nat} {T : ByteArray} {w : World} (h : At b T n w) (o : Nat) : w.frozen? ⟨b, o, none⟩ = false := by
  unfold At at h; simp [World.frozen?, h]
theorem At.drew {b n : Nat} {T : ByteArray} {w : World} (h : At b T n w) : At b T n w.drew := h
theorem At.drewN {b n : Nat} {T : ByteArray} {w : World} (h : At b T n w) (k : Nat) : At b T n (w.drewN k) := h
theorem At.set {b n : Nat} {T : ByteArray} {w : World} (h : At b T n w) (m : Int) (m' : Nat) (e : m = m') : At b T m' (w.setCell ⟨b, 1, none⟩ (.int .i64 m)) := by
  subst e
  unfold At at *
  simp [World.setCell, Array.getElem?_modify, h]
theorem At.setOther {b n : Nat} {T : ByteArray} {w : World} (h : At b T n w) {p : Addr} (hp : b ≠ p.block) (u : Value) : At b T n (w.setCell p u) := by
  unfold At at *; rw [Below.heap_setCell _ _ _ _ hp, h]
theorem At.kept {b n : Nat} {T : ByteArray} {w w' : World} (h : At b T n w) (hb : Below w.heap.size w w') : At b T n w' := by
  unfold At at *; rw [hb.block b (At.lt h), h]
theorem At.alloc {b n : Nat} {T : ByteArray} {w : World} (h : At b T n w) (o : Obj) : At b T n (w.alloc o) := by
  unfold At at *; rw [Below.heap_alloc _ _ _ (At.lt h), h]

/-- What a reader panics with. -/
def faultV (e : Int) (p : Int) : Value := .iface 59 (.agg #[.int .i64 e, .int .i64 p])
def faultC (e : Int) (p : Int) : List PanicEntry := [{ v := faultV e p, recovered := false }]
end Go.Proofs.YteghmgjdibdnlaaGreatDoor
