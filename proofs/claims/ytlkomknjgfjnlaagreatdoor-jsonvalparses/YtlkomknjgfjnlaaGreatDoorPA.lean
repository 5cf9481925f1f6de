import Derived.Test.YtlkomknjgfjnlaaGreatDoorS2
import Derived.Test.YtlkomknjgfjnlaaGreatDoorP0
/-! The document's reader of texts in memory: fail, next, blanks, word. -/
namespace Go.Proofs.YtlkomknjgfjnlaaGreatDoor.Tree
open Go Go.RowKit

theorem str_same (a b : ByteArray) : (a.toList == b.toList) = decide (a = b) := by
  rw [Bool.eq_iff_iff, beq_iff_eq, decide_eq_true_eq, ByteArray.toList_eq, ByteArray.toList_eq]
  constructor
  · intro h; exact ByteArray.ext (by simpa using h)
  · intro h; rw [h]
/-- All that was there is as it was, but for the blocks of S. -/
structure Fr (S : Nat → Prop) (w w' : World) : Prop where
  os : w'.os = w.os
  tape : w'.tape = w.tape
  output : w'.output = w.output
  size : w.heap.size ≤ w'.heap.size
  block : ∀ k, k < w.heap.size → ¬ S k → w'.heap[k]? = w.heap[k]?
theorem Fr.refl (S : Nat → Prop) (w : World) : Fr S w w := ⟨rfl, rfl, rfl, Nat.le_refl _, fun _ _ _ => rfl⟩
theorem Fr.trans {S : Nat → Prop} {x y z : World} (h : Fr S x y) (k : Fr S y z) : Fr S x z :=
  ⟨k.os.trans h.os, k.tape.trans h.tape, k.output.trans h.output, Nat.le_trans h.size k.size, fun i hi hb => (k.block i (Nat.lt_of_lt_of_le hi h.size) hb).trans (h.block i hi hb)⟩
theorem Fr.next {S T : Nat → Prop} {x y z : World} (h : Fr S x y) (k : Fr T y z) (hT : ∀ i, T i → S i ∨ x.heap.size ≤ i) : Fr S x z :=
  ⟨k.os.trans h.os, k.tape.trans h.tape, k.output.trans h.output, Nat.le_trans h.size k.size, fun i hi hb => (k.block i (Nat.lt_of_lt_of_le hi h.size) (fun e => (hT i e).elim hb (fun h' => by omega))).trans (h.block i hi hb)⟩
theorem Fr.of_below {S : Nat → Prop} {w w' : World} (h : Below w.heap.size w w') : Fr S w w' := ⟨h.os, h.tape, h.output, h.size, fun k hk _ => h.block k hk⟩
theorem Fr.alloc {S : Nat → Prop} {x w : World} (h : Fr S x w) (o : Obj) : Fr S x (w.alloc o) := h.trans (Fr.of_below ((Below.refl _ w).alloc (Nat.le_refl _) o))
theorem Fr.drewN {S : Nat → Prop} {x w : World} (h : Fr S x w) (n : Nat) : Fr S x (w.drewN n) := ⟨h.os, h.tape, h.output, h.size, h.block⟩
theorem Fr.drew {S : Nat → Prop} {x w : World} (h : Fr S x w) : Fr S x w.drew := ⟨h.os, h.tape, h.output, h.size, h.block⟩
theorem Fr.set {S : Nat → Prop} {x w : World} (h : Fr S x w) (p : Addr) (u : Value) (hp : S p.block ∨ x.heap.size ≤ p.block) : Fr S x (w.setCell p u) :=
  ⟨h.os, h.tape, h.output, by simpa [World.setCell] using h.size, fun k hk hs => (Below.heap_setCell _ _ _ _ (fun e => hp.elim (fun h' => hs (by rw [e]; exact h')) (fun h' => by omega))).trans (h.block k hk hs)⟩
theorem Fr.grown {S : Nat → Prop} {x w w' : World} {b : Option Nat} (h : Fr S x w) (k : w.grownBy w' b) (hb : ∀ g, b = some g → S g ∨ x.heap.size ≤ g) : Fr S x w' :=
  ⟨k.os.trans h.os, k.tape.trans h.tape, k.output.trans h.output, Nat.le_trans h.size k.size, fun i hi hs => (k.block i (Nat.lt_of_lt_of_le hi h.size) (fun e => (hb i e.symm).elim hs (fun h' => by omega))).trans (h.block i hi hs)⟩
theorem Fr.put5 {S : Nat → Prop} {x w : World} (h : Fr S x w) {g : Nat} (hg : S g ∨ x.heap.size ≤ g) (a0 a1 a2 a3 a4 : Value) : Fr S x (put5 w g a0 a1 a2 a3 a4) := by
  unfold Tree.put5
  exact ((((h.set _ _ hg).set _ _ hg).set _ _ hg).set _ _ hg).set _ _ hg
theorem Fr.below {S : Nat → Prop} {x w : World} {B : Nat} (h : Fr S x w) (hB : B ≤ x.heap.size) (hS : ∀ i, S i → B ≤ i) : Below B x w := ⟨h.os, h.tape, h.output, h.size, fun k hk => h.block k (by omega) (fun e => by have := hS k e; omega)⟩
theorem Fr.cell {S : Nat → Prop} {x w : World} (h : Fr S x w) {p : Addr} {v : Value} (hc : x.cell? p = some v) (hS : ¬ S p.block) : w.cell? p = some v := (World.cell?_of_block (w := x) (h.block _ (lt_of_cell hc) hS)).trans hc

/-- The document's reader: its text, its place, its error and that one's place. -/
def RT (w : World) (r : Nat) (T : ByteArray) (q e pl : Int) : Prop := w.heap[r]? = some (.cells #[.string T, .int .i64 q, .int .i64 e, .int .i64 pl] 45 (0, 0))
theorem RT.keep {S : Nat → Prop} {w w' : World} {r : Nat} {T : ByteArray} {q e pl : Int} (h : RT w r T q e pl) (f : Fr S w w') (hr : ¬ S r) : RT w' r T q e pl := (f.block r (Array.getElem?_eq_some_iff.1 h).1 hr).trans h
theorem RT.lt {w : World} {r : Nat} {T : ByteArray} {q e pl : Int} (h : RT w r T q e pl) : r < w.heap.size := (Array.getElem?_eq_some_iff.1 h).1
theorem RT.cells {w : World} {r : Nat} {T : ByteArray} {q e pl : Int} (h : RT w r T q e pl) : w.cell? ⟨r, 0, none⟩ = some (.string T) ∧ w.cell? ⟨r, 1, none⟩ = some (.int .i64 q) ∧ w.cell? ⟨r, 2, none⟩ = some (.int .i64 e) ∧ w.cell? ⟨r, 3, none⟩ = some (.int .i64 pl) ∧ ∀ j, w.frozen? ⟨r, j, none⟩ = false := by
  unfold RT at h
  refine ⟨?_, ?_, ?_, ?_, fun j => ?_⟩
  all_goals simp [World.cell?, World.frozen?, h]
theorem RT.set1 {w : World} {r : Nat} {T : ByteArray} {q e pl : Int} (h : RT w r T q e pl) (q' : Int) : RT (w.setCell ⟨r, 1, none⟩ (.int .i64 q')) r T q' e pl := by
  unfold RT at *
  simp [World.setCell, Array.getElem?_modify, h]
theorem RT.set2 {w : World} {r : Nat} {T : ByteArray} {q e pl : Int} (h : RT w r T q e pl) (e' : Int) : RT (w.setCell ⟨r, 2, none⟩ (.int .i64 e')) r T q e' pl := by
  unfold RT at *
  simp [World.setCell, Array.getElem?_modify, h]
theorem RT.set3 {w : World} {r : Nat} {T : ByteArray} {q e pl : Int} (h : RT w r T q e pl) (p' : Int) : RT (w.setCell ⟨r, 3, none⟩ (.int .i64 p')) r T q e p' := by
  unfold RT at *
  simp [World.setCell, Array.getElem?_modify, h]
/-- What the reader is behind a call. -/
def RSt {α : Type} (w : World) (r : Nat) (T : ByteArray) : Res α → Prop
  | .ok _ q => RT w r T (q : Int) 0 0
  | .bad e p => e ≠ 0 ∧ ∃ z : Int, RT w r T z (e : Int) (p : Int)
theorem RSt.keepF {α : Type} {S : Nat → Prop} {w w' : World} {r : Nat} {T : ByteArray} {R : Res α} (h : RSt w r T R) (f : Fr S w w') (hr : ¬ S r) : RSt w' r T R := by
  cases R with
  | ok x q => exact RT.keep h f hr
  | bad e pl => exact ⟨h.1, h.2.choose, RT.keep h.2.choose_spec f hr⟩
set_option maxHeartbeats 1000000 in
theorem fail_code (r : Nat) (T : ByteArray) (q p e : Int) (w : World) (h : RT w r T q 0 0) :
    Calls Tryz.prog 15 #[.pointer (some ⟨r, 0, none⟩), .int .i64 e, .int .i64 p] w fun x w' => x = .returned (.tuple #[]) ∧ RT w' r T q e p ∧ Fr (· = r) w w' := by
  obtain ⟨y0, y1, y2, y3, yf⟩ := h.cells
  have yf2 := yf 2
  have yf3 := yf 3
  clear yf
  go_enter Tryz.func15, Tryz.ntmps15
  go_wp2_with fail
  refine bodyPost_end (results_none rfl _ _ _) rfl ?_
  exact ⟨rfl, (h.set2 e).set3 p, ((Fr.refl (· = r) w).set _ _ (.inl rfl)).set _ _ (.inl rfl)⟩
set_option maxHeartbeats 1000000 in
theorem next_dead (r : Nat) (T : ByteArray) (q pl e : Int) (w : World) (h : RT w r T q e pl) (he : e ≠ 0) :
    Calls Tryz.prog 22 #[.pointer (some ⟨r, 0, none⟩)] w fun x w' => x = .returned (.tuple #[.int .u8 0, .bool false]) ∧ w' = w := by
  obtain ⟨y0, y1, y2, y3, yf⟩ := h.cells
  have he' : (e != 0) = true := by simpa using he
  go_enter Tryz.func22, Tryz.ntmps22
  go_wp2_with fail
  go_ret2
  exact ⟨rfl, rfl⟩
/-- next, where a byte stands. -/
theorem next_byte (r : Nat) (T : ByteArray) (q : Nat) (w : World) (h : RT w r T (q : Int) 0 0) (hq : q < T.size) :
    Calls Tryz.prog 22 #[.pointer (some ⟨r, 0, none⟩)] w fun x w' => x = .returned (.tuple #[.int .u8 ((byteAt T q).toNat : Int), .bool true]) ∧ RT w' r T (q : Int) 0 0 ∧ Fr (· = r) w w' := by
  obtain ⟨y0, y1, y2, y3, yf⟩ := h.cells
  have hd : ((q : Int) == (T.size : Int)) = false := by simp; omega
  have he := byteAt_eq hq
  have i1 : (q : Int) < (T.size : Int) := by omega
  have i2 : (0 : Int) ≤ (q : Int) := by omega
  go_enter Tryz.func22, Tryz.ntmps22
  go_wp2_with fail
  go_region
  go_wp2_with fail
  go_region
  go_wp2_with (rw [he])
  go_ret2
  exact ⟨rfl, h, (Fr.refl _ w).drewN 2⟩
/-- next, at the end. -/
theorem next_short (r : Nat) (T : ByteArray) (w : World) (h : RT w r T (T.size : Int) 0 0) :
    Calls Tryz.prog 22 #[.pointer (some ⟨r, 0, none⟩)] w fun x w' => x = .returned (.tuple #[.int .u8 0, .bool false]) ∧ RT w' r T (T.size : Int) 3 (T.size : Int) ∧ Fr (· = r) w w' := by
  obtain ⟨y0, y1, y2, y3, yf⟩ := h.cells
  have hd : ((T.size : Int) == (T.size : Int)) = true := by simp
  have hf := fun m => hid_e (fail_code r T (T.size : Int) (T.size : Int) 3 (w.drewN m) h)
  go_enter Tryz.func22, Tryz.ntmps22
  go_wp2_with fail
  go_region
  go_wp2_with fail
  go_fit (hf 1).out
  rintro e w1 ⟨rfl, h1, h2⟩
  go_wp2_with fail
  go_ret2
  exact ⟨rfl, h1, ((Fr.refl _ w).drewN 1).trans h2⟩
end Go.Proofs.YtlkomknjgfjnlaaGreatDoor.Tree
