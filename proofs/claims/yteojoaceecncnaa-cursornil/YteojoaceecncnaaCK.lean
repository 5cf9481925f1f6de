import Derived.Test.YteojoaceecncnaaCI
import Derived.Deep.Cut
/-! cursor: a page over a list. -/
namespace Go.Proofs.Yteojoaceecncnaa
open Go Go.RowKit

/-- A cursor in memory. -/
def CuAt (w : World) (b batch looked rank : Nat) (key : ByteArray) (dn : Bool) : Prop := w.heap[b]? = some (.cells #[.pointer none, .pointer none, .int .i64 batch, .int .i64 looked, .int .u64 rank, .string key, .bool dn] 62 (0, 0))
theorem CuAt.cells {w : World} {b batch looked rank : Nat} {key : ByteArray} {dn : Bool} (h : CuAt w b batch looked rank key dn) : (w.cell? ⟨b, 0, none⟩ = some (.pointer none) ∧ w.cell? ⟨b, 1, none⟩ = some (.pointer none) ∧ w.cell? ⟨b, 2, none⟩ = some (.int .i64 batch) ∧ w.cell? ⟨b, 3, none⟩ = some (.int .i64 looked) ∧ w.cell? ⟨b, 4, none⟩ = some (.int .u64 rank) ∧ w.cell? ⟨b, 5, none⟩ = some (.string key) ∧ w.cell? ⟨b, 6, none⟩ = some (.bool dn)) ∧ ∀ j, w.frozen? ⟨b, j, none⟩ = false := by
  unfold CuAt at h
  simp [World.cell?, World.frozen?, h]
theorem CuAt.frame {S : Nat → Prop} {w w' : World} {b batch looked rank : Nat} {key : ByteArray} {dn : Bool} (h : CuAt w b batch looked rank key dn) (hf : Fr S w w') (hS : ¬ S b) : CuAt w' b batch looked rank key dn := (hf.block _ (Array.getElem?_eq_some_iff.1 h).1 hS).trans h
def put7 (w : World) (b : Nat) (v2 v3 v4 v5 v6 : Value) : World := ((((((w.setCell ⟨b, 0, none⟩ (.pointer none)).setCell ⟨b, 1, none⟩ (.pointer none)).setCell ⟨b, 2, none⟩ v2).setCell ⟨b, 3, none⟩ v3).setCell ⟨b, 4, none⟩ v4).setCell ⟨b, 5, none⟩ v5).setCell ⟨b, 6, none⟩ v6
theorem CuAt.put {w : World} {b batch looked rank : Nat} {key : ByteArray} {dn : Bool} (h : CuAt w b batch looked rank key dn) (m l r : Nat) (k : ByteArray) (d : Bool) : CuAt (put7 w b (.int .i64 m) (.int .i64 l) (.int .u64 r) (.string k) (.bool d)) b m l r k d := by
  unfold CuAt put7 at *
  simp [World.setCell, Array.getElem?_modify, h]
theorem CuAt.done {w : World} {b batch looked rank : Nat} {key : ByteArray} {dn : Bool} (h : CuAt w b batch looked rank key dn) (d : Bool) : CuAt (w.setCell ⟨b, 6, none⟩ (.bool d)) b batch looked rank key d := by
  unfold CuAt at *
  simp [World.setCell, Array.getElem?_modify, h]
theorem Fr.put7 {S : Nat → Prop} {x w : World} (h : Fr S x w) {b : Nat} (hb : S b ∨ x.heap.size ≤ b) (v2 v3 v4 v5 v6 : Value) : Fr S x (put7 w b v2 v3 v4 v5 v6) := by
  unfold Proofs.Yteojoaceecncnaa.put7
  exact ((((((h.set ⟨b, 0, none⟩ _ hb).set ⟨b, 1, none⟩ _ hb).set ⟨b, 2, none⟩ _ hb).set ⟨b, 3, none⟩ _ hb).set ⟨b, 4, none⟩ _ hb).set ⟨b, 5, none⟩ _ hb).set ⟨b, 6, none⟩ _ hb
set_option maxHeartbeats 4000000 in
set_option maxRecDepth 100000 in
theorem turn_any (cb batch l0 r0 l r n c : Nat) (k0 k : ByteArray) (d0 : Bool) (a : Option Addr) (w : World) (h : CuAt w cb batch l0 r0 k0 d0) :
    Calls Try.prog 15 #[.pointer (some ⟨cb, 0, none⟩), .agg #[.pointer none, .pointer none, .int .i64 batch, .int .i64 l, .int .u64 r, .string k, .bool false, .slice a n c, .int .i64 0]] w fun e w' => e = .returned (.tuple #[.slice a n c, .bool (! decide (n = batch))]) ∧ CuAt w' cb batch l r k (! decide (n = batch)) ∧ Fr (fun b => b = cb) w w' := by
  have hlt := hid_of (Array.getElem?_eq_some_iff.1 h).1
  have hB := (Below.refl _ w).alloc (Nat.le_refl _) (.cells #[.pointer none, .pointer none, .int .i64 batch, .int .i64 l, .int .u64 r, .string k, .bool false, .slice a n c, .int .i64 0] 64)
  have hP : PgAt (w.alloc (.cells #[.pointer none, .pointer none, .int .i64 batch, .int .i64 l, .int .u64 r, .string k, .bool false, .slice a n c, .int .i64 0] 64)) w.heap.size batch l r k (.slice a n c) := heap_alloc_new w _
  have hF := hid_of (Fr.of_below (S := fun b => b = cb) hB)
  have hC := hid_of (h.frame (Fr.of_below (S := fun _ => False) hB) (fun h => h))
  obtain ⟨W1, hW1⟩ : ∃ W1, Hid (w.alloc (.cells #[.pointer none, .pointer none, .int .i64 batch, .int .i64 l, .int .u64 r, .string k, .bool false, .slice a n c, .int .i64 0] 64) = W1) := ⟨_, rfl⟩
  rw [hW1.out] at hP hF hC
  replace hP := hid_of hP
  obtain ⟨⟨p0, p1, p2, p3, p4, p5, p6, p7, p8⟩, -⟩ := hP.out.cells
  obtain ⟨⟨c0, c1, c2, c3, c4, c5, c6⟩, hf⟩ := hC.out.cells
  have f0 := hf 0
  have f1 := hf 1
  have f2 := hf 2
  have f3 := hf 3
  have f4 := hf 4
  have f5 := hf 5
  have f6 := hf 6
  clear h hB hf
  have hne := hid_of (show w.heap.size ≠ cb by have := hlt.out; omega)
  go_enter Try.func15, Try.ntmps15
  go_upto_region 1 with (rw [hW1.out])
  go_wp2_with fail
  have hC2 := hid_of (hC.out.put batch l r k false)
  have hF2 := hid_of ((Fr.refl (fun b => b = cb) W1).put7 (b := cb) (.inl rfl) (.int .i64 batch) (.int .i64 l) (.int .u64 r) (.string k) (.bool false))
  have hP2 : Hid (PgAt (put7 W1 cb (.int .i64 batch) (.int .i64 l) (.int .u64 r) (.string k) (.bool false)) w.heap.size batch l r k (.slice a n c)) := (hF2.out.block _ (Array.getElem?_eq_some_iff.1 hP.out).1 hne.out).trans hP.out
  unfold put7 at hC2 hF2 hP2
  clear p0 p1 p2 p3 p4 p5 p6 p7 p8 c0 c1 c2 c3 c4 c5 c6 f0 f1 f2 f3 f4 f5 f6
  generalize ((((((W1.setCell ⟨cb, 0, none⟩ (.pointer none)).setCell ⟨cb, 1, none⟩ (.pointer none)).setCell ⟨cb, 2, none⟩ (.int .i64 batch)).setCell ⟨cb, 3, none⟩ (.int .i64 l)).setCell ⟨cb, 4, none⟩ (.int .u64 r)).setCell ⟨cb, 5, none⟩ (.string k)).setCell ⟨cb, 6, none⟩ (.bool false) = W2 at hC2 hF2 hP2 ⊢
  refine (full_any w.heap.size batch l r n c k a W2 hP2.out).mono ?_
  rintro e X1 ⟨rfl, hX1⟩
  replace hP2 := hid_of (hP2.out.keep hX1)
  replace hC2 := hid_of (hC2.out.frame (Fr.of_below (S := fun _ => False) hX1) (fun h => h))
  replace hF2 := hid_of ((hF.out.trans hF2.out).trans (Fr.of_below hX1))
  clear hX1 hC hF hP hW1
  obtain ⟨d, hd⟩ : ∃ d, Hid (decide (n = batch) = d) := ⟨_, rfl⟩
  rw [hd.out]
  obtain ⟨⟨c0, c1, c2, c3, c4, c5, c6⟩, hf⟩ := hC2.out.cells
  have f6 := hf 6
  clear hf
  go_wp2_with fail
  have hC3 := hid_of (hC2.out.done (!d))
  have hF3 := hid_of (hF2.out.set ⟨cb, 6, none⟩ (.bool (!d)) (.inl rfl))
  have hP3 : Hid (PgAt (X1.setCell ⟨cb, 6, none⟩ (.bool (!d))) w.heap.size batch l r k (.slice a n c)) := (Below.heap_setCell _ _ _ _ hne.out).trans hP2.out
  clear c0 c1 c2 c3 c4 c5 c6 f6 hC2 hF2 hP2
  generalize X1.setCell ⟨cb, 6, none⟩ (.bool (!d)) = X2 at hC3 hF3 hP3 ⊢
  obtain ⟨⟨p0, p1, p2, p3, p4, p5, p6, p7, p8⟩, -⟩ := hP3.out.cells
  obtain ⟨⟨c0, c1, c2, c3, c4, c5, c6⟩, -⟩ := hC3.out.cells
  go_region
  go_wp2_with fail
  go_ret2
  rw [hd.out]
  exact ⟨rfl, hC3.out.frame (S := fun _ => False) ((Fr.refl _ _).drew) (fun h => h), hF3.out.drew⟩
set_option maxHeartbeats 1000000 in
theorem done_any (cb batch l r : Nat) (k : ByteArray) (d : Bool) (w : World) (h : CuAt w cb batch l r k d) :
    Calls Try.prog 11 #[.pointer (some ⟨cb, 0, none⟩)] w fun e w' => e = .returned (.bool d) ∧ w' = w := by
  obtain ⟨⟨c0, c1, c2, c3, c4, c5, c6⟩, -⟩ := h.cells
  clear h
  go_enter Try.func11, Try.ntmps11
  go_wp2_with fail
  go_ret
  exact ⟨rfl, rfl⟩
set_option maxHeartbeats 1000000 in
theorem looked_any (cb batch l r : Nat) (k : ByteArray) (d : Bool) (w : World) (h : CuAt w cb batch l r k d) :
    Calls Try.prog 10 #[.pointer (some ⟨cb, 0, none⟩)] w fun e w' => e = .returned (.int .i64 l) ∧ w' = w := by
  obtain ⟨⟨c0, c1, c2, c3, c4, c5, c6⟩, -⟩ := h.cells
  clear h
  go_enter Try.func10, Try.ntmps10
  go_wp2_with fail
  go_ret
  exact ⟨rfl, rfl⟩
set_option maxHeartbeats 1000000 in
theorem done_nil (w : World) : Calls Try.prog 11 #[.pointer none] w fun e w' => e = .returned (.bool true) ∧ w' = w := by
  go_enter Try.func11, Try.ntmps11
  go_wp2_with fail
  go_ret
  exact ⟨rfl, rfl⟩
set_option maxHeartbeats 1000000 in
theorem looked_nil (w : World) : Calls Try.prog 10 #[.pointer none] w fun e w' => e = .returned (.int .i64 0) ∧ w' = w := by
  go_enter Try.func10, Try.ntmps10
  go_wp2_with fail
  go_ret
  exact ⟨rfl, rfl⟩
set_option maxHeartbeats 1000000 in
theorem new2 (w : World) : Calls Try.prog 12 #[.pointer none, .pointer none, .int .i64 2] w fun e w' => e = .returned (.tuple #[.pointer (some ⟨w.heap.size, 0, none⟩), .int .i64 0]) ∧ Below w.heap.size w w' ∧ CuAt w' w.heap.size 2 0 0 ⟨#[]⟩ false := by
  go_enter Try.func12, Try.ntmps12
  go_wp2_with fail
  go_ret2
  exact ⟨rfl, (Below.refl _ w).alloc (Nat.le_refl _) _, heap_alloc_new w _⟩
end Go.Proofs.Yteojoaceecncnaa
