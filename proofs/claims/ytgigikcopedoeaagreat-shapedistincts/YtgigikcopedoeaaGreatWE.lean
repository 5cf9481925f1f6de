import Derived.Test.YtgigikcopedoeaaGreatWD
/-! Order of two documents. -/
namespace Go.Proofs.YtgigikcopedoeaaGreat
open Go Go.RowKit

def rows0 (w : World) (g : Nat) (a0 a1 a2 a3 a4 a5 a6 a7 : Value) : World := (((((((w.setCell ⟨g, 0, none⟩ a0).setCell ⟨g, 1, none⟩ a1).setCell ⟨g, 2, none⟩ a2).setCell ⟨g, 3, none⟩ a3).setCell ⟨g, 4, none⟩ a4).setCell ⟨g, 5, none⟩ a5).setCell ⟨g, 6, none⟩ a6).setCell ⟨g, 7, none⟩ a7
theorem rows0_at {w : World} {g : Nat} {c0 c1 c2 c3 c4 c5 c6 c7 c8 c9 c10 c11 c12 c13 c14 c15 : Value} {t : TypeId} (h : w.heap[g]? = some (.cells #[c0, c1, c2, c3, c4, c5, c6, c7, c8, c9, c10, c11, c12, c13, c14, c15] t (0, 0))) (a0 a1 a2 a3 a4 a5 a6 a7 : Value) : (rows0 w g a0 a1 a2 a3 a4 a5 a6 a7).heap[g]? = some (.cells #[a0, a1, a2, a3, a4, a5, a6, a7, c8, c9, c10, c11, c12, c13, c14, c15] t (0, 0)) := by
  simp [rows0, World.setCell, Array.getElem?_modify, h]
theorem rows0_far {w : World} {g : Nat} (a0 a1 a2 a3 a4 a5 a6 a7 : Value) {k : Nat} (hk : k ≠ g) : (rows0 w g a0 a1 a2 a3 a4 a5 a6 a7).heap[k]? = w.heap[k]? := by
  unfold rows0
  repeat rw [Below.heap_setCell _ _ _ _ hk]
theorem rows0_size (w : World) (g : Nat) (a0 a1 a2 a3 a4 a5 a6 a7 : Value) : (rows0 w g a0 a1 a2 a3 a4 a5 a6 a7).heap.size = w.heap.size := by simp [rows0, World.setCell]
theorem rows0_grown (w : World) (g : Nat) (a0 a1 a2 a3 a4 a5 a6 a7 : Value) : w.grownBy (rows0 w g a0 a1 a2 a3 a4 a5 a6 a7) (some g) :=
  ⟨by unfold rows0; repeat rw [set_os], by unfold rows0; repeat rw [set_tape], by unfold rows0; repeat rw [set_out], by rw [rows0_size]; exact Nat.le_refl _, fun k _ hk => rows0_far _ _ _ _ _ _ _ _ (fun e => hk (by rw [e]))⟩

def rows8 (w : World) (g : Nat) (a0 a1 a2 a3 a4 a5 a6 a7 : Value) : World := (((((((w.setCell ⟨g, 8, none⟩ a0).setCell ⟨g, 9, none⟩ a1).setCell ⟨g, 10, none⟩ a2).setCell ⟨g, 11, none⟩ a3).setCell ⟨g, 12, none⟩ a4).setCell ⟨g, 13, none⟩ a5).setCell ⟨g, 14, none⟩ a6).setCell ⟨g, 15, none⟩ a7
theorem rows8_at {w : World} {g : Nat} {c0 c1 c2 c3 c4 c5 c6 c7 c8 c9 c10 c11 c12 c13 c14 c15 : Value} {t : TypeId} (h : w.heap[g]? = some (.cells #[c0, c1, c2, c3, c4, c5, c6, c7, c8, c9, c10, c11, c12, c13, c14, c15] t (0, 0))) (a0 a1 a2 a3 a4 a5 a6 a7 : Value) : (rows8 w g a0 a1 a2 a3 a4 a5 a6 a7).heap[g]? = some (.cells #[c0, c1, c2, c3, c4, c5, c6, c7, a0, a1, a2, a3, a4, a5, a6, a7] t (0, 0)) := by
  simp [rows8, World.setCell, Array.getElem?_modify, h]
theorem rows8_far {w : World} {g : Nat} (a0 a1 a2 a3 a4 a5 a6 a7 : Value) {k : Nat} (hk : k ≠ g) : (rows8 w g a0 a1 a2 a3 a4 a5 a6 a7).heap[k]? = w.heap[k]? := by
  unfold rows8
  repeat rw [Below.heap_setCell _ _ _ _ hk]
theorem rows8_size (w : World) (g : Nat) (a0 a1 a2 a3 a4 a5 a6 a7 : Value) : (rows8 w g a0 a1 a2 a3 a4 a5 a6 a7).heap.size = w.heap.size := by simp [rows8, World.setCell]
theorem rows8_grown (w : World) (g : Nat) (a0 a1 a2 a3 a4 a5 a6 a7 : Value) : w.grownBy (rows8 w g a0 a1 a2 a3 a4 a5 a6 a7) (some g) :=
  ⟨by unfold rows8; repeat rw [set_os], by unfold rows8; repeat rw [set_tape], by unfold rows8; repeat rw [set_out], by rw [rows8_size]; exact Nat.le_refl _, fun k _ hk => rows8_far _ _ _ _ _ _ _ _ (fun e => hk (by rw [e]))⟩

def docs0 (w : World) (g : Nat) (a0 a1 a2 a3 a4 a5 a6 : Value) : World := ((((((w.setCell ⟨g, 0, none⟩ a0).setCell ⟨g, 1, none⟩ a1).setCell ⟨g, 2, none⟩ a2).setCell ⟨g, 3, none⟩ a3).setCell ⟨g, 4, none⟩ a4).setCell ⟨g, 5, none⟩ a5).setCell ⟨g, 6, none⟩ a6
theorem docs0_at {w : World} {g : Nat} {c0 c1 c2 c3 c4 c5 c6 c7 c8 c9 c10 c11 c12 c13 : Value} {t : TypeId} (h : w.heap[g]? = some (.cells #[c0, c1, c2, c3, c4, c5, c6, c7, c8, c9, c10, c11, c12, c13] t (0, 0))) (a0 a1 a2 a3 a4 a5 a6 : Value) : (docs0 w g a0 a1 a2 a3 a4 a5 a6).heap[g]? = some (.cells #[a0, a1, a2, a3, a4, a5, a6, c7, c8, c9, c10, c11, c12, c13] t (0, 0)) := by
  simp [docs0, World.setCell, Array.getElem?_modify, h]
theorem docs0_far {w : World} {g : Nat} (a0 a1 a2 a3 a4 a5 a6 : Value) {k : Nat} (hk : k ≠ g) : (docs0 w g a0 a1 a2 a3 a4 a5 a6).heap[k]? = w.heap[k]? := by
  unfold docs0
  repeat rw [Below.heap_setCell _ _ _ _ hk]
theorem docs0_size (w : World) (g : Nat) (a0 a1 a2 a3 a4 a5 a6 : Value) : (docs0 w g a0 a1 a2 a3 a4 a5 a6).heap.size = w.heap.size := by simp [docs0, World.setCell]
theorem docs0_grown (w : World) (g : Nat) (a0 a1 a2 a3 a4 a5 a6 : Value) : w.grownBy (docs0 w g a0 a1 a2 a3 a4 a5 a6) (some g) :=
  ⟨by unfold docs0; repeat rw [set_os], by unfold docs0; repeat rw [set_tape], by unfold docs0; repeat rw [set_out], by rw [docs0_size]; exact Nat.le_refl _, fun k _ hk => docs0_far _ _ _ _ _ _ _ (fun e => hk (by rw [e]))⟩

def docs7 (w : World) (g : Nat) (a0 a1 a2 a3 a4 a5 a6 : Value) : World := ((((((w.setCell ⟨g, 7, none⟩ a0).setCell ⟨g, 8, none⟩ a1).setCell ⟨g, 9, none⟩ a2).setCell ⟨g, 10, none⟩ a3).setCell ⟨g, 11, none⟩ a4).setCell ⟨g, 12, none⟩ a5).setCell ⟨g, 13, none⟩ a6
theorem docs7_at {w : World} {g : Nat} {c0 c1 c2 c3 c4 c5 c6 c7 c8 c9 c10 c11 c12 c13 : Value} {t : TypeId} (h : w.heap[g]? = some (.cells #[c0, c1, c2, c3, c4, c5, c6, c7, c8, c9, c10, c11, c12, c13] t (0, 0))) (a0 a1 a2 a3 a4 a5 a6 : Value) : (docs7 w g a0 a1 a2 a3 a4 a5 a6).heap[g]? = some (.cells #[c0, c1, c2, c3, c4, c5, c6, a0, a1, a2, a3, a4, a5, a6] t (0, 0)) := by
  simp [docs7, World.setCell, Array.getElem?_modify, h]
theorem docs7_far {w : World} {g : Nat} (a0 a1 a2 a3 a4 a5 a6 : Value) {k : Nat} (hk : k ≠ g) : (docs7 w g a0 a1 a2 a3 a4 a5 a6).heap[k]? = w.heap[k]? := by
  unfold docs7
  repeat rw [Below.heap_setCell _ _ _ _ hk]
theorem docs7_size (w : World) (g : Nat) (a0 a1 a2 a3 a4 a5 a6 : Value) : (docs7 w g a0 a1 a2 a3 a4 a5 a6).heap.size = w.heap.size := by simp [docs7, World.setCell]
theorem docs7_grown (w : World) (g : Nat) (a0 a1 a2 a3 a4 a5 a6 : Value) : w.grownBy (docs7 w g a0 a1 a2 a3 a4 a5 a6) (some g) :=
  ⟨by unfold docs7; repeat rw [set_os], by unfold docs7; repeat rw [set_tape], by unfold docs7; repeat rw [set_out], by rw [docs7_size]; exact Nat.le_refl _, fun k _ hk => docs7_far _ _ _ _ _ _ _ (fun e => hk (by rw [e]))⟩

theorem mk_rows (w : World) : (Instr.makeSlice 71 (.int .i64 2) (.int .i64 2)).run Tryz.prog w = .ok (.slice (some ⟨w.heap.size, 0, none⟩) 2 2) (w.alloc (.cells #[.string ⟨#[]⟩, .int .i64 0, .int .i64 0, .int .i64 0, .string ⟨#[]⟩, .slice none 0 0, .slice none 0 0, .slice none 0 0, .string ⟨#[]⟩, .int .i64 0, .int .i64 0, .int .i64 0, .string ⟨#[]⟩, .slice none 0 0, .slice none 0 0, .slice none 0 0] 73)) := by kernel_rfl
theorem mk_docs (w : World) : (Instr.makeSlice 26 (.int .i64 2) (.int .i64 2)).run Tryz.prog w = .ok (.slice (some ⟨w.heap.size, 0, none⟩) 2 2) (w.alloc (.cells #[.string ⟨#[]⟩, .int .i64 0, .int .i64 0, .int .i64 0, .string ⟨#[]⟩, .slice none 0 0, .slice none 0 0, .string ⟨#[]⟩, .int .i64 0, .int .i64 0, .int .i64 0, .string ⟨#[]⟩, .slice none 0 0, .slice none 0 0] 50)) := by kernel_rfl
theorem below_grown {B : Nat} {x w w' : World} {g : Nat} (h : Below B x w) (hg : w.grownBy w' (some g)) (hB : B ≤ g) (hs : B ≤ w.heap.size) : Below B x w' := h.trans (grown_below hg hs (fun k e => by cases e; exact hB))
theorem num_ne {w : World} {k g : Nat} {x : Int} {s : ByteArray} (h : NumAt w k 0 x) (hg : w.cell? ⟨g, 0, none⟩ = some (.string s)) : k ≠ g := fun e => by
  subst e
  have := h.1
  rw [hg] at this
  cases this
theorem num_grown {w w' : World} {k g : Nat} {x : Int} (h : NumAt w k 0 x) (hg : w.grownBy w' (some g)) (hne : k ≠ g) : NumAt w' k 0 x := by
  have hk : w'.heap[k]? = w.heap[k]? := hg.block k (lt_of_cell h.1) (fun e => by cases e; exact hne rfl)
  unfold NumAt World.cell? at *
  rw [hk]; exact h
theorem cell_grown {w w' : World} {p : Addr} {v : Value} {g : Nat} (h : w.cell? p = some v) (hg : w.grownBy w' (some g)) (hne : p.block ≠ g) : w'.cell? p = some v := (World.cell?_of_block (hg.block _ (lt_of_cell h) (fun e => by cases e; exact hne rfl))).trans h
theorem blk_grown {w w' : World} {b : Nat} {o : Obj} {g : Nat} (h : w.heap[b]? = some o) (hg : w.grownBy w' (some g)) (hne : b ≠ g) : w'.heap[b]? = some o := (hg.block _ (Array.getElem?_eq_some_iff.1 h).1 (fun e => by cases e; exact hne rfl)).trans h
/-- What Order answers of two documents, the second one ahead. -/
def OPost (w : World) (i2 : ByteArray) (bn2 cn2 bi2 ci2 : Nat) (e : Ending) (w' : World) : Prop := Below w.heap.size w w' ∧ ∃ ob, e = .returned (.slice (some ⟨ob, 0, none⟩) 2 2) ∧ ∃ d0 d1 d2 d3 d4 d5 d6, w'.heap[ob]? = some (.cells #[.string i2, .int .i64 0, .int .i64 6, .int .i64 0, .string ⟨#[]⟩, .slice (some ⟨bn2, 0, none⟩) 1 cn2, .slice (some ⟨bi2, 0, none⟩) 1 ci2, d0, d1, d2, d3, d4, d5, d6] 50 (0, 0))
set_option maxHeartbeats 8000000 in
set_option maxRecDepth 100000 in
theorem order_k (sb lb : Nat) (i1 : ByteArray) (bn1 cn1 bi1 ci1 : Nat) (i2 : ByteArray) (bn2 cn2 bi2 ci2 : Nat) (w : World) (hT : TurnsAt w sb) (hL : w.heap[lb]? = some (.cells #[.string i1, .int .i64 0, .int .i64 6, .int .i64 0, .string ⟨#[]⟩, .slice (some ⟨bn1, 0, none⟩) 1 cn1, .slice (some ⟨bi1, 0, none⟩) 1 ci1, .string i2, .int .i64 0, .int .i64 6, .int .i64 0, .string ⟨#[]⟩, .slice (some ⟨bn2, 0, none⟩) 1 cn2, .slice (some ⟨bi2, 0, none⟩) 1 ci2] 50)) (hn1 : w.cell? ⟨bn1, 0, none⟩ = some (.string nameA)) (hI1 : NumAt w bi1 0 1) (hn2 : w.cell? ⟨bn2, 0, none⟩ = some (.string nameA)) (hI2 : NumAt w bi2 0 2) :
    Calls Tryz.prog 14 #[.pointer (some ⟨sb, 0, none⟩), .slice (some ⟨lb, 0, none⟩) 2 2] w (OPost w i2 bn2 cn2 bi2 ci2) := by
  have hmr := mk_rows
  have hmd := mk_docs
  have HB : Below w.heap.size w (w.alloc (.cells #[.string ⟨#[]⟩, .int .i64 0, .int .i64 0, .int .i64 0, .string ⟨#[]⟩, .slice none 0 0, .slice none 0 0, .slice none 0 0, .string ⟨#[]⟩, .int .i64 0, .int .i64 0, .int .i64 0, .string ⟨#[]⟩, .slice none 0 0, .slice none 0 0, .slice none 0 0] 73)) := (Below.refl _ w).alloc (Nat.le_refl _) _
  have r := heap_alloc_new w (.cells #[.string ⟨#[]⟩, .int .i64 0, .int .i64 0, .int .i64 0, .string ⟨#[]⟩, .slice none 0 0, .slice none 0 0, .slice none 0 0, .string ⟨#[]⟩, .int .i64 0, .int .i64 0, .int .i64 0, .string ⟨#[]⟩, .slice none 0 0, .slice none 0 0, .slice none 0 0] 73)
  have hlb := (Array.getElem?_eq_some_iff.1 hL).1
  replace hT := hid_of hT
  replace hL := hid_of hL
  replace hn1 := hid_of hn1
  replace hI1 := hid_of hI1
  replace hn2 := hid_of hn2
  replace hI2 := hid_of hI2
  go_enter Tryz.func14, Tryz.ntmps14
  go_upto_region 2 with fail
  generalize w.alloc (.cells #[.string ⟨#[]⟩, .int .i64 0, .int .i64 0, .int .i64 0, .string ⟨#[]⟩, .slice none 0 0, .slice none 0 0, .slice none 0 0, .string ⟨#[]⟩, .int .i64 0, .int .i64 0, .int .i64 0, .string ⟨#[]⟩, .slice none 0 0, .slice none 0 0, .slice none 0 0] 73) = X1 at HB r ⊢
  go_wp2_with fail
  refine wp_loop_rounds 3 ?_
  have hL1 := block_keep hL.out HB
  have l0 : X1.cell? ⟨lb, 0, none⟩ = some (.string i1) := by simp [World.cell?, hL1]
  have l1 : X1.cell? ⟨lb, 1, none⟩ = some (.int .i64 0) := by simp [World.cell?, hL1]
  have l2 : X1.cell? ⟨lb, 2, none⟩ = some (.int .i64 6) := by simp [World.cell?, hL1]
  have l3 : X1.cell? ⟨lb, 3, none⟩ = some (.int .i64 0) := by simp [World.cell?, hL1]
  have l4 : X1.cell? ⟨lb, 4, none⟩ = some (.string ⟨#[]⟩) := by simp [World.cell?, hL1]
  have l5 : X1.cell? ⟨lb, 5, none⟩ = some (.slice (some ⟨bn1, 0, none⟩) 1 cn1) := by simp [World.cell?, hL1]
  have l6 : X1.cell? ⟨lb, 6, none⟩ = some (.slice (some ⟨bi1, 0, none⟩) 1 ci1) := by simp [World.cell?, hL1]
  rw [rounds_succ]
  go_wp2_with fail
  have q1 : Below X1.heap.size X1 (X1.alloc (.cells #[.string i1, .int .i64 0, .int .i64 6, .int .i64 0, .string ⟨#[]⟩, .slice (some ⟨bn1, 0, none⟩) 1 cn1, .slice (some ⟨bi1, 0, none⟩) 1 ci1] 50)) := (Below.refl _ X1).alloc (Nat.le_refl _) _
  replace HB := HB.trans (q1.mono HB.size)
  replace r := block_keep r q1
  generalize X1.alloc (.cells #[.string i1, .int .i64 0, .int .i64 6, .int .i64 0, .string ⟨#[]⟩, .slice (some ⟨bn1, 0, none⟩) 1 cn1, .slice (some ⟨bi1, 0, none⟩) 1 ci1] 50) = X2 at HB r ⊢
  clear l0 l1 l2 l3 l4 l5 l6 hL1 q1
  refine (keyed_a sb i1 bn1 cn1 bi1 ci1 1 X2 (hT.out.keep HB) (stay HB hn1.out) (hI1.out.keep HB)).mono ?_
  rintro e X3 ⟨q, k1, rfl, hk1⟩
  replace HB := HB.trans (q.mono HB.size)
  replace r := block_keep r q
  clear q
  unfold keyedV
  have c0 : X3.cell? ⟨w.heap.size, 0, none⟩ = some (.string ⟨#[]⟩) := by simp [World.cell?, r]
  have c1 : X3.cell? ⟨w.heap.size, 1, none⟩ = some (.int .i64 0) := by simp [World.cell?, r]
  have c2 : X3.cell? ⟨w.heap.size, 2, none⟩ = some (.int .i64 0) := by simp [World.cell?, r]
  have c3 : X3.cell? ⟨w.heap.size, 3, none⟩ = some (.int .i64 0) := by simp [World.cell?, r]
  have c4 : X3.cell? ⟨w.heap.size, 4, none⟩ = some (.string ⟨#[]⟩) := by simp [World.cell?, r]
  have c5 : X3.cell? ⟨w.heap.size, 5, none⟩ = some (.slice none 0 0) := by simp [World.cell?, r]
  have c6 : X3.cell? ⟨w.heap.size, 6, none⟩ = some (.slice none 0 0) := by simp [World.cell?, r]
  have c7 : X3.cell? ⟨w.heap.size, 7, none⟩ = some (.slice none 0 0) := by simp [World.cell?, r]
  have f0 : X3.frozen? ⟨w.heap.size, 0, none⟩ = false := by simp [World.frozen?, r]
  have f1 : X3.frozen? ⟨w.heap.size, 1, none⟩ = false := by simp [World.frozen?, r]
  have f2 : X3.frozen? ⟨w.heap.size, 2, none⟩ = false := by simp [World.frozen?, r]
  have f3 : X3.frozen? ⟨w.heap.size, 3, none⟩ = false := by simp [World.frozen?, r]
  have f4 : X3.frozen? ⟨w.heap.size, 4, none⟩ = false := by simp [World.frozen?, r]
  have f5 : X3.frozen? ⟨w.heap.size, 5, none⟩ = false := by simp [World.frozen?, r]
  have f6 : X3.frozen? ⟨w.heap.size, 6, none⟩ = false := by simp [World.frozen?, r]
  have f7 : X3.frozen? ⟨w.heap.size, 7, none⟩ = false := by simp [World.frozen?, r]
  go_wp2_with fail
  have e1 := rows0_at r (.string i1) (.int .i64 0) (.int .i64 6) (.int .i64 0) (.string ⟨#[]⟩) (.slice (some ⟨bn1, 0, none⟩) 1 cn1) (.slice (some ⟨bi1, 0, none⟩) 1 ci1) (.slice (some ⟨k1, 0, none⟩) 1 1)
  have e2 := rows0_grown X3 w.heap.size (.string i1) (.int .i64 0) (.int .i64 6) (.int .i64 0) (.string ⟨#[]⟩) (.slice (some ⟨bn1, 0, none⟩) 1 cn1) (.slice (some ⟨bi1, 0, none⟩) 1 ci1) (.slice (some ⟨k1, 0, none⟩) 1 1)
  have z0 : X3.cell? ⟨w.heap.size, 0, none⟩ = some (.string ⟨#[]⟩) := by simp [World.cell?, r]
  replace HB := below_grown HB e2 (Nat.le_refl _) HB.size
  replace hk1 := num_grown hk1 e2 (num_ne hk1 z0)
  clear z0 r c0 f0 c1 f1 c2 f2 c3 f3 c4 f4 c5 f5 c6 f6 c7 f7
  clear e2
  unfold rows0 at e1 HB hk1
  generalize ((((((((X3.setCell ⟨w.heap.size, 0, none⟩ (.string i1)).setCell ⟨w.heap.size, 1, none⟩ (.int .i64 0)).setCell ⟨w.heap.size, 2, none⟩ (.int .i64 6)).setCell ⟨w.heap.size, 3, none⟩ (.int .i64 0)).setCell ⟨w.heap.size, 4, none⟩ (.string ⟨#[]⟩)).setCell ⟨w.heap.size, 5, none⟩ (.slice (some ⟨bn1, 0, none⟩) 1 cn1)).setCell ⟨w.heap.size, 6, none⟩ (.slice (some ⟨bi1, 0, none⟩) 1 ci1)).setCell ⟨w.heap.size, 7, none⟩ (.slice (some ⟨k1, 0, none⟩) 1 1)) = X4 at e1 HB hk1 ⊢
  have r : X4.heap[w.heap.size]? = some (.cells #[.string i1, .int .i64 0, .int .i64 6, .int .i64 0, .string ⟨#[]⟩, .slice (some ⟨bn1, 0, none⟩) 1 cn1, .slice (some ⟨bi1, 0, none⟩) 1 ci1, .slice (some ⟨k1, 0, none⟩) 1 1, .string ⟨#[]⟩, .int .i64 0, .int .i64 0, .int .i64 0, .string ⟨#[]⟩, .slice none 0 0, .slice none 0 0, .slice none 0 0] 73) := e1
  clear e1
  have hL2 := block_keep hL.out HB
  have l0 : X4.cell? ⟨lb, 7, none⟩ = some (.string i2) := by simp [World.cell?, hL2]
  have l1 : X4.cell? ⟨lb, 8, none⟩ = some (.int .i64 0) := by simp [World.cell?, hL2]
  have l2 : X4.cell? ⟨lb, 9, none⟩ = some (.int .i64 6) := by simp [World.cell?, hL2]
  have l3 : X4.cell? ⟨lb, 10, none⟩ = some (.int .i64 0) := by simp [World.cell?, hL2]
  have l4 : X4.cell? ⟨lb, 11, none⟩ = some (.string ⟨#[]⟩) := by simp [World.cell?, hL2]
  have l5 : X4.cell? ⟨lb, 12, none⟩ = some (.slice (some ⟨bn2, 0, none⟩) 1 cn2) := by simp [World.cell?, hL2]
  have l6 : X4.cell? ⟨lb, 13, none⟩ = some (.slice (some ⟨bi2, 0, none⟩) 1 ci2) := by simp [World.cell?, hL2]
  rw [rounds_succ]
  go_wp2_with fail
  have q2 : Below X4.heap.size X4 (X4.alloc (.cells #[.string i2, .int .i64 0, .int .i64 6, .int .i64 0, .string ⟨#[]⟩, .slice (some ⟨bn2, 0, none⟩) 1 cn2, .slice (some ⟨bi2, 0, none⟩) 1 ci2] 50)) := (Below.refl _ X4).alloc (Nat.le_refl _) _
  replace HB := HB.trans (q2.mono HB.size)
  replace r := block_keep r q2
  replace hk1 := hk1.keep q2
  generalize X4.alloc (.cells #[.string i2, .int .i64 0, .int .i64 6, .int .i64 0, .string ⟨#[]⟩, .slice (some ⟨bn2, 0, none⟩) 1 cn2, .slice (some ⟨bi2, 0, none⟩) 1 ci2] 50) = X5 at HB r hk1 ⊢
  clear l0 l1 l2 l3 l4 l5 l6 hL2 q2
  refine (keyed_a sb i2 bn2 cn2 bi2 ci2 2 X5 (hT.out.keep HB) (stay HB hn2.out) (hI2.out.keep HB)).mono ?_
  rintro e X6 ⟨q, k2, rfl, hk2⟩
  replace HB := HB.trans (q.mono HB.size)
  replace r := block_keep r q
  replace hk1 := hk1.keep q
  clear q
  unfold keyedV
  have c0 : X6.cell? ⟨w.heap.size, 8, none⟩ = some (.string ⟨#[]⟩) := by simp [World.cell?, r]
  have c1 : X6.cell? ⟨w.heap.size, 9, none⟩ = some (.int .i64 0) := by simp [World.cell?, r]
  have c2 : X6.cell? ⟨w.heap.size, 10, none⟩ = some (.int .i64 0) := by simp [World.cell?, r]
  have c3 : X6.cell? ⟨w.heap.size, 11, none⟩ = some (.int .i64 0) := by simp [World.cell?, r]
  have c4 : X6.cell? ⟨w.heap.size, 12, none⟩ = some (.string ⟨#[]⟩) := by simp [World.cell?, r]
  have c5 : X6.cell? ⟨w.heap.size, 13, none⟩ = some (.slice none 0 0) := by simp [World.cell?, r]
  have c6 : X6.cell? ⟨w.heap.size, 14, none⟩ = some (.slice none 0 0) := by simp [World.cell?, r]
  have c7 : X6.cell? ⟨w.heap.size, 15, none⟩ = some (.slice none 0 0) := by simp [World.cell?, r]
  have f0 : X6.frozen? ⟨w.heap.size, 8, none⟩ = false := by simp [World.frozen?, r]
  have f1 : X6.frozen? ⟨w.heap.size, 9, none⟩ = false := by simp [World.frozen?, r]
  have f2 : X6.frozen? ⟨w.heap.size, 10, none⟩ = false := by simp [World.frozen?, r]
  have f3 : X6.frozen? ⟨w.heap.size, 11, none⟩ = false := by simp [World.frozen?, r]
  have f4 : X6.frozen? ⟨w.heap.size, 12, none⟩ = false := by simp [World.frozen?, r]
  have f5 : X6.frozen? ⟨w.heap.size, 13, none⟩ = false := by simp [World.frozen?, r]
  have f6 : X6.frozen? ⟨w.heap.size, 14, none⟩ = false := by simp [World.frozen?, r]
  have f7 : X6.frozen? ⟨w.heap.size, 15, none⟩ = false := by simp [World.frozen?, r]
  go_wp2_with fail
  have e1 := rows8_at r (.string i2) (.int .i64 0) (.int .i64 6) (.int .i64 0) (.string ⟨#[]⟩) (.slice (some ⟨bn2, 0, none⟩) 1 cn2) (.slice (some ⟨bi2, 0, none⟩) 1 ci2) (.slice (some ⟨k2, 0, none⟩) 1 1)
  have e2 := rows8_grown X6 w.heap.size (.string i2) (.int .i64 0) (.int .i64 6) (.int .i64 0) (.string ⟨#[]⟩) (.slice (some ⟨bn2, 0, none⟩) 1 cn2) (.slice (some ⟨bi2, 0, none⟩) 1 ci2) (.slice (some ⟨k2, 0, none⟩) 1 1)
  have z0 : X6.cell? ⟨w.heap.size, 0, none⟩ = some (.string i1) := by simp [World.cell?, r]
  replace HB := below_grown HB e2 (Nat.le_refl _) HB.size
  replace hk2 := num_grown hk2 e2 (num_ne hk2 z0)
  replace hk1 := num_grown hk1 e2 (num_ne hk1 z0)
  clear z0 r c0 f0 c1 f1 c2 f2 c3 f3 c4 f4 c5 f5 c6 f6 c7 f7
  clear e2
  unfold rows8 at e1 HB hk2 hk1
  generalize ((((((((X6.setCell ⟨w.heap.size, 8, none⟩ (.string i2)).setCell ⟨w.heap.size, 9, none⟩ (.int .i64 0)).setCell ⟨w.heap.size, 10, none⟩ (.int .i64 6)).setCell ⟨w.heap.size, 11, none⟩ (.int .i64 0)).setCell ⟨w.heap.size, 12, none⟩ (.string ⟨#[]⟩)).setCell ⟨w.heap.size, 13, none⟩ (.slice (some ⟨bn2, 0, none⟩) 1 cn2)).setCell ⟨w.heap.size, 14, none⟩ (.slice (some ⟨bi2, 0, none⟩) 1 ci2)).setCell ⟨w.heap.size, 15, none⟩ (.slice (some ⟨k2, 0, none⟩) 1 1)) = X7 at e1 HB hk2 hk1 ⊢
  have r : X7.heap[w.heap.size]? = some (.cells #[.string i1, .int .i64 0, .int .i64 6, .int .i64 0, .string ⟨#[]⟩, .slice (some ⟨bn1, 0, none⟩) 1 cn1, .slice (some ⟨bi1, 0, none⟩) 1 ci1, .slice (some ⟨k1, 0, none⟩) 1 1, .string i2, .int .i64 0, .int .i64 6, .int .i64 0, .string ⟨#[]⟩, .slice (some ⟨bn2, 0, none⟩) 1 cn2, .slice (some ⟨bi2, 0, none⟩) 1 ci2, .slice (some ⟨k2, 0, none⟩) 1 1] 73) := e1
  clear e1
  rw [rounds_succ]
  go_wp2_with fail
  refine (sorted_k sb w.heap.size i2 bn2 cn2 bi2 ci2 k2 i1 bn1 cn1 bi1 ci1 k1 X7 (hT.out.keep HB) hk2 hk1 r).mono ?_
  rintro e X8 ⟨rfl, q, r'⟩
  replace HB := below_grown HB q (Nat.le_refl _) HB.size
  clear q r hk1 hk2
  unfold rowsC at r'
  have hO : Hid (w.heap.size < X8.heap.size) := hid_of (Array.getElem?_eq_some_iff.1 r').1
  have t := heap_alloc_new X8 (.cells #[.string ⟨#[]⟩, .int .i64 0, .int .i64 0, .int .i64 0, .string ⟨#[]⟩, .slice none 0 0, .slice none 0 0, .string ⟨#[]⟩, .int .i64 0, .int .i64 0, .int .i64 0, .string ⟨#[]⟩, .slice none 0 0, .slice none 0 0] 50)
  have q : Below X8.heap.size X8 (X8.alloc (.cells #[.string ⟨#[]⟩, .int .i64 0, .int .i64 0, .int .i64 0, .string ⟨#[]⟩, .slice none 0 0, .slice none 0 0, .string ⟨#[]⟩, .int .i64 0, .int .i64 0, .int .i64 0, .string ⟨#[]⟩, .slice none 0 0, .slice none 0 0] 50)) := (Below.refl _ X8).alloc (Nat.le_refl _) _
  replace HB := HB.trans (q.mono HB.size)
  replace r' := block_keep r' q
  go_upto_region 9 with fail
  generalize X8.alloc (.cells #[.string ⟨#[]⟩, .int .i64 0, .int .i64 0, .int .i64 0, .string ⟨#[]⟩, .slice none 0 0, .slice none 0 0, .string ⟨#[]⟩, .int .i64 0, .int .i64 0, .int .i64 0, .string ⟨#[]⟩, .slice none 0 0, .slice none 0 0] 50) = X9 at HB r' t ⊢
  clear q
  go_wp2_with fail
  refine wp_loop_rounds 3 ?_
  have c0 : X9.cell? ⟨w.heap.size, 0, none⟩ = some (.string i2) := by simp [World.cell?, r']
  have c1 : X9.cell? ⟨w.heap.size, 1, none⟩ = some (.int .i64 0) := by simp [World.cell?, r']
  have c2 : X9.cell? ⟨w.heap.size, 2, none⟩ = some (.int .i64 6) := by simp [World.cell?, r']
  have c3 : X9.cell? ⟨w.heap.size, 3, none⟩ = some (.int .i64 0) := by simp [World.cell?, r']
  have c4 : X9.cell? ⟨w.heap.size, 4, none⟩ = some (.string ⟨#[]⟩) := by simp [World.cell?, r']
  have c5 : X9.cell? ⟨w.heap.size, 5, none⟩ = some (.slice (some ⟨bn2, 0, none⟩) 1 cn2) := by simp [World.cell?, r']
  have c6 : X9.cell? ⟨w.heap.size, 6, none⟩ = some (.slice (some ⟨bi2, 0, none⟩) 1 ci2) := by simp [World.cell?, r']
  have c7 : X9.cell? ⟨w.heap.size, 7, none⟩ = some (.slice (some ⟨k2, 0, none⟩) 1 1) := by simp [World.cell?, r']
  rw [rounds_succ]
  go_upto_region 12 with fail
  have q : Below X9.heap.size X9 (X9.alloc (.cells #[.string i2, .int .i64 0, .int .i64 6, .int .i64 0, .string ⟨#[]⟩, .slice (some ⟨bn2, 0, none⟩) 1 cn2, .slice (some ⟨bi2, 0, none⟩) 1 ci2, .slice (some ⟨k2, 0, none⟩) 1 1] 73)) := (Below.refl _ X9).alloc (Nat.le_refl _) _
  have s := heap_alloc_new X9 (.cells #[.string i2, .int .i64 0, .int .i64 6, .int .i64 0, .string ⟨#[]⟩, .slice (some ⟨bn2, 0, none⟩) 1 cn2, .slice (some ⟨bi2, 0, none⟩) 1 ci2, .slice (some ⟨k2, 0, none⟩) 1 1] 73)
  replace HB := HB.trans (q.mono HB.size)
  replace r' := block_keep r' q
  replace t := block_keep t q
  generalize hX : X9.alloc (.cells #[.string i2, .int .i64 0, .int .i64 6, .int .i64 0, .string ⟨#[]⟩, .slice (some ⟨bn2, 0, none⟩) 1 cn2, .slice (some ⟨bi2, 0, none⟩) 1 ci2, .slice (some ⟨k2, 0, none⟩) 1 1] 73) = X10 at HB r' t s ⊢
  clear q hX c0 c1 c2 c3 c4 c5 c6 c7
  have u0 : X10.cell? ⟨X9.heap.size, 0, none⟩ = some (.string i2) := by simp [World.cell?, s]
  have u1 : X10.cell? ⟨X9.heap.size, 1, none⟩ = some (.int .i64 0) := by simp [World.cell?, s]
  have u2 : X10.cell? ⟨X9.heap.size, 2, none⟩ = some (.int .i64 6) := by simp [World.cell?, s]
  have u3 : X10.cell? ⟨X9.heap.size, 3, none⟩ = some (.int .i64 0) := by simp [World.cell?, s]
  have u4 : X10.cell? ⟨X9.heap.size, 4, none⟩ = some (.string ⟨#[]⟩) := by simp [World.cell?, s]
  have u5 : X10.cell? ⟨X9.heap.size, 5, none⟩ = some (.slice (some ⟨bn2, 0, none⟩) 1 cn2) := by simp [World.cell?, s]
  have u6 : X10.cell? ⟨X9.heap.size, 6, none⟩ = some (.slice (some ⟨bi2, 0, none⟩) 1 ci2) := by simp [World.cell?, s]
  have v0 : X10.cell? ⟨X8.heap.size, 0, none⟩ = some (.string ⟨#[]⟩) := by simp [World.cell?, t]
  have v1 : X10.cell? ⟨X8.heap.size, 1, none⟩ = some (.int .i64 0) := by simp [World.cell?, t]
  have v2 : X10.cell? ⟨X8.heap.size, 2, none⟩ = some (.int .i64 0) := by simp [World.cell?, t]
  have v3 : X10.cell? ⟨X8.heap.size, 3, none⟩ = some (.int .i64 0) := by simp [World.cell?, t]
  have v4 : X10.cell? ⟨X8.heap.size, 4, none⟩ = some (.string ⟨#[]⟩) := by simp [World.cell?, t]
  have v5 : X10.cell? ⟨X8.heap.size, 5, none⟩ = some (.slice none 0 0) := by simp [World.cell?, t]
  have v6 : X10.cell? ⟨X8.heap.size, 6, none⟩ = some (.slice none 0 0) := by simp [World.cell?, t]
  have f0 : X10.frozen? ⟨X8.heap.size, 0, none⟩ = false := by simp [World.frozen?, t]
  have f1 : X10.frozen? ⟨X8.heap.size, 1, none⟩ = false := by simp [World.frozen?, t]
  have f2 : X10.frozen? ⟨X8.heap.size, 2, none⟩ = false := by simp [World.frozen?, t]
  have f3 : X10.frozen? ⟨X8.heap.size, 3, none⟩ = false := by simp [World.frozen?, t]
  have f4 : X10.frozen? ⟨X8.heap.size, 4, none⟩ = false := by simp [World.frozen?, t]
  have f5 : X10.frozen? ⟨X8.heap.size, 5, none⟩ = false := by simp [World.frozen?, t]
  have f6 : X10.frozen? ⟨X8.heap.size, 6, none⟩ = false := by simp [World.frozen?, t]
  go_wp2_with fail
  have e1 := docs0_at t (.string i2) (.int .i64 0) (.int .i64 6) (.int .i64 0) (.string ⟨#[]⟩) (.slice (some ⟨bn2, 0, none⟩) 1 cn2) (.slice (some ⟨bi2, 0, none⟩) 1 ci2)
  have e2 := docs0_grown X10 X8.heap.size (.string i2) (.int .i64 0) (.int .i64 6) (.int .i64 0) (.string ⟨#[]⟩) (.slice (some ⟨bn2, 0, none⟩) 1 cn2) (.slice (some ⟨bi2, 0, none⟩) 1 ci2)
  replace HB := below_grown HB e2 (Nat.le_of_lt hO.out) HB.size
  replace r' := blk_grown r' e2 (by have := hO.out; omega)
  clear e2 t s u0 v0 f0 u1 v1 f1 u2 v2 f2 u3 v3 f3 u4 v4 f4 u5 v5 f5 u6 v6 f6
  unfold docs0 at e1 HB r'
  generalize (((((((X10.setCell ⟨X8.heap.size, 0, none⟩ (.string i2)).setCell ⟨X8.heap.size, 1, none⟩ (.int .i64 0)).setCell ⟨X8.heap.size, 2, none⟩ (.int .i64 6)).setCell ⟨X8.heap.size, 3, none⟩ (.int .i64 0)).setCell ⟨X8.heap.size, 4, none⟩ (.string ⟨#[]⟩)).setCell ⟨X8.heap.size, 5, none⟩ (.slice (some ⟨bn2, 0, none⟩) 1 cn2)).setCell ⟨X8.heap.size, 6, none⟩ (.slice (some ⟨bi2, 0, none⟩) 1 ci2)) = X11 at e1 HB r' ⊢
  have t : X11.heap[X8.heap.size]? = some (.cells #[.string i2, .int .i64 0, .int .i64 6, .int .i64 0, .string ⟨#[]⟩, .slice (some ⟨bn2, 0, none⟩) 1 cn2, .slice (some ⟨bi2, 0, none⟩) 1 ci2, .string ⟨#[]⟩, .int .i64 0, .int .i64 0, .int .i64 0, .string ⟨#[]⟩, .slice none 0 0, .slice none 0 0] 50) := e1
  clear e1
  have c0 : X11.cell? ⟨w.heap.size, 8, none⟩ = some (.string i1) := by simp [World.cell?, r']
  have c1 : X11.cell? ⟨w.heap.size, 9, none⟩ = some (.int .i64 0) := by simp [World.cell?, r']
  have c2 : X11.cell? ⟨w.heap.size, 10, none⟩ = some (.int .i64 6) := by simp [World.cell?, r']
  have c3 : X11.cell? ⟨w.heap.size, 11, none⟩ = some (.int .i64 0) := by simp [World.cell?, r']
  have c4 : X11.cell? ⟨w.heap.size, 12, none⟩ = some (.string ⟨#[]⟩) := by simp [World.cell?, r']
  have c5 : X11.cell? ⟨w.heap.size, 13, none⟩ = some (.slice (some ⟨bn1, 0, none⟩) 1 cn1) := by simp [World.cell?, r']
  have c6 : X11.cell? ⟨w.heap.size, 14, none⟩ = some (.slice (some ⟨bi1, 0, none⟩) 1 ci1) := by simp [World.cell?, r']
  have c7 : X11.cell? ⟨w.heap.size, 15, none⟩ = some (.slice (some ⟨k1, 0, none⟩) 1 1) := by simp [World.cell?, r']
  rw [rounds_succ]
  go_upto_region 12 with fail
  have q : Below X11.heap.size X11 (X11.alloc (.cells #[.string i1, .int .i64 0, .int .i64 6, .int .i64 0, .string ⟨#[]⟩, .slice (some ⟨bn1, 0, none⟩) 1 cn1, .slice (some ⟨bi1, 0, none⟩) 1 ci1, .slice (some ⟨k1, 0, none⟩) 1 1] 73)) := (Below.refl _ X11).alloc (Nat.le_refl _) _
  have s := heap_alloc_new X11 (.cells #[.string i1, .int .i64 0, .int .i64 6, .int .i64 0, .string ⟨#[]⟩, .slice (some ⟨bn1, 0, none⟩) 1 cn1, .slice (some ⟨bi1, 0, none⟩) 1 ci1, .slice (some ⟨k1, 0, none⟩) 1 1] 73)
  replace HB := HB.trans (q.mono HB.size)
  replace r' := block_keep r' q
  replace t := block_keep t q
  generalize hX : X11.alloc (.cells #[.string i1, .int .i64 0, .int .i64 6, .int .i64 0, .string ⟨#[]⟩, .slice (some ⟨bn1, 0, none⟩) 1 cn1, .slice (some ⟨bi1, 0, none⟩) 1 ci1, .slice (some ⟨k1, 0, none⟩) 1 1] 73) = X12 at HB r' t s ⊢
  clear q hX c0 c1 c2 c3 c4 c5 c6 c7
  have u0 : X12.cell? ⟨X11.heap.size, 0, none⟩ = some (.string i1) := by simp [World.cell?, s]
  have u1 : X12.cell? ⟨X11.heap.size, 1, none⟩ = some (.int .i64 0) := by simp [World.cell?, s]
  have u2 : X12.cell? ⟨X11.heap.size, 2, none⟩ = some (.int .i64 6) := by simp [World.cell?, s]
  have u3 : X12.cell? ⟨X11.heap.size, 3, none⟩ = some (.int .i64 0) := by simp [World.cell?, s]
  have u4 : X12.cell? ⟨X11.heap.size, 4, none⟩ = some (.string ⟨#[]⟩) := by simp [World.cell?, s]
  have u5 : X12.cell? ⟨X11.heap.size, 5, none⟩ = some (.slice (some ⟨bn1, 0, none⟩) 1 cn1) := by simp [World.cell?, s]
  have u6 : X12.cell? ⟨X11.heap.size, 6, none⟩ = some (.slice (some ⟨bi1, 0, none⟩) 1 ci1) := by simp [World.cell?, s]
  have v0 : X12.cell? ⟨X8.heap.size, 7, none⟩ = some (.string ⟨#[]⟩) := by simp [World.cell?, t]
  have v1 : X12.cell? ⟨X8.heap.size, 8, none⟩ = some (.int .i64 0) := by simp [World.cell?, t]
  have v2 : X12.cell? ⟨X8.heap.size, 9, none⟩ = some (.int .i64 0) := by simp [World.cell?, t]
  have v3 : X12.cell? ⟨X8.heap.size, 10, none⟩ = some (.int .i64 0) := by simp [World.cell?, t]
  have v4 : X12.cell? ⟨X8.heap.size, 11, none⟩ = some (.string ⟨#[]⟩) := by simp [World.cell?, t]
  have v5 : X12.cell? ⟨X8.heap.size, 12, none⟩ = some (.slice none 0 0) := by simp [World.cell?, t]
  have v6 : X12.cell? ⟨X8.heap.size, 13, none⟩ = some (.slice none 0 0) := by simp [World.cell?, t]
  have f0 : X12.frozen? ⟨X8.heap.size, 7, none⟩ = false := by simp [World.frozen?, t]
  have f1 : X12.frozen? ⟨X8.heap.size, 8, none⟩ = false := by simp [World.frozen?, t]
  have f2 : X12.frozen? ⟨X8.heap.size, 9, none⟩ = false := by simp [World.frozen?, t]
  have f3 : X12.frozen? ⟨X8.heap.size, 10, none⟩ = false := by simp [World.frozen?, t]
  have f4 : X12.frozen? ⟨X8.heap.size, 11, none⟩ = false := by simp [World.frozen?, t]
  have f5 : X12.frozen? ⟨X8.heap.size, 12, none⟩ = false := by simp [World.frozen?, t]
  have f6 : X12.frozen? ⟨X8.heap.size, 13, none⟩ = false := by simp [World.frozen?, t]
  go_wp2_with fail
  have e1 := docs7_at t (.string i1) (.int .i64 0) (.int .i64 6) (.int .i64 0) (.string ⟨#[]⟩) (.slice (some ⟨bn1, 0, none⟩) 1 cn1) (.slice (some ⟨bi1, 0, none⟩) 1 ci1)
  have e2 := docs7_grown X12 X8.heap.size (.string i1) (.int .i64 0) (.int .i64 6) (.int .i64 0) (.string ⟨#[]⟩) (.slice (some ⟨bn1, 0, none⟩) 1 cn1) (.slice (some ⟨bi1, 0, none⟩) 1 ci1)
  replace HB := below_grown HB e2 (Nat.le_of_lt hO.out) HB.size
  replace r' := blk_grown r' e2 (by have := hO.out; omega)
  clear e2 t s u0 v0 f0 u1 v1 f1 u2 v2 f2 u3 v3 f3 u4 v4 f4 u5 v5 f5 u6 v6 f6
  unfold docs7 at e1 HB r'
  generalize (((((((X12.setCell ⟨X8.heap.size, 7, none⟩ (.string i1)).setCell ⟨X8.heap.size, 8, none⟩ (.int .i64 0)).setCell ⟨X8.heap.size, 9, none⟩ (.int .i64 6)).setCell ⟨X8.heap.size, 10, none⟩ (.int .i64 0)).setCell ⟨X8.heap.size, 11, none⟩ (.string ⟨#[]⟩)).setCell ⟨X8.heap.size, 12, none⟩ (.slice (some ⟨bn1, 0, none⟩) 1 cn1)).setCell ⟨X8.heap.size, 13, none⟩ (.slice (some ⟨bi1, 0, none⟩) 1 ci1)) = X13 at e1 HB r' ⊢
  have t : X13.heap[X8.heap.size]? = some (.cells #[.string i2, .int .i64 0, .int .i64 6, .int .i64 0, .string ⟨#[]⟩, .slice (some ⟨bn2, 0, none⟩) 1 cn2, .slice (some ⟨bi2, 0, none⟩) 1 ci2, .string i1, .int .i64 0, .int .i64 6, .int .i64 0, .string ⟨#[]⟩, .slice (some ⟨bn1, 0, none⟩) 1 cn1, .slice (some ⟨bi1, 0, none⟩) 1 ci1] 50) := e1
  clear e1
  rw [rounds_succ]
  go_wp2_with fail
  go_ret
  exact ⟨HB, _, rfl, _, _, _, _, _, _, _, t⟩
end Go.Proofs.YtgigikcopedoeaaGreat
