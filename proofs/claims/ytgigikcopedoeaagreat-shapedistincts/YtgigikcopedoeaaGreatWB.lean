import Derived.Test.YtgigikcopedoeaaGreatWA
/-! A document with its key. -/
namespace Go.Proofs.YtgigikcopedoeaaGreat
open Go Go.RowKit

def docV (id : ByteArray) (bn cn bi ci : Nat) : Value := .agg #[.string id, .int .i64 0, .int .i64 6, .int .i64 0, .string ⟨#[]⟩, .slice (some ⟨bn, 0, none⟩) 1 cn, .slice (some ⟨bi, 0, none⟩) 1 ci]
def keyedV (id : ByteArray) (bn cn bi ci kb : Nat) : Value := .agg #[.string id, .int .i64 0, .int .i64 6, .int .i64 0, .string ⟨#[]⟩, .slice (some ⟨bn, 0, none⟩) 1 cn, .slice (some ⟨bi, 0, none⟩) 1 ci, .slice (some ⟨kb, 0, none⟩) 1 1]
/-- Eight cells stored into block g. -/
def put8 (w : World) (g : Nat) (a0 a1 a2 a3 a4 a5 a6 a7 : Value) : World := (((((((w.setCell ⟨g, 0, none⟩ a0).setCell ⟨g, 1, none⟩ a1).setCell ⟨g, 2, none⟩ a2).setCell ⟨g, 3, none⟩ a3).setCell ⟨g, 4, none⟩ a4).setCell ⟨g, 5, none⟩ a5).setCell ⟨g, 6, none⟩ a6).setCell ⟨g, 7, none⟩ a7
theorem put8_at {w : World} {g : Nat} {c0 c1 c2 c3 c4 c5 c6 c7 : Value} {t : TypeId} (h : w.heap[g]? = some (.cells #[c0, c1, c2, c3, c4, c5, c6, c7] t (0, 0))) (a0 a1 a2 a3 a4 a5 a6 a7 : Value) : (put8 w g a0 a1 a2 a3 a4 a5 a6 a7).heap[g]? = some (.cells #[a0, a1, a2, a3, a4, a5, a6, a7] t (0, 0)) := by
  simp [put8, World.setCell, Array.getElem?_modify, h]
theorem put8_far {w : World} {g : Nat} (a0 a1 a2 a3 a4 a5 a6 a7 : Value) {k : Nat} (hk : k ≠ g) : (put8 w g a0 a1 a2 a3 a4 a5 a6 a7).heap[k]? = w.heap[k]? := by
  unfold put8
  rw [Below.heap_setCell _ _ _ _ hk, Below.heap_setCell _ _ _ _ hk, Below.heap_setCell _ _ _ _ hk, Below.heap_setCell _ _ _ _ hk, Below.heap_setCell _ _ _ _ hk, Below.heap_setCell _ _ _ _ hk, Below.heap_setCell _ _ _ _ hk, Below.heap_setCell _ _ _ _ hk]
theorem put8_size (w : World) (g : Nat) (a0 a1 a2 a3 a4 a5 a6 a7 : Value) : (put8 w g a0 a1 a2 a3 a4 a5 a6 a7).heap.size = w.heap.size := by simp [put8, World.setCell]
theorem put8_below {w : World} {g B : Nat} (h : B ≤ g) (a0 a1 a2 a3 a4 a5 a6 a7 : Value) : Below B w (put8 w g a0 a1 a2 a3 a4 a5 a6 a7) :=
  ⟨by unfold put8; rw [set_os, set_os, set_os, set_os, set_os, set_os, set_os, set_os], by unfold put8; rw [set_tape, set_tape, set_tape, set_tape, set_tape, set_tape, set_tape, set_tape], by unfold put8; rw [set_out, set_out, set_out, set_out, set_out, set_out, set_out, set_out], by rw [put8_size]; exact Nat.le_refl _, fun k hk => put8_far _ _ _ _ _ _ _ _ (by omega)⟩
theorem put8_cells {w : World} {g : Nat} {c0 c1 c2 c3 c4 c5 c6 c7 : Value} {t : TypeId} (h : w.heap[g]? = some (.cells #[c0, c1, c2, c3, c4, c5, c6, c7] t (0, 0))) (a0 a1 a2 a3 a4 a5 a6 a7 : Value) :
    ∀ j, ((((((((w.setCell ⟨g, 0, none⟩ a0).setCell ⟨g, 1, none⟩ a1).setCell ⟨g, 2, none⟩ a2).setCell ⟨g, 3, none⟩ a3).setCell ⟨g, 4, none⟩ a4).setCell ⟨g, 5, none⟩ a5).setCell ⟨g, 6, none⟩ a6).setCell ⟨g, 7, none⟩ a7).cell? ⟨g, j, none⟩ = #[a0, a1, a2, a3, a4, a5, a6, a7][j]? := fun j => by
  have := put8_at h a0 a1 a2 a3 a4 a5 a6 a7
  unfold put8 at this
  unfold World.cell?
  rw [this]
  rfl
theorem row8_cells {w : World} {B : Nat} {c0 c1 c2 c3 c4 c5 c6 c7 : Value} {t : TypeId} (h : w.heap[B]? = some (.cells #[c0, c1, c2, c3, c4, c5, c6, c7] t (0, 0))) : w.cell? ⟨B, 0, none⟩ = some c0 ∧ w.cell? ⟨B, 1, none⟩ = some c1 ∧ w.cell? ⟨B, 2, none⟩ = some c2 ∧ w.cell? ⟨B, 3, none⟩ = some c3 ∧ w.cell? ⟨B, 4, none⟩ = some c4 ∧ w.cell? ⟨B, 5, none⟩ = some c5 ∧ w.cell? ⟨B, 6, none⟩ = some c6 ∧ w.cell? ⟨B, 7, none⟩ = some c7 ∧ ∀ j, w.frozen? ⟨B, j, none⟩ = false := by
  refine ⟨?_, ?_, ?_, ?_, ?_, ?_, ?_, ?_, fun j => ?_⟩
  all_goals simp [World.cell?, World.frozen?, h]
def docC (id : ByteArray) (bn cn bi ci : Nat) : Obj := .cells #[.string id, .int .i64 0, .int .i64 6, .int .i64 0, .string ⟨#[]⟩, .slice (some ⟨bn, 0, none⟩) 1 cn, .slice (some ⟨bi, 0, none⟩) 1 ci] 50
def zero8 : Obj := .cells #[.string ⟨#[]⟩, .int .i64 0, .int .i64 0, .int .i64 0, .string ⟨#[]⟩, .slice none 0 0, .slice none 0 0, .slice none 0 0] 73
theorem mk_keys (w : World) : (Instr.makeSlice 23 (.int .i64 1) (.int .i64 1)).run Tryz.prog w = .ok (.slice (some ⟨w.heap.size, 0, none⟩) 1 1) (w.alloc zeroO) := by kernel_rfl
/-- The key of a document, and the document. -/
def KPost (w : World) (id : ByteArray) (bn cn bi ci : Nat) (x : Int) (e : Ending) (w' : World) : Prop := Below w.heap.size w w' ∧ ∃ kb, e = .returned (keyedV id bn cn bi ci kb) ∧ NumAt w' kb 0 x
set_option maxHeartbeats 4000000 in
set_option maxRecDepth 100000 in
theorem keyed_a (sb : Nat) (id : ByteArray) (bn cn bi ci : Nat) (x : Int) (w : World) (hT : TurnsAt w sb) (hn : w.cell? ⟨bn, 0, none⟩ = some (.string nameA)) (hI : NumAt w bi 0 x) :
    Calls Tryz.prog 36 #[.pointer (some ⟨sb, 0, none⟩), docV id bn cn bi ci] w (KPost w id bn cn bi ci x) := by
  have HB : Below w.heap.size w ((w.alloc (docC id bn cn bi ci)).alloc zero8) := ((Below.refl _ w).alloc (Nat.le_refl _) _).alloc (by simp) _
  have m1 := new1 w (docC id bn cn bi ci) zero8
  have m2 := new2 w (docC id bn cn bi ci) zero8
  have hT0 := hT.keep HB
  have hn0 := stay HB hn
  have hI0 := hI.keep HB
  clear hT hn hI
  have hms := mk_keys
  unfold docC zero8 at HB m1 m2 hT0 hn0 hI0
  unfold zeroO at hms
  unfold docV
  go_enter Tryz.func36, Tryz.ntmps36
  go_upto_region 1 with fail
  generalize (w.alloc (.cells #[.string id, .int .i64 0, .int .i64 6, .int .i64 0, .string ⟨#[]⟩, .slice (some ⟨bn, 0, none⟩) 1 cn, .slice (some ⟨bi, 0, none⟩) 1 ci] 50)).alloc (.cells #[.string ⟨#[]⟩, .int .i64 0, .int .i64 0, .int .i64 0, .string ⟨#[]⟩, .slice none 0 0, .slice none 0 0, .slice none 0 0] 73) = X0 at HB m1 m2 hT0 hn0 hI0
  have hcount := hid_of (count_a sb X0 hT0)
  have h1 := heap_alloc_new X0 zeroO
  have B1 : Below X0.heap.size X0 (X0.alloc zeroO) := (Below.refl _ X0).alloc (Nat.le_refl _) _
  have hT1 := hT0.keep B1
  have hcount1 := hid_of (count_a sb _ hT1)
  have m11 := block_keep m1 B1
  have m21 := block_keep m2 B1
  have hn1 := stay B1 hn0
  have hI1 := hI0.keep B1
  replace HB := HB.trans (B1.mono HB.size)
  unfold zeroO at h1 B1 hT1 hcount1 m11 m21 hn1 hI1 HB
  have hs0 : Hid (w.heap.size + 1 < X0.heap.size) := hid_of (Array.getElem?_eq_some_iff.1 m2).1
  clear m1 m2 hT0 hn0 hI0
  go_upto_region 2 with (go_at_call 33; refine hcount.out.mono ?_; rintro e X1 ⟨rfl, rfl⟩)
  generalize X1.alloc (.cells #[.int .i64 0, .int .i64 0, .string ⟨#[]⟩, .slice none 0 0, .slice none 0 0] 25) = X2 at h1 B1 hT1 hcount1 m11 m21 hn1 hI1 HB
  have hkey := hid_of (skey_a sb bn cn bi ci x X2 hT1 hn1 hI1)
  unfold objV numV at hkey
  have d2 : X2.cell? ⟨w.heap.size, 2, none⟩ = some (.int .i64 6) := by simp [World.cell?, m11]
  have d3 : X2.cell? ⟨w.heap.size, 3, none⟩ = some (.int .i64 0) := by simp [World.cell?, m11]
  have d4 : X2.cell? ⟨w.heap.size, 4, none⟩ = some (.string ⟨#[]⟩) := by simp [World.cell?, m11]
  have d5 : X2.cell? ⟨w.heap.size, 5, none⟩ = some (.slice (some ⟨bn, 0, none⟩) 1 cn) := by simp [World.cell?, m11]
  have d6 : X2.cell? ⟨w.heap.size, 6, none⟩ = some (.slice (some ⟨bi, 0, none⟩) 1 ci) := by simp [World.cell?, m11]
  have hx : Hid (w.heap.size + 1 < X1.heap.size ∧ X1.heap.size < X2.heap.size) := by
    have hh := (Array.getElem?_eq_some_iff.1 h1).1
    refine hid_of ⟨?_, hh⟩
    exact hs0.out
  clear hT1 hn1 hI1 B1
  go_wp2_with (go_at_call 33; refine hcount1.out.mono ?_; rintro e X3 ⟨rfl, rfl⟩)
  refine wp_loop_rounds 2 ?_
  rw [rounds_succ]
  go_wp2_with fail
  refine hkey.out.mono ?_
  rintro e X4 ⟨rfl, hb4⟩
  have k1 := block_keep h1 hb4
  have k2 := block_keep m11 hb4
  have k3 := block_keep m21 hb4
  replace HB := HB.trans (hb4.mono HB.size)
  clear hkey h1 m11 m21 hb4 d2 d3 d4 d5 d6 hcount1
  obtain ⟨r0, r1, r2, r3, r4, rf⟩ := row_cells k1
  have rf0 := rf 0; have rf1 := rf 1; have rf2 := rf 2; have rf3 := rf 3; have rf4 := rf 4
  clear rf
  go_wp2_with fail
  have e1 := put5_at k1 (.int .i64 3) (.int .i64 x) (.string ⟨#[]⟩) (.slice none 0 0) (.slice none 0 0)
  have e2 := (put5_far (w := X4) (g := X1.heap.size) (.int .i64 3) (.int .i64 x) (.string ⟨#[]⟩) (.slice none 0 0) (.slice none 0 0) (k := w.heap.size) (by have := hx.out; omega)).trans k2
  have e3 := (put5_far (w := X4) (g := X1.heap.size) (.int .i64 3) (.int .i64 x) (.string ⟨#[]⟩) (.slice none 0 0) (.slice none 0 0) (k := w.heap.size + 1) (by have := hx.out; omega)).trans k3
  replace HB := HB.trans (put5_below (w := X4) (g := X1.heap.size) (B := w.heap.size) (by have := hx.out; omega) (.int .i64 3) (.int .i64 x) (.string ⟨#[]⟩) (.slice none 0 0) (.slice none 0 0))
  unfold put5 at e1 e2 e3 HB
  generalize ((((X4.setCell ⟨X1.heap.size, 0, none⟩ (.int .i64 3)).setCell ⟨X1.heap.size, 1, none⟩ (.int .i64 x)).setCell ⟨X1.heap.size, 2, none⟩ (.string ⟨#[]⟩)).setCell ⟨X1.heap.size, 3, none⟩ (.slice none 0 0)).setCell ⟨X1.heap.size, 4, none⟩ (.slice none 0 0) = X5 at e1 e2 e3 HB ⊢
  clear k1 k2 k3 r0 r1 r2 r3 r4 rf0 rf1 rf2 rf3 rf4
  have d0 : X5.cell? ⟨w.heap.size, 0, none⟩ = some (.string id) := by simp [World.cell?, e2]
  have d1 : X5.cell? ⟨w.heap.size, 1, none⟩ = some (.int .i64 0) := by simp [World.cell?, e2]
  have d2 : X5.cell? ⟨w.heap.size, 2, none⟩ = some (.int .i64 6) := by simp [World.cell?, e2]
  have d3 : X5.cell? ⟨w.heap.size, 3, none⟩ = some (.int .i64 0) := by simp [World.cell?, e2]
  have d4 : X5.cell? ⟨w.heap.size, 4, none⟩ = some (.string ⟨#[]⟩) := by simp [World.cell?, e2]
  have d5 : X5.cell? ⟨w.heap.size, 5, none⟩ = some (.slice (some ⟨bn, 0, none⟩) 1 cn) := by simp [World.cell?, e2]
  have d6 : X5.cell? ⟨w.heap.size, 6, none⟩ = some (.slice (some ⟨bi, 0, none⟩) 1 ci) := by simp [World.cell?, e2]
  obtain ⟨r0, r1, r2, r3, r4, r5, r6, r7, rf⟩ := row8_cells e3
  have rf0 := rf 0; have rf1 := rf 1; have rf2 := rf 2; have rf3 := rf 3; have rf4 := rf 4; have rf5 := rf 5; have rf6 := rf 6; have rf7 := rf 7
  clear rf
  rw [rounds_succ]
  go_wp2_with fail
  have hr := put8_cells e3 (.string id) (.int .i64 0) (.int .i64 6) (.int .i64 0) (.string ⟨#[]⟩) (.slice (some ⟨bn, 0, none⟩) 1 cn) (.slice (some ⟨bi, 0, none⟩) 1 ci) (.slice (some ⟨X1.heap.size, 0, none⟩) 1 1)
  have q0 := hr 0; have q1 := hr 1; have q2 := hr 2; have q3 := hr 3; have q4 := hr 4; have q5 := hr 5; have q6 := hr 6; have q7 := hr 7
  clear hr
  have hB8 := HB.trans (put8_below (w := X5) (g := w.heap.size + 1) (B := w.heap.size) (by omega) (.string id) (.int .i64 0) (.int .i64 6) (.int .i64 0) (.string ⟨#[]⟩) (.slice (some ⟨bn, 0, none⟩) 1 cn) (.slice (some ⟨bi, 0, none⟩) 1 ci) (.slice (some ⟨X1.heap.size, 0, none⟩) 1 1))
  have e8 := (put8_far (w := X5) (g := w.heap.size + 1) (.string id) (.int .i64 0) (.int .i64 6) (.int .i64 0) (.string ⟨#[]⟩) (.slice (some ⟨bn, 0, none⟩) 1 cn) (.slice (some ⟨bi, 0, none⟩) 1 ci) (.slice (some ⟨X1.heap.size, 0, none⟩) 1 1) (k := X1.heap.size) (by have := hx.out; omega)).trans e1
  refine bodyPost_ret (v := keyedV id bn cn bi ci X1.heap.size) (by unfold keyedV; simp [results, Tryz.results36, go_sem, q0, q1, q2, q3, q4, q5, q6, q7]) rfl ?_
  obtain ⟨u0, u1, u2, u3, u4, -⟩ := row_cells e8
  exact ⟨hB8, _, rfl, u0, u1, u2, u3, u4⟩
end Go.Proofs.YtgigikcopedoeaaGreat
