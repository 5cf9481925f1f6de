import Derived.Test.YtbhjbicbgmeboaaD3
/-! slices.Delete of the one item of a list; without. -/
namespace Go.Proofs.Ytbhjbicbgmeboaa
open Go Go.RowKit

/-- All is as it was but for block g's cells. -/
structure But (g : Nat) (w w' : World) : Prop where
  os : w'.os = w.os
  tape : w'.tape = w.tape
  output : w'.output = w.output
  size : w'.heap.size = w.heap.size
  block : ∀ k, k ≠ g → w'.heap[k]? = w.heap[k]?

theorem drew_heap (W : World) (k : Nat) : W.drew.heap[k]? = W.heap[k]? := rfl
theorem but_below {g B : Nat} {w w' : World} (h : But g w w') (hg : B ≤ g) : Below B w w' := ⟨h.os, h.tape, h.output, Nat.le_of_eq h.size.symm, fun k hk => h.block k (by omega)⟩
theorem putc3 {w : World} {bv : Nat} {c0 c1 c2 c3 c4 : Value} {t : TypeId} (h : w.heap[bv]? = some (.cells #[c0, c1, c2, c3, c4] t (0, 0))) (v : Value) : (w.setCell ⟨bv, 3, none⟩ v).heap[bv]? = some (.cells #[c0, c1, c2, v, c4] t (0, 0)) := by
  simp [World.setCell, Array.getElem?_modify, h]
theorem putc4 {w : World} {bv : Nat} {c0 c1 c2 c3 c4 : Value} {t : TypeId} (h : w.heap[bv]? = some (.cells #[c0, c1, c2, c3, c4] t (0, 0))) (v : Value) : (w.setCell ⟨bv, 4, none⟩ v).heap[bv]? = some (.cells #[c0, c1, c2, c3, v] t (0, 0)) := by
  simp [World.setCell, Array.getElem?_modify, h]
theorem But.setCells {g : Nat} : ∀ (vs : List Value) (o : Nat) (w : World), But g w (w.setCells g o vs)
  | [], _, _ => ⟨rfl, rfl, rfl, rfl, fun _ _ => rfl⟩
  | v :: r, o, w => by
    have h := But.setCells (g := g) r (o + 1) (w.setCell ⟨g, o, none⟩ v)
    exact ⟨h.os, h.tape, h.output, h.size.trans (by simp [World.setCell]), fun k hk => (h.block k hk).trans (Below.heap_setCell _ _ _ _ hk)⟩
theorem zero_s1 : (Builtin.zeroCells #[Value.string ⟨#[]⟩] 1).toList = [.string ⟨#[]⟩] := by kernel_rfl
theorem zero_v1 : (Builtin.zeroCells #[Value.int .i64 0, .int .i64 0, .string ⟨#[]⟩, .slice none 0 0, .slice none 0 0] 1).toList = [.int .i64 0, .int .i64 0, .string ⟨#[]⟩, .slice none 0 0, .slice none 0 0] := by kernel_rfl
theorem clear_s (g c : Nat) (w : World) (h0 : (w.cell? ⟨g, 0, none⟩).isSome = true) (f0 : w.frozen? ⟨g, 0, none⟩ = false) : (Builtin.clear_ #[22] 0 #[.slice (some ⟨g, 0, none⟩) 1 c]).run Try.prog w = .ok (.tuple #[]) (w.setCells g 0 [.string ⟨#[]⟩]) := by
  have hst := run_storeCells_cells (P := Try.prog) g 0 [.string ⟨#[]⟩] 0 w (fun j hj => by
    have : j = 0 := by simpa using hj
    subst this; exact h0) (fun j hj => by
    have : j = 0 := by simpa using hj
    subst this; exact f0) (by simp [Value.oneCell'])
  have hv := Try.zeroValue9
  simp only [Nat.add_zero] at hst
  simp [Builtin.clear_, run_underlying Try.underlying22, hv, Value.cells, zero_s1, hst]
theorem clear_v (g c : Nat) (w : World) (h0 : ∀ j, j < 5 → (w.cell? ⟨g, j, none⟩).isSome = true) (f0 : ∀ j, w.frozen? ⟨g, j, none⟩ = false) : (Builtin.clear_ #[23] 0 #[.slice (some ⟨g, 0, none⟩) 1 c]).run Try.prog w = .ok (.tuple #[]) (w.setCells g 0 [.int .i64 0, .int .i64 0, .string ⟨#[]⟩, .slice none 0 0, .slice none 0 0]) := by
  have hst := run_storeCells_cells (P := Try.prog) g 0 [.int .i64 0, .int .i64 0, .string ⟨#[]⟩, .slice none 0 0, .slice none 0 0] 0 w (fun j hj => by simpa using h0 j (by simpa using hj)) (fun j hj => f0 _) (by simp [Value.oneCell'])
  have hv := Try.zeroValue25
  simp only [Nat.add_zero] at hst
  simp [Builtin.clear_, run_underlying Try.underlying23, hv, Value.cells, zero_v1, hst]
set_option maxHeartbeats 2000000 in
set_option maxRecDepth 100000 in
theorem delete_s (g : Nat) (s : ByteArray) (w : World) (h : w.heap[g]? = some (.cells #[.string s, .string ⟨#[]⟩] 9 (0, 0))) :
    Calls Try.prog 47 #[.slice (some ⟨g, 0, none⟩) 1 2, .int .i64 0, .int .i64 1] w fun e w' => e = .returned (.slice (some ⟨g, 0, none⟩) 0 2) ∧ But g w w' := by
  have c0 : w.cell? ⟨g, 0, none⟩ = some (.string s) := by simp [World.cell?, h]
  have c1 : w.cell? ⟨g, 1, none⟩ = some (.string ⟨#[]⟩) := by simp [World.cell?, h]
  have f0 : w.frozen? ⟨g, 0, none⟩ = false := by simp [World.frozen?, h]
  have f1 : w.frozen? ⟨g, 1, none⟩ = false := by simp [World.frozen?, h]
  go_enter Try.func47, Try.ntmps47
  have hcl := clear_s g 2 w.drew (by show (w.cell? _).isSome = _; rw [c0]; rfl) f0
  obtain ⟨Wc, hWc⟩ : ∃ Wc, w.drew.setCells g 0 [.string ⟨#[]⟩] = Wc := ⟨_, rfl⟩
  have hbut : But g w Wc := by
    have := But.setCells (g := g) [.string ⟨#[]⟩] 0 w.drew
    rw [hWc] at this
    exact ⟨this.os, this.tape, this.output, this.size, this.block⟩
  rw [hWc] at hcl
  clear hWc
  go_wp2
  go_region
  go_wp2
  go_ret
  exact ⟨rfl, hbut⟩

set_option maxHeartbeats 2000000 in
set_option maxRecDepth 100000 in
theorem delete_v (g : Nat) (c0 c1 c2 c3 c4 : Value) (w : World) (h : w.heap[g]? = some (.cells #[c0, c1, c2, c3, c4, .int .i64 0, .int .i64 0, .string ⟨#[]⟩, .slice none 0 0, .slice none 0 0] 25 (0, 0))) :
    Calls Try.prog 48 #[.slice (some ⟨g, 0, none⟩) 1 2, .int .i64 0, .int .i64 1] w fun e w' => e = .returned (.slice (some ⟨g, 0, none⟩) 0 2) ∧ But g w w' := by
  have hcl := clear_v g 2 w.drew (fun j hj => by
    show (w.cell? _).isSome = _
    rcases j with _ | _ | _ | _ | _ | j
    all_goals first | (simp [World.cell?, h]; done) | omega) (fun j => by show w.frozen? _ = _; simp [World.frozen?, h])
  obtain ⟨Wc, hWc⟩ : ∃ Wc, w.drew.setCells g 0 [.int .i64 0, .int .i64 0, .string ⟨#[]⟩, .slice none 0 0, .slice none 0 0] = Wc := ⟨_, rfl⟩
  have hbut : But g w Wc := by
    have := But.setCells (g := g) [.int .i64 0, .int .i64 0, .string ⟨#[]⟩, .slice none 0 0, .slice none 0 0] 0 w.drew
    rw [hWc] at this
    exact ⟨this.os, this.tape, this.output, this.size, this.block⟩
  rw [hWc] at hcl
  clear hWc
  go_enter Try.func48, Try.ntmps48
  go_wp2
  go_region
  go_wp2
  go_ret
  exact ⟨rfl, hbut⟩

set_option maxHeartbeats 4000000 in
set_option maxRecDepth 100000 in
theorem without1 (x : Int) (tx : ByteArray) (b o cn b2 o2 ci : Nat) (s s2 : ByteArray) (c0 c1 c2 c3 c4 : Value) (h1 : (c0.oneCell' && c1.oneCell' && c2.oneCell' && c3.oneCell' && c4.oneCell') = true) (hcn : 1 ≤ cn) (hci : 1 ≤ ci) (w : World) (hs : w.cell? ⟨b, o, none⟩ = some (.string s)) (h : CellsAt w b2 o2 [c0, c1, c2, c3, c4]) :
    Calls Try.prog 34 #[.agg #[.int .i64 6, .int .i64 x, .string tx, .slice (some ⟨b, o, none⟩) 1 cn, .slice (some ⟨b2, o2, none⟩) 1 ci, .string s2, .int .i64 0]] w fun e w' => Below w.heap.size w w' ∧ ∃ g1 g2, e = .returned (.agg #[.int .i64 6, .int .i64 0, .string ⟨#[]⟩, .slice (some ⟨g1, 0, none⟩) 0 2, .slice (some ⟨g2, 0, none⟩) 0 2]) := by
  have hs' : ∀ o1 o2, ((w.alloc o1).alloc o2).cell? ⟨b, o, none⟩ = some (.string s) := fun o1 o2 => cell_alloc' (cell_alloc' hs _) _
  have h' : ∀ p1 p2, CellsAt ((w.alloc p1).alloc p2) b2 o2 [c0, c1, c2, c3, c4] := fun p1 p2 j u hj => cell_alloc' (cell_alloc' (h j u hj) _) _
  go_enter Try.func34, Try.ntmps34
  go_wp2_with fail
  refine (anew1 x tx b o cn b2 o2 ci s c0 c1 c2 c3 c4 h1 hcn hci _ (hs' _ _) (h' _ _)).mono ?_
  rintro e w1 ⟨rfl, rfl⟩
  clear hs' h'
  go_wp2_with fail
  refine (delete_s (w.heap.size + 1 + 1 + 1 + 1 + 1 + 1 + 1) s _ ?hg1).mono ?_
  case hg1 =>
    refine (drew_heap _ _).trans ?_
    repeat (first | (refine heap_new' ?_; simp; done) | (refine (Below.heap_alloc _ _ _ ?_).trans ?_; (simp <;> omega)))
  rintro e w2 ⟨rfl, hbut⟩
  have hT : w2.heap[w.heap.size]? = some (.cells #[.int .i64 6, .int .i64 x, .string tx, .slice (some ⟨b, o, none⟩) 1 cn, .slice (some ⟨b2, o2, none⟩) 1 ci, .string s2, .int .i64 0] 64 (0, 0)) := by
    refine (hbut.block _ (by omega)).trans ((drew_heap _ _).trans ?_)
    repeat (first | (refine heap_new' ?_; simp; done) | (refine (Below.heap_alloc _ _ _ ?_).trans ?_; (simp <;> omega)))
  have hR : w2.heap[w.heap.size + 1]? = some (.cells #[.int .i64 0, .int .i64 0, .string ⟨#[]⟩, .slice none 0 0, .slice none 0 0] 25 (0, 0)) := by
    refine (hbut.block _ (by omega)).trans ((drew_heap _ _).trans ?_)
    repeat (first | (refine heap_new' ?_; simp; done) | (refine (Below.heap_alloc _ _ _ ?_).trans ?_; (simp <;> omega)))
  have hI : w2.heap[w.heap.size + 1 + 1 + 1 + 1 + 1 + 1]? = some (.cells #[c0, c1, c2, c3, c4, .int .i64 0, .int .i64 0, .string ⟨#[]⟩, .slice none 0 0, .slice none 0 0] 25 (0, 0)) := by
    refine (hbut.block _ (by omega)).trans ((drew_heap _ _).trans ?_)
    repeat (first | (refine heap_new' ?_; simp; done) | (refine (Below.heap_alloc _ _ _ ?_).trans ?_; (simp <;> omega)))
  have hVv : w2.heap[w.heap.size + 1 + 1 + 1 + 1 + 1 + 1 + 1 + 1]? = some (.cells #[.int .i64 6, .int .i64 0, .string ⟨#[]⟩, .slice (some ⟨w.heap.size + 1 + 1 + 1 + 1 + 1 + 1 + 1, 0, none⟩) 1 2, .slice (some ⟨w.heap.size + 1 + 1 + 1 + 1 + 1 + 1, 0, none⟩) 1 2] 25 (0, 0)) := by
    refine (hbut.block _ (by omega)).trans ((drew_heap _ _).trans ?_)
    repeat (first | (refine heap_new' ?_; simp; done) | (refine (Below.heap_alloc _ _ _ ?_).trans ?_; (simp <;> omega)))
  have hB2 : Below w.heap.size w w2 := by
    refine Below.trans ?_ (but_below hbut (by omega))
    repeat (first | exact Below.refl _ _ | refine below_drew ?_ | (refine Below.alloc ?_ ?_ _; (rotate_left; (simp <;> omega))))
  clear hbut
  have t6 : w2.cell? ⟨w.heap.size, 6, none⟩ = some (.int .i64 0) := by simp [World.cell?, hT]
  obtain ⟨v0, v1, v2, v3, v4, vf⟩ := row_cells hVv
  have vf3 := vf 3
  clear vf
  have hV2 := putc3 hVv (.slice (some ⟨w.heap.size + 1 + 1 + 1 + 1 + 1 + 1 + 1, 0, none⟩) 0 2)
  obtain ⟨q0, q1, q2, q3, q4, -⟩ := row_cells hV2
  have hT2 := (Below.heap_setCell w2 ⟨w.heap.size + 1 + 1 + 1 + 1 + 1 + 1 + 1 + 1, 3, none⟩ (.slice (some ⟨w.heap.size + 1 + 1 + 1 + 1 + 1 + 1 + 1, 0, none⟩) 0 2) w.heap.size (by show w.heap.size ≠ w.heap.size + 1 + 1 + 1 + 1 + 1 + 1 + 1 + 1; omega)).trans hT
  have hR2 := (Below.heap_setCell w2 ⟨w.heap.size + 1 + 1 + 1 + 1 + 1 + 1 + 1 + 1, 3, none⟩ (.slice (some ⟨w.heap.size + 1 + 1 + 1 + 1 + 1 + 1 + 1, 0, none⟩) 0 2) (w.heap.size + 1) (by show w.heap.size + 1 ≠ w.heap.size + 1 + 1 + 1 + 1 + 1 + 1 + 1 + 1; omega)).trans hR
  have hI2 := (Below.heap_setCell w2 ⟨w.heap.size + 1 + 1 + 1 + 1 + 1 + 1 + 1 + 1, 3, none⟩ (.slice (some ⟨w.heap.size + 1 + 1 + 1 + 1 + 1 + 1 + 1, 0, none⟩) 0 2) (w.heap.size + 1 + 1 + 1 + 1 + 1 + 1) (by show w.heap.size + 1 + 1 + 1 + 1 + 1 + 1 ≠ w.heap.size + 1 + 1 + 1 + 1 + 1 + 1 + 1 + 1; omega)).trans hI
  have t62 : (w2.setCell ⟨w.heap.size + 1 + 1 + 1 + 1 + 1 + 1 + 1 + 1, 3, none⟩ (.slice (some ⟨w.heap.size + 1 + 1 + 1 + 1 + 1 + 1 + 1, 0, none⟩) 0 2)).cell? ⟨w.heap.size, 6, none⟩ = some (.int .i64 0) := by simp [World.cell?, hT2]
  have hB3 : Below w.heap.size w (w2.setCell ⟨w.heap.size + 1 + 1 + 1 + 1 + 1 + 1 + 1 + 1, 3, none⟩ (.slice (some ⟨w.heap.size + 1 + 1 + 1 + 1 + 1 + 1 + 1, 0, none⟩) 0 2)) := hB2.trans ⟨rfl, rfl, rfl, by simp [World.setCell], fun k hk => Below.heap_setCell _ _ _ _ (by show k ≠ w.heap.size + 1 + 1 + 1 + 1 + 1 + 1 + 1 + 1; omega)⟩
  go_wp2_with fail
  refine (delete_v (w.heap.size + 1 + 1 + 1 + 1 + 1 + 1) c0 c1 c2 c3 c4 _ hI2).mono ?_
  rintro e w4 ⟨rfl, hbut⟩
  have hV4 := (hbut.block (w.heap.size + 1 + 1 + 1 + 1 + 1 + 1 + 1 + 1) (by omega)).trans hV2
  have hR4 := (hbut.block (w.heap.size + 1) (by omega)).trans hR2
  have hB4 : Below w.heap.size w w4 := hB3.trans (but_below hbut (by omega))
  clear hbut hV2 hR2 hI2 hT2 t62 q0 q1 q2 q3 q4 v0 v1 v2 v3 v4 vf3 t6 hT hR hI hVv hB2 hB3
  obtain ⟨v0, v1, v2, v3, v4, vf⟩ := row_cells hV4
  have vf4 := vf 4
  clear vf
  have hV5 := putc4 hV4 (.slice (some ⟨w.heap.size + 1 + 1 + 1 + 1 + 1 + 1, 0, none⟩) 0 2)
  obtain ⟨q0, q1, q2, q3, q4, -⟩ := row_cells hV5
  have hR5 := (Below.heap_setCell w4 ⟨w.heap.size + 1 + 1 + 1 + 1 + 1 + 1 + 1 + 1, 4, none⟩ (.slice (some ⟨w.heap.size + 1 + 1 + 1 + 1 + 1 + 1, 0, none⟩) 0 2) (w.heap.size + 1) (by show w.heap.size + 1 ≠ w.heap.size + 1 + 1 + 1 + 1 + 1 + 1 + 1 + 1; omega)).trans hR4
  obtain ⟨z0, z1, z2, z3, z4, zf⟩ := row_cells hR5
  have zf0 := zf 0; have zf1 := zf 1; have zf2 := zf 2; have zf3 := zf 3; have zf4 := zf 4
  clear zf
  have hB5 : Below w.heap.size w (w4.setCell ⟨w.heap.size + 1 + 1 + 1 + 1 + 1 + 1 + 1 + 1, 4, none⟩ (.slice (some ⟨w.heap.size + 1 + 1 + 1 + 1 + 1 + 1, 0, none⟩) 0 2)) := hB4.trans ⟨rfl, rfl, rfl, by simp [World.setCell], fun k hk => Below.heap_setCell _ _ _ _ (by show k ≠ w.heap.size + 1 + 1 + 1 + 1 + 1 + 1 + 1 + 1; omega)⟩
  go_wp2_with fail
  have hr := put5_cells hR5 (.int .i64 6) (.int .i64 0) (.string ⟨#[]⟩) (.slice (some ⟨w.heap.size + 1 + 1 + 1 + 1 + 1 + 1 + 1, 0, none⟩) 0 2) (.slice (some ⟨w.heap.size + 1 + 1 + 1 + 1 + 1 + 1, 0, none⟩) 0 2)
  have r0 := hr 0; have r1 := hr 1; have r2 := hr 2; have r3 := hr 3; have r4 := hr 4
  clear hr
  refine bodyPost_ret (v := .agg #[.int .i64 6, .int .i64 0, .string ⟨#[]⟩, .slice (some ⟨w.heap.size + 1 + 1 + 1 + 1 + 1 + 1 + 1, 0, none⟩) 0 2, .slice (some ⟨w.heap.size + 1 + 1 + 1 + 1 + 1 + 1, 0, none⟩) 0 2]) (by simp [results, Try.results34, go_sem, r0, r1, r2, r3, r4]) rfl ?_
  exact ⟨hB5.trans (put5_below (by omega) _ _ _ _ _), _, _, rfl⟩
end Go.Proofs.Ytbhjbicbgmeboaa
