import Derived.Test.YtloeongljbgmnaaEC
/-! epoch: atomics, by nobody. -/
namespace Go.Proofs.Ytloeongljbgmnaa
open Go Go.RowKit
/-- An atomic in a world that is not real: what it holds lies in a block of its own. -/
def iCs (obj num : Int) (vb : Nat) : Array Value := #[.bool false, .int .i64 obj, .int .i64 num, .pointer (some ⟨vb, 0, none⟩)]
theorem i_lies : liesAt Try.prog Try.prog.depth 2 (1 / Try.prog.cellsOf 2) 0 2 1 = true := by kernel_rfl
theorem i_info : (Try.prog.info? 2).map (fun i => decide (i.size = 0)) = some false := by kernel_rfl
theorem i_i : (Try.prog.info? 2).map (·.size) = some 1 := by kernel_rfl
theorem i_back {b : Nat} (s : Int) {w : World} (hc : w.heap[b]? = some (.cells #[.int .i64 s] 2 (0, 0))) :
    (convert 90 98 (.pointer (some ⟨b, 0, none⟩))).run Try.prog w = .ok (.pointer (some ⟨b, 0, none⟩)) w := by
  obtain ⟨i, hi, hz0⟩ := Option.map_eq_some_iff.1 i_info
  have hz : i.size ≠ 0 := by simpa using hz0
  have hsh : w.shape? b = some (2, 1) := by simp [World.shape?, hc]
  have hl := i_lies
  simp [convert, Conv.unsafePointer, Conv.seenAt, viewAt, variablesAt, sizeOf, typeInfo, run_underlying Try.underlying90, run_underlying Try.underlying98, hi, hz, hsh, hl, Result.andThen]
theorem i_to {b : Nat} {v : Value} {w : World} (hc : w.cell? ⟨b, 0, none⟩ = some v) :
    (convert 98 90 (.pointer (some ⟨b, 0, none⟩))).run Try.prog w = .ok (.pointer (some ⟨b, 0, none⟩)) w :=
  run_convert_to_unsafe Try.underlying98 Try.underlying90 i_info hc
set_option maxHeartbeats 1000000 in
theorem ipload (ab vb : Nat) (s : Int) (w : World) (hc : w.cell? ⟨ab, 3, none⟩ = some (.pointer (some ⟨vb, 0, none⟩))) (hm : w.heap[vb]? = some (.cells #[.int .i64 s] 2 (0, 0))) :
    Calls Try.prog 67 #[.pointer (some ⟨ab, 3, none⟩)] w fun e w' => e = .returned (.pointer (some ⟨vb, 0, none⟩)) ∧ w' = w := by
  have hl := run_call_loadp (P := Try.prog) Try.func60 (by kernel_rfl) (by kernel_rfl) (by kernel_rfl) (by kernel_rfl) hc
  have hv := i_back s hm
  clear hc hm
  go_enter Try.func67, Try.ntmps67
  go_wp2
  go_ret
  exact ⟨rfl, rfl⟩
set_option maxHeartbeats 1000000 in
theorem ipstore (ab vb : Nat) (v u : Value) (w : World) (hc : w.cell? ⟨ab, 3, none⟩ = some u) (hz : w.frozen? ⟨ab, 3, none⟩ = false) (hm : w.cell? ⟨vb, 0, none⟩ = some v) :
    Calls Try.prog 34 #[.pointer (some ⟨ab, 3, none⟩), .pointer (some ⟨vb, 0, none⟩)] w fun e w' => e = .returned (.tuple #[]) ∧ w' = w.setCell ⟨ab, 3, none⟩ (.pointer (some ⟨vb, 0, none⟩)) := by
  have hl := run_call_storep (P := Try.prog) Try.func57 (by kernel_rfl) (by kernel_rfl) (by kernel_rfl) (by kernel_rfl) (y := some ⟨vb, 0, none⟩) hc hz
  have hv := i_to hm
  clear hc hm
  go_enter Try.func34, Try.ntmps34
  go_wp2
  exact bodyPost_end (by simp [results, Try.results34, go_sem]) rfl ⟨rfl, rfl⟩
theorem i_set {w : World} {ab vb vb2 : Nat} {obj num : Int} (h : w.heap[ab]? = some (.cells (iCs obj num vb) 103 (0, 0))) : (w.setCell ⟨ab, 3, none⟩ (.pointer (some ⟨vb2, 0, none⟩))).heap[ab]? = some (.cells (iCs obj num vb2) 103 (0, 0)) :=
  heap_setCell_same w ab 3 _ _ (.pointer (some ⟨vb2, 0, none⟩)) h
set_option maxRecDepth 100000 in
set_option maxHeartbeats 1000000 in
theorem isetdo (ab cb vb vb0 : Nat) (obj num : Int) (s : Int) (w : World) (hN : w.heap[ab]? = some (.cells (iCs obj num vb0) 103 (0, 0))) (hc : w.cell? ⟨cb, 0, none⟩ = some (.pointer (some ⟨ab, 0, none⟩))) (hv : w.heap[vb]? = some (.cells #[.int .i64 s] 2 (0, 0))) :
    Calls Try.prog 36 #[.pointer (some ⟨cb, 0, none⟩), .pointer (some ⟨vb, 0, none⟩)] w fun e w2 => e = .returned (.tuple #[]) ∧ w2 = w.setCell ⟨ab, 3, none⟩ (.pointer (some ⟨vb, 0, none⟩)) := by
  have hs := hid_of (ipstore ab vb _ _ w (cell_of (k := 3) hN rfl) (warm hN) (cell_of (k := 0) hv rfl))
  clear hN hv
  go_enter Try.func36, Try.ntmps36
  go_wp2_with fail
  refine hs.out.mono ?_
  rintro e W2 ⟨rfl, rfl⟩
  go_wp2_with fail
  exact bodyPost_end (results_none rfl _ _ _) rfl ⟨rfl, rfl⟩
set_option maxRecDepth 100000 in
set_option maxHeartbeats 2000000 in
theorem iset_any (ab vb0 : Nat) (obj num : Int) (s : Int) (w : World) (hN : w.heap[ab]? = some (.cells (iCs obj num vb0) 103 (0, 0))) :
    Calls Try.prog 19 #[.pointer (some ⟨ab, 0, none⟩), .pointer none, .int .i64 s] w fun e w' => e = .returned (.tuple #[]) ∧ Fr (· = ab) w w' ∧ ∃ vb, w.heap.size ≤ vb ∧ w'.heap[ab]? = some (.cells (iCs obj num vb) 103 (0, 0)) ∧ w'.heap[vb]? = some (.cells #[.int .i64 s] 2 (0, 0)) := by
  obtain ⟨W2, hW2⟩ : ∃ W2, Hid ((w.alloc (.cells #[.pointer (some ⟨ab, 0, none⟩)] 52)).alloc (.cells #[.int .i64 s] 2) = W2) := ⟨_, rfl⟩
  have z0 := heap_alloc2_old w (.cells #[.pointer (some ⟨ab, 0, none⟩)] 52) (.cells #[.int .i64 s] 2)
  have z1 := heap_alloc2_new w (.cells #[.pointer (some ⟨ab, 0, none⟩)] 52) (.cells #[.int .i64 s] 2)
  have hB : Below w.heap.size w W2 := by rw [← hW2.out]; exact ((Below.refl _ w).alloc (Nat.le_refl _) _).alloc (by simp) _
  rw [hW2.out] at z0 z1
  have hab := (Array.getElem?_eq_some_iff.1 hN).1
  have hN2 := (hB.block ab hab).trans hN
  have y0 := cell_of (k := 0) z0 rfl
  have ha := hid_of (access_is ab 6 obj num ⟨w.heap.size, 0, none⟩ ⟨w.heap.size + 1, 0, none⟩ (fun w' w2 => w2 = w'.setCell ⟨ab, 3, none⟩ (.pointer (some ⟨w.heap.size + 1, 0, none⟩))) W2 (cell_of hN2 rfl) (cell_of hN2 rfl) (cell_of hN2 rfl)
    (fun w' hw' => isetdo ab w.heap.size (w.heap.size + 1) vb0 obj num s w' ((hw'.block _ (Array.getElem?_eq_some_iff.1 hN2).1).trans hN2) (stay hw' y0) ((hw'.block _ (Array.getElem?_eq_some_iff.1 z1).1).trans z1)))
  have hmf : ∀ (fn : Fn) (first cap : Array Value) (w : World), (Instr.makeFunc fn first cap).run Try.prog w = .ok (.func fn first cap) w := fun _ _ _ _ => rfl
  replace hB := hid_of hB
  replace hN2 := hid_of hN2
  replace z1 := hid_of z1
  replace hab := hid_of hab
  clear z0 hN
  go_enter Try.func19, Try.ntmps19
  go_wp2_with (rw [hW2.out])
  refine ha.out.mono ?_
  rintro e W4 ⟨rfl, w', hw', rfl⟩
  have hN4 := (hw'.block _ (Array.getElem?_eq_some_iff.1 hN2.out).1).trans hN2.out
  have hv4 := (hw'.block _ (Array.getElem?_eq_some_iff.1 z1.out).1).trans z1.out
  have hfin : Hid (Fr (· = ab) w (w'.setCell ⟨ab, 3, none⟩ (.pointer (some ⟨w.heap.size + 1, 0, none⟩))) ∧ ∃ vb, w.heap.size ≤ vb ∧ (w'.setCell ⟨ab, 3, none⟩ (.pointer (some ⟨w.heap.size + 1, 0, none⟩))).heap[ab]? = some (.cells (iCs obj num vb) 103 (0, 0)) ∧ (w'.setCell ⟨ab, 3, none⟩ (.pointer (some ⟨w.heap.size + 1, 0, none⟩))).heap[vb]? = some (.cells #[.int .i64 s] 2 (0, 0))) := ⟨(Fr.of_below (hB.out.trans (hw'.mono hB.out.size))).set _ _ (.inl rfl), w.heap.size + 1, by omega, i_set hN4, (Below.heap_setCell _ _ _ _ (by have := hab.out; show w.heap.size + 1 ≠ ab; omega)).trans hv4⟩
  generalize w'.setCell ⟨ab, 3, none⟩ (.pointer (some ⟨w.heap.size + 1, 0, none⟩)) = X at hfin
  clear ha hw' hW2 y0 hmf hN4 hv4
  go_wp2_with fail
  exact bodyPost_end (results_none rfl _ _ _) rfl ⟨rfl, hfin.out⟩
set_option maxRecDepth 100000 in
set_option maxHeartbeats 2000000 in
theorem inew_any (wb : Nat) (obj num : Int) (s : Int) (w : World) (h : w.cell? ⟨wb, 0, none⟩ = some (.bool false)) :
    Calls Try.prog 17 #[.pointer (some ⟨wb, 0, none⟩), .int .i64 obj, .int .i64 num, .int .i64 s] w fun e w' => Below w.heap.size w w' ∧ ∃ ab vb, e = .returned (.pointer (some ⟨ab, 0, none⟩)) ∧ w.heap.size ≤ ab ∧ w.heap.size ≤ vb ∧ w'.heap[ab]? = some (.cells (iCs obj num vb) 103 (0, 0)) ∧ w'.heap[vb]? = some (.cells #[.int .i64 s] 2 (0, 0)) := by
  obtain ⟨W1, hW1⟩ : ∃ W1, Hid (w.alloc (.cells #[.int .i64 s] 2) = W1) := ⟨_, rfl⟩
  have z0 := heap_alloc_new w (.cells #[.int .i64 s] 2)
  have hB : Below w.heap.size w W1 := by rw [← hW1.out]; exact (Below.refl _ w).alloc (Nat.le_refl _) _
  rw [hW1.out] at z0
  have h1 := stay hB h
  have hp := hid_of (place_any wb obj num W1 h1)
  clear h h1
  go_enter Try.func17, Try.ntmps17
  go_wp2_with (rw [hW1.out])
  refine hp.out.mono ?_
  rintro e W2 ⟨rfl, hB2⟩
  have z2 := (hB2.block _ (Array.getElem?_eq_some_iff.1 z0).1).trans z0
  obtain ⟨W3, hW3⟩ : ∃ W3, Hid (W2.alloc (.cells #[.bool false, .int .i64 obj, .int .i64 num, .pointer none] 103) = W3) := ⟨_, rfl⟩
  have k3 := heap_alloc_new W2 (.cells #[.bool false, .int .i64 obj, .int .i64 num, .pointer none] 103)
  have hB3 : Below W2.heap.size W2 W3 := by rw [← hW3.out]; exact (Below.refl _ W2).alloc (Nat.le_refl _) _
  rw [hW3.out] at k3
  have z3 := (hB3.block _ (Array.getElem?_eq_some_iff.1 z2).1).trans z2
  have hs := hid_of (ipstore W2.heap.size w.heap.size _ _ W3 (cell_of (k := 3) k3 rfl) (warm k3) (cell_of (k := 0) z3 rfl))
  have hfin : Hid (Below w.heap.size w (W3.setCell ⟨W2.heap.size, 3, none⟩ (.pointer (some ⟨w.heap.size, 0, none⟩))) ∧ ∃ ab vb, Ending.returned (.pointer (some ⟨W2.heap.size, 0, none⟩)) = .returned (.pointer (some ⟨ab, 0, none⟩)) ∧ w.heap.size ≤ ab ∧ w.heap.size ≤ vb ∧ (W3.setCell ⟨W2.heap.size, 3, none⟩ (.pointer (some ⟨w.heap.size, 0, none⟩))).heap[ab]? = some (.cells (iCs obj num vb) 103 (0, 0)) ∧ (W3.setCell ⟨W2.heap.size, 3, none⟩ (.pointer (some ⟨w.heap.size, 0, none⟩))).heap[vb]? = some (.cells #[.int .i64 s] 2 (0, 0))) := by
    have e1 := hB.size
    have e2 := hB2.size
    have e0 := (Array.getElem?_eq_some_iff.1 z0).1
    have hB03 := (hB.trans (hB2.mono e1)).trans (hB3.mono (Nat.le_trans e1 e2))
    refine ⟨(Fr.of_below hB03 |>.set (S := fun _ => False) _ _ (.inr (Nat.le_trans e1 e2))).below (Nat.le_refl _) (fun _ h => h.elim), W2.heap.size, w.heap.size, rfl, Nat.le_trans e1 e2, Nat.le_refl _, heap_setCell_same W3 W2.heap.size 3 _ _ _ k3, (Below.heap_setCell _ _ _ _ ?_).trans z3⟩
    show w.heap.size ≠ W2.heap.size
    omega
  replace hB := hid_of hB
  clear hp hB2 z2 k3 hB3 z3 z0
  go_wp2_with (rw [hW3.out])
  refine hs.out.mono ?_
  rintro e W4 ⟨rfl, rfl⟩
  generalize W3.setCell ⟨W2.heap.size, 3, none⟩ (.pointer (some ⟨w.heap.size, 0, none⟩)) = X at hfin
  clear hs hW3 hW1
  go_wp2_with fail
  go_ret
  exact hfin.out
set_option maxRecDepth 100000 in
set_option maxHeartbeats 1000000 in
theorem igetdo (ab cb vb tb : Nat) (obj num : Int) (s : Int) (w : World) (hN : w.heap[ab]? = some (.cells (iCs obj num vb) 103 (0, 0))) (hm : w.heap[vb]? = some (.cells #[.int .i64 s] 2 (0, 0))) (hc : w.cell? ⟨cb, 0, none⟩ = some (.pointer (some ⟨ab, 0, none⟩))) (old : Value) (hv : w.heap[tb]? = some (.cells #[old] 2 (0, 0))) :
    Calls Try.prog 66 #[.pointer (some ⟨cb, 0, none⟩), .pointer (some ⟨tb, 0, none⟩)] w fun e w2 => e = .returned (.tuple #[]) ∧ w2 = w.setCell ⟨tb, 0, none⟩ (.int .i64 s) := by
  have hl := hid_of (ipload ab vb s w (cell_of hN rfl) hm)
  have m0 : w.cell? ⟨vb, 0, none⟩ = some (.int .i64 s) := cell_of hm rfl
  have t0 : w.cell? ⟨tb, 0, none⟩ = some old := cell_of hv rfl
  have t1 : w.frozen? ⟨tb, 0, none⟩ = false := warm hv
  clear hN hm hv
  go_enter Try.func66, Try.ntmps66
  go_wp2_with fail
  refine hl.out.mono ?_
  rintro e W2 ⟨rfl, hz⟩
  obtain rfl : w = W2 := hz.symm
  clear hl hz
  go_wp2_with fail
  exact bodyPost_end (results_none rfl _ _ _) rfl ⟨rfl, rfl⟩
set_option maxRecDepth 100000 in
set_option maxHeartbeats 2000000 in
theorem iget_any (ab vb : Nat) (obj num : Int) (s : Int) (w : World) (hN : w.heap[ab]? = some (.cells (iCs obj num vb) 103 (0, 0))) (hm : w.heap[vb]? = some (.cells #[.int .i64 s] 2 (0, 0))) :
    Calls Try.prog 50 #[.pointer (some ⟨ab, 0, none⟩), .pointer none] w fun e w' => e = .returned (.int .i64 s) ∧ Below w.heap.size w w' := by
  obtain ⟨W2, hW2⟩ : ∃ W2, Hid ((w.alloc (.cells #[.pointer (some ⟨ab, 0, none⟩)] 52)).alloc (.cells #[.int .i64 0] 2) = W2) := ⟨_, rfl⟩
  have z0 := heap_alloc2_old w (.cells #[.pointer (some ⟨ab, 0, none⟩)] 52) (.cells #[.int .i64 0] 2)
  have z1 := heap_alloc2_new w (.cells #[.pointer (some ⟨ab, 0, none⟩)] 52) (.cells #[.int .i64 0] 2)
  have hB : Below w.heap.size w W2 := by rw [← hW2.out]; exact ((Below.refl _ w).alloc (Nat.le_refl _) _).alloc (by simp) _
  rw [hW2.out] at z0 z1
  have hN3 := (hB.block ab (Array.getElem?_eq_some_iff.1 hN).1).trans hN
  have hm3 := (hB.block vb (Array.getElem?_eq_some_iff.1 hm).1).trans hm
  have y0 := cell_of (k := 0) z0 rfl
  have ha := hid_of (access_ig ab 5 obj num ⟨w.heap.size, 0, none⟩ ⟨w.heap.size + 1, 0, none⟩ (fun w' w2 => w2 = w'.setCell ⟨w.heap.size + 1, 0, none⟩ (.int .i64 s)) W2 (cell_of hN3 rfl) (cell_of hN3 rfl) (cell_of hN3 rfl)
    (fun w' hw' => igetdo ab w.heap.size vb (w.heap.size + 1) obj num s w' ((hw'.block _ (Array.getElem?_eq_some_iff.1 hN3).1).trans hN3) ((hw'.block _ (Array.getElem?_eq_some_iff.1 hm3).1).trans hm3) (stay hw' y0) (.int .i64 0) ((hw'.block _ (Array.getElem?_eq_some_iff.1 z1).1).trans z1)))
  have hmf : ∀ (fn : Fn) (first cap : Array Value) (w : World), (Instr.makeFunc fn first cap).run Try.prog w = .ok (.func fn first cap) w := fun _ _ _ _ => rfl
  replace hB := hid_of hB
  replace z1 := hid_of z1
  clear z0 hN hN3 hm hm3
  go_enter Try.func50, Try.ntmps50
  go_wp2_with (rw [hW2.out])
  refine ha.out.mono ?_
  rintro e W4 ⟨rfl, w', hw', rfl⟩
  have k2 := heap_setCell_same w' (w.heap.size + 1) 0 _ _ (.int .i64 s) ((hw'.block _ (Array.getElem?_eq_some_iff.1 z1.out).1).trans z1.out)
  have hB4 : Hid (Below w.heap.size w (w'.setCell ⟨w.heap.size + 1, 0, none⟩ (.int .i64 s))) := (Fr.of_below (S := fun _ => False) (hB.out.trans (hw'.mono hB.out.size)) |>.set _ _ (.inr (by show w.heap.size ≤ w.heap.size + 1; omega))).below (Nat.le_refl _) (fun _ h => h.elim)
  generalize w'.setCell ⟨w.heap.size + 1, 0, none⟩ (.int .i64 s) = X at k2 hB4
  have y2 : X.cell? ⟨w.heap.size + 1, 0, none⟩ = some (.int .i64 s) := cell_of k2 rfl
  clear ha hw' hW2 y0 hmf k2
  go_wp2_with fail
  go_ret
  exact ⟨rfl, hB4.out⟩
end Go.Proofs.Ytloeongljbgmnaa
