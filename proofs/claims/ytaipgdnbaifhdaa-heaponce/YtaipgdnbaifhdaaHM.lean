import Derived.Test.YtaipgdnbaifhdaaHL
/-! heap: live. -/
namespace Go.Proofs.Ytaipgdnbaifhdaa
open Go Go.RowKit
section
variable {lo : Nat} {w : World} {hb : Nat} {obj most : Int} {ns : List Nd} {st : List Int}
theorem get_s (h : HeapS lo w hb obj most ns st) (num gen : Int) : Calls Try.prog 13 #[.pointer (some ⟨hb, 0, none⟩), .pointer none, .agg #[.int .i64 num, .int .i64 gen]] w fun e w' => e = .returned (.tuple #[.int .i64 (valOf ns num gen), .bool (isLive ns num gen)]) ∧ Below w.heap.size w w' := by
  obtain ⟨c, cs, p, h1, h2, h3⟩ := h
  exact get_any h2 num gen
theorem free_no (h : HeapS lo w hb obj most ns st) (num gen : Int) (hno : isLive ns num gen = false) : Calls Try.prog 12 #[.pointer (some ⟨hb, 0, none⟩), .pointer none, .agg #[.int .i64 num, .int .i64 gen]] w fun e w' => e = .returned (.bool false) ∧ Below w.heap.size w w' := by
  obtain ⟨c, cs, p, h1, h2, h3⟩ := h
  exact free_not h2 num gen hno
theorem free_s (h : HeapS lo w hb obj most ns st) (k : Nat) (gen v : Int) (hkx : ns[k]? = some ⟨gen, true, v⟩) (hlo : lo ≤ w.heap.size) (hgen : -4611686018427387904 ≤ gen ∧ gen ≤ 4611686018427387904) (hl : st.length ≤ 1048576) : Calls Try.prog 12 #[.pointer (some ⟨hb, 0, none⟩), .pointer none, .agg #[.int .i64 ((k : Int) + 1), .int .i64 gen]] w fun e w' => e = .returned (.bool true) ∧ FT lo w w' ∧ HeapS lo w' hb obj most (ns.set k ⟨gen + 1, false, 0⟩) (((k : Int) + 1) :: st) := by
  obtain ⟨c, cs, p, h1, h2, h3⟩ := h
  refine (free_live h2 k gen v hkx hlo hgen (by rw [h2.pool.count, h3]; omega)).mono ?_
  rintro e w' ⟨rfl, hT, c', cs', p', q1, q2, q3⟩
  exact ⟨rfl, hT, c', cs', p', q1.trans h1, q2, by rw [q3, h3]⟩
end
theorem eq_ref (a b c d : Int) (w : World) : (binOp .eql 35 (.agg #[.int .i64 a, .int .i64 b]) (.agg #[.int .i64 c, .int .i64 d])).run Try.prog w = .ok (.bool (decide (a = c) && decide (b = d))) w := by
  go_simp
  by_cases h1 : a = c <;> by_cases h2 : b = d <;> simp [h1, h2]
section
variable {lo : Nat} {w : World} {hb : Nat}
theorem live_a1 (h : HeapS lo w hb 5 1 [] []) (hlo : lo ≤ w.heap.size) : Calls Try.prog 11 #[.pointer (some ⟨hb, 0, none⟩), .pointer none, .int .i64 7] w (AllocPost lo w hb 5 1 1 1 0 [⟨1, true, 7⟩] []) := by
  have := alloc_rest h hlo (by decide) 7
  exact this
theorem live_a2 (h : HeapS lo w hb 5 1 [⟨1, true, 7⟩] []) (hlo : lo ≤ w.heap.size) : Calls Try.prog 11 #[.pointer (some ⟨hb, 0, none⟩), .pointer none, .int .i64 8] w (AllocPost lo w hb 5 1 0 0 5 [⟨1, true, 7⟩] []) := by
  have := alloc_rest h hlo (by decide) 8
  exact this
theorem live_a3 (h : HeapS lo w hb 5 1 [⟨2, false, 0⟩] [1]) (hlo : lo ≤ w.heap.size) : Calls Try.prog 11 #[.pointer (some ⟨hb, 0, none⟩), .pointer none, .int .i64 9] w (AllocPost lo w hb 5 1 1 2 0 [⟨2, true, 9⟩] []) := by
  have := alloc_again h hlo 0 [] ⟨2, false, 0⟩ rfl rfl (by decide) 9
  exact this
theorem live_f (h : HeapS lo w hb 5 1 [⟨1, true, 7⟩] []) (hlo : lo ≤ w.heap.size) : Calls Try.prog 12 #[.pointer (some ⟨hb, 0, none⟩), .pointer none, .agg #[.int .i64 1, .int .i64 1]] w fun e w' => e = .returned (.bool true) ∧ FT lo w w' ∧ HeapS lo w' hb 5 1 [⟨2, false, 0⟩] [1] := by
  have := free_s h 0 1 7 rfl hlo (by decide) (by decide)
  exact this
theorem live_g1 (h : HeapS lo w hb 5 1 [⟨1, true, 7⟩] []) : Calls Try.prog 13 #[.pointer (some ⟨hb, 0, none⟩), .pointer none, .agg #[.int .i64 1, .int .i64 1]] w fun e w' => e = .returned (.tuple #[.int .i64 7, .bool true]) ∧ Below w.heap.size w w' := get_s h 1 1
theorem live_g2 (h : HeapS lo w hb 5 1 [⟨2, true, 9⟩] []) : Calls Try.prog 13 #[.pointer (some ⟨hb, 0, none⟩), .pointer none, .agg #[.int .i64 1, .int .i64 1]] w fun e w' => e = .returned (.tuple #[.int .i64 0, .bool false]) ∧ Below w.heap.size w w' := get_s h 1 1
theorem live_g3 (h : HeapS lo w hb 5 1 [⟨2, true, 9⟩] []) : Calls Try.prog 13 #[.pointer (some ⟨hb, 0, none⟩), .pointer none, .agg #[.int .i64 1, .int .i64 2]] w fun e w' => e = .returned (.tuple #[.int .i64 9, .bool true]) ∧ Below w.heap.size w w' := get_s h 1 2
end
set_option maxRecDepth 100000 in
set_option maxHeartbeats 8000000 in
theorem live_any (w : World) : Calls Try.prog 6 #[] w fun e w' => e = .returned (.bool true) ∧ Below w.heap.size w w' := by
  obtain ⟨lo, hlo⟩ : ∃ lo, Hid (w.heap.size = lo) := ⟨_, rfl⟩
  rw [hlo.out]
  have hnum := hid_of num_any
  have hsc := hid_of (scripted_any w)
  obtain ⟨W1, hW1⟩ : ∃ W1, Hid (w.alloc (.cells #[.bool false] 76) = W1) := ⟨_, rfl⟩
  have z1 : W1.heap[w.heap.size]? = some (.cells #[.bool false] 76 (0, 0)) := by rw [← hW1.out]; exact heap_alloc_new w _
  have hB1 : Below w.heap.size w W1 := by rw [← hW1.out]; exact (Below.refl _ w).alloc (Nat.le_refl _) _
  rw [hW1.out, hlo.out] at hsc
  rw [hlo.out] at z1 hB1
  have hnew := hid_of (new_any lo lo 5 1 W1 (by have := hB1.size; have := hlo.out; omega) z1 (by decide) (by decide))
  replace hB1 := hid_of hB1
  clear z1 hW1
  go_enter Try.func6, Try.ntmps6
  go_wp2_with fail
  refine hsc.out.mono ?_
  rintro e Z ⟨rfl, hz⟩
  obtain rfl : W1 = Z := hz.symm
  clear hsc hz
  go_wp2_with fail
  refine hnew.out.mono ?_
  rintro e W2 ⟨hb, rfl, hB2, hS2⟩
  clear hnew
  have hl2 : lo ≤ W2.heap.size := by have := hB1.out.size; have := hB2.size; have := hlo.out; omega
  have hF2 : FT lo w W2 := FT.of_below (hlo.out ▸ (hB1.out.trans (hB2.mono (by have := hB1.out.size; have := hlo.out; omega)))) (by rw [hlo.out]; exact Nat.le_refl _)
  have ha1 := hid_of (live_a1 hS2 hl2)
  replace hF2 := hid_of hF2
  replace hl2 := hid_of hl2
  clear hB1 hB2 hS2
  go_wp2_with fail
  refine (hnum.out 0 W2).mono ?_
  rintro e Z ⟨rfl, hz⟩
  obtain rfl : W2 = Z := hz.symm
  clear hz
  go_wp2_with fail
  refine ha1.out.mono ?_
  rintro e W3 ⟨rfl, hT3, hS3⟩
  have hF3 := hF2.out.trans hT3
  obtain ⟨W4, hW4⟩ : ∃ W4, Hid (W3.alloc (.cells #[.int .i64 1, .int .i64 1] 35) = W4) := ⟨_, rfl⟩
  have hB4 : Below W3.heap.size W3 W4 := by rw [← hW4.out]; exact (Below.refl _ W3).alloc (Nat.le_refl _) _
  have za : W4.heap[W3.heap.size]? = some (.cells #[.int .i64 1, .int .i64 1] 35 (0, 0)) := by rw [← hW4.out]; exact heap_alloc_new W3 _
  have hl3 : lo ≤ W3.heap.size := Nat.le_trans hl2.out hT3.size
  have hF4 : Hid (FT lo w W4) := hF3.trans (FT.of_below hB4 hl3)
  have hg := hid_of (live_g1 (hS3.under hB4))
  have hS4 := hid_of (hS3.under hB4)
  have x0 : W4.cell? ⟨W3.heap.size, 0, none⟩ = some (.int .i64 1) := cell_of za rfl
  have x1 : W4.cell? ⟨W3.heap.size, 1, none⟩ = some (.int .i64 1) := cell_of za rfl
  have hl4 : Hid (lo ≤ W4.heap.size) := Nat.le_trans hl3 hB4.size
  replace za := hid_of za
  clear ha1 hF2 hl2 hT3 hS3 hF3 hB4 hl3
  go_wp2_with (rw [hW4.out])
  refine hg.out.mono ?_
  rintro e W5 ⟨rfl, hB5⟩
  have hS5 := hS4.out.under hB5
  have hF5 : Hid (FT lo w W5) := hF4.out.trans (FT.of_below hB5 hl4.out)
  have hl5 : Hid (lo ≤ W5.heap.size) := Nat.le_trans hl4.out hB5.size
  have za5 : Hid (W5.heap[W3.heap.size]? = some (.cells #[.int .i64 1, .int .i64 1] 35 (0, 0))) := (hB5.block _ (Array.getElem?_eq_some_iff.1 za.out).1).trans za.out
  have ha2 := hid_of (live_a2 hS5 hl5.out)
  clear hg hB5 hS4 hS5 hF4 hl4 za x0 x1 hW4
  go_wp2_with fail
  refine ha2.out.mono ?_
  rintro e W6 ⟨rfl, hT6, hS6⟩
  obtain ⟨W7, hW7⟩ : ∃ W7, Hid (W6.alloc (.cells #[.int .i64 0, .int .i64 0] 35) = W7) := ⟨_, rfl⟩
  have hB7 : Below W6.heap.size W6 W7 := by rw [← hW7.out]; exact (Below.refl _ W6).alloc (Nat.le_refl _) _
  have hl6 : lo ≤ W6.heap.size := Nat.le_trans hl5.out hT6.size
  have hT57 : FT lo W5 W7 := hT6.trans (FT.of_below hB7 hl6)
  have za7 := hT57.cold _ _ za5.out rfl
  have x0 : W7.cell? ⟨W3.heap.size, 0, none⟩ = some (.int .i64 1) := cell_of za7 rfl
  have x1 : W7.cell? ⟨W3.heap.size, 1, none⟩ = some (.int .i64 1) := cell_of za7 rfl
  have hl7 : Hid (lo ≤ W7.heap.size) := Nat.le_trans hl6 hB7.size
  have hfr := hid_of (live_f (hS6.under hB7) hl7.out)
  have hF7 : Hid (FT lo w W7) := hF5.out.trans hT57
  replace za7 := hid_of za7
  clear ha2 hT6 hS6 hB7 hl6 hT57 za5 hF5 hl5
  go_upto_region 7 with fail
  rw [hW7.out]
  go_wp2_with fail
  refine hfr.out.mono ?_
  rintro e W8 ⟨rfl, hT8, hS8⟩
  have hl8 : Hid (lo ≤ W8.heap.size) := Nat.le_trans hl7.out hT8.size
  have ha3 := hid_of (live_a3 hS8 hl8.out)
  have hF8 : Hid (FT lo w W8) := hF7.out.trans hT8
  have za8 : Hid (W8.heap[W3.heap.size]? = some (.cells #[.int .i64 1, .int .i64 1] 35 (0, 0))) := hT8.cold _ _ za7.out rfl
  clear hfr hT8 hS8 hF7 hl7 za7 x0 x1 hW7
  go_wp2_with fail
  refine ha3.out.mono ?_
  rintro e W9 ⟨rfl, hT9, hS9⟩
  obtain ⟨V1, hV1⟩ : ∃ V1, Hid (W9.alloc (.cells #[.int .i64 1, .int .i64 2] 35) = V1) := ⟨_, rfl⟩
  have hBv : Below W9.heap.size W9 V1 := by rw [← hV1.out]; exact (Below.refl _ W9).alloc (Nat.le_refl _) _
  have zb : V1.heap[W9.heap.size]? = some (.cells #[.int .i64 1, .int .i64 2] 35 (0, 0)) := by rw [← hV1.out]; exact heap_alloc_new W9 _
  have hl9 : lo ≤ W9.heap.size := Nat.le_trans hl8.out hT9.size
  have hT8v : FT lo W8 V1 := hT9.trans (FT.of_below hBv hl9)
  have zav := hT8v.cold _ _ za8.out rfl
  have x0 : V1.cell? ⟨W3.heap.size, 0, none⟩ = some (.int .i64 1) := cell_of zav rfl
  have x1 : V1.cell? ⟨W3.heap.size, 1, none⟩ = some (.int .i64 1) := cell_of zav rfl
  have hSv := hS9.under hBv
  have hg2 := hid_of (live_g2 hSv)
  have hFv : Hid (FT lo w V1) := hF8.out.trans hT8v
  have hlv : Hid (lo ≤ V1.heap.size) := Nat.le_trans hl9 hBv.size
  replace zav := hid_of zav
  replace zb := hid_of zb
  replace hSv := hid_of hSv
  clear ha3 hT9 hS9 hBv hl9 hT8v za8 hF8 hl8
  go_wp2_with (rw [hV1.out])
  refine hg2.out.mono ?_
  rintro e V2 ⟨rfl, hB2⟩
  have hS2 := hSv.out.under hB2
  have y0 : V2.cell? ⟨W9.heap.size, 0, none⟩ = some (.int .i64 1) := stay hB2 (cell_of zb.out rfl)
  have y1 : V2.cell? ⟨W9.heap.size, 1, none⟩ = some (.int .i64 2) := stay hB2 (cell_of zb.out rfl)
  have hg3 := hid_of (live_g3 hS2)
  have w0 := hid_of (stay hB2 x0)
  have w1 := hid_of (stay hB2 x1)
  have hF2 : Hid (FT lo w V2) := hFv.out.trans (FT.of_below hB2 hlv.out)
  have hl2 : Hid (lo ≤ V2.heap.size) := Nat.le_trans hlv.out hB2.size
  clear hg2 hB2 hSv hS2 zav zb x0 x1 hFv hlv hV1
  go_wp2_with fail
  refine hg3.out.mono ?_
  rintro e V3 ⟨rfl, hB3⟩
  have q0 := stay hB3 y0
  have q1 := stay hB3 y1
  have q2 := stay hB3 w0.out
  have q3 := stay hB3 w1.out
  have hfin : Hid (Below lo w V3) := (hF2.out.trans (FT.of_below hB3 hl2.out)).below
  have he1 := eq_ref 1 1 1 1
  have he2 := eq_ref 1 2 1 2
  simp only [decide_true, Bool.and_self] at he1 he2
  clear hg3 hB3 y0 y1 w0 w1 hF2 hl2
  go_wp2_with fail
  refine (hnum.out 0 V3).mono ?_
  rintro e Z ⟨rfl, hz⟩
  obtain rfl : V3 = Z := hz.symm
  clear hz
  go_wp2_with fail
  refine (hnum.out 5 V3).mono ?_
  rintro e Z ⟨rfl, hz⟩
  obtain rfl : V3 = Z := hz.symm
  clear hz
  go_wp2_with fail
  refine (hnum.out 0 V3).mono ?_
  rintro e Z ⟨rfl, hz⟩
  obtain rfl : V3 = Z := hz.symm
  clear hz
  go_wp2_with fail
  go_ret
  exact ⟨rfl, hfin.out⟩
end Go.Proofs.Ytaipgdnbaifhdaa
