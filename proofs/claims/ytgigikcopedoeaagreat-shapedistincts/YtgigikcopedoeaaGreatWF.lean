import Derived.Test.YtgigikcopedoeaaGreatWE
import Derived.Test.YtgigikcopedoeaaGreatW5
import Derived.Test.YtgigikcopedoeaaGreatW7
/-! live. -/
namespace Go.Proofs.YtgigikcopedoeaaGreat
open Go Go.RowKit

theorem num_of_five {w : World} {b : Nat} {x : Int} (h : FiveAt w b (.int .i64 3) (.int .i64 x) (.string ⟨#[]⟩) (.slice none 0 0) (.slice none 0 0)) : NumAt w b 0 x := ⟨h.1, h.2.1, h.2.2.1, h.2.2.2.1, h.2.2.2.2⟩
/-- An object of the one name a, with a number. -/
theorem obj_num (x : Int) (w : World) : Calls Tryz.prog 28 #[.string ⟨#[97]⟩, .agg #[.int .i64 3, .int .i64 x, .string ⟨#[]⟩, .slice none 0 0, .slice none 0 0]] w fun e w' => Below w.heap.size w w' ∧ ∃ bn bi, e = .returned (.agg #[.int .i64 6, .int .i64 0, .string ⟨#[]⟩, .slice (some ⟨bn, 0, none⟩) 1 1, .slice (some ⟨bi, 0, none⟩) 1 1]) ∧ w'.cell? ⟨bn, 0, none⟩ = some (.string nameA) ∧ NumAt w' bi 0 x := by
  refine (object_any ⟨#[97]⟩ 3 x ⟨#[]⟩ none 0 0 none 0 0 w).mono ?_
  rintro e w' ⟨hb, bn, bi, rfl, _, _, h1, h2⟩
  exact ⟨hb, bn, bi, rfl, h1, num_of_five h2⟩
theorem field_names (w : World) : (Instr.field 25 (.agg #[.int .i64 6, .int .i64 0, .string ⟨#[]⟩, .slice none 0 0, .slice none 0 0]) 3).run Tryz.prog w = .ok (.slice none 0 0) w := by kernel_rfl
set_option maxHeartbeats 8000000 in
set_option maxRecDepth 100000 in
theorem live6 (w : World) : Calls Tryz.prog 9 #[] w fun e w' => e = .returned (.bool true) ∧ Below w.heap.size w w' := by
  go_enter Tryz.func9, Tryz.ntmps9
  go_wp2_with fail
  refine (number_any (-1) w).mono ?_
  rintro e A1 ⟨rfl, HB⟩
  unfold numV
  go_wp2_with fail
  refine (obj_num (-1) A1).mono ?_
  rintro e A2 ⟨q, bn, bi, rfl, hn, hI⟩
  replace HB := HB.trans (q.mono HB.size)
  clear q
  go_wp2_with fail
  refine (sort_a bn 1 bi 1 A2 hn hI).mono ?_
  rintro e A3 ⟨q, sb, rfl, hT⟩
  replace HB := HB.trans (q.mono HB.size)
  clear q hn hI
  go_wp2_with fail
  refine (number_any 0 A3).mono ?_
  rintro e A4 ⟨rfl, q⟩
  replace HB := HB.trans (q.mono HB.size)
  replace hT := hT.keep q
  clear q
  unfold numV
  go_wp2_with fail
  refine (obj_num 0 A4).mono ?_
  rintro e A5 ⟨q, bn, bi, rfl, hn, hI⟩
  replace HB := HB.trans (q.mono HB.size)
  replace hT := hT.keep q
  clear q
  go_wp2_with fail
  refine (fields_a bn 1 bi 1 A5 hn hI).mono ?_
  rintro e A6 ⟨q, fb, rfl, hF⟩
  replace HB := HB.trans (q.mono HB.size)
  replace hT := hT.keep q
  clear q hn hI
  go_wp2_with (go_at_call 19; refine (num6 0 _).mono ?_; rintro e A7 ⟨rfl, hw⟩; subst hw)
  refine (number_any 1 A7).mono ?_
  rintro e A8 ⟨rfl, q⟩
  replace HB := HB.trans (q.mono HB.size)
  replace hT := hT.keep q
  replace hF := hF.keep q
  clear q
  unfold numV
  go_wp2_with fail
  refine (obj_num 1 A8).mono ?_
  rintro e A9 ⟨q, bn1, bi1, rfl, hn1, hI1⟩
  replace HB := HB.trans (q.mono HB.size)
  replace hT := hT.keep q
  replace hF := hF.keep q
  clear q
  go_wp2_with fail
  refine (number_any 2 A9).mono ?_
  rintro e A10 ⟨rfl, q⟩
  replace HB := HB.trans (q.mono HB.size)
  replace hT := hT.keep q
  replace hF := hF.keep q
  replace hn1 := stay q hn1
  replace hI1 := hI1.keep q
  clear q
  unfold numV
  go_wp2_with fail
  refine (obj_num 2 A10).mono ?_
  rintro e A11 ⟨q, bn2, bi2, rfl, hn2, hI2⟩
  replace HB := HB.trans (q.mono HB.size)
  replace hT := hT.keep q
  replace hF := hF.keep q
  replace hn1 := stay q hn1
  replace hI1 := hI1.keep q
  clear q
  have hL := heap_alloc_new A11 (.cells #[.string ⟨#[120]⟩, .int .i64 0, .int .i64 6, .int .i64 0, .string ⟨#[]⟩, .slice (some ⟨bn1, 0, none⟩) 1 1, .slice (some ⟨bi1, 0, none⟩) 1 1, .string ⟨#[121]⟩, .int .i64 0, .int .i64 6, .int .i64 0, .string ⟨#[]⟩, .slice (some ⟨bn2, 0, none⟩) 1 1, .slice (some ⟨bi2, 0, none⟩) 1 1] 50)
  have q : Below A11.heap.size A11 (A11.alloc (.cells #[.string ⟨#[120]⟩, .int .i64 0, .int .i64 6, .int .i64 0, .string ⟨#[]⟩, .slice (some ⟨bn1, 0, none⟩) 1 1, .slice (some ⟨bi1, 0, none⟩) 1 1, .string ⟨#[121]⟩, .int .i64 0, .int .i64 6, .int .i64 0, .string ⟨#[]⟩, .slice (some ⟨bn2, 0, none⟩) 1 1, .slice (some ⟨bi2, 0, none⟩) 1 1] 50)) := (Below.refl _ A11).alloc (Nat.le_refl _) _
  replace HB := HB.trans (q.mono HB.size)
  replace hT := hT.keep q
  replace hF := hF.keep q
  replace hn1 := stay q hn1
  replace hI1 := hI1.keep q
  replace hn2 := stay q hn2
  replace hI2 := hI2.keep q
  go_wp2_with fail
  generalize A11.alloc (.cells #[.string ⟨#[120]⟩, .int .i64 0, .int .i64 6, .int .i64 0, .string ⟨#[]⟩, .slice (some ⟨bn1, 0, none⟩) 1 1, .slice (some ⟨bi1, 0, none⟩) 1 1, .string ⟨#[121]⟩, .int .i64 0, .int .i64 6, .int .i64 0, .string ⟨#[]⟩, .slice (some ⟨bn2, 0, none⟩) 1 1, .slice (some ⟨bi2, 0, none⟩) 1 1] 50) = A12 at hL HB hT hF hn1 hI1 hn2 hI2 q ⊢
  clear q
  refine (order_k sb A11.heap.size ⟨#[120]⟩ bn1 1 bi1 1 ⟨#[121]⟩ bn2 1 bi2 1 A12 hT hL hn1 hI1 hn2 hI2).mono ?_
  rintro e A13 ⟨q, ob, rfl, d0, d1, d2, d3, d4, d5, d6, t⟩
  replace HB := HB.trans (q.mono HB.size)
  replace hF := hF.keep q
  replace hn2 := stay q hn2
  replace hI2 := hI2.keep q
  clear q hT hL hn1 hI1
  obtain ⟨tb, hF1, hF2⟩ := hF
  have hap := hid_of (apply_a fb tb bn2 1 bi2 1 2 A13 ⟨hF1, hF2⟩ hn2 hI2)
  unfold objV emptyV at hap
  have c0 : A13.cell? ⟨ob, 0, none⟩ = some (.string ⟨#[121]⟩) := by simp [World.cell?, t]
  have c2 : A13.cell? ⟨ob, 2, none⟩ = some (.int .i64 6) := by simp [World.cell?, t]
  have c3 : A13.cell? ⟨ob, 3, none⟩ = some (.int .i64 0) := by simp [World.cell?, t]
  have c4 : A13.cell? ⟨ob, 4, none⟩ = some (.string ⟨#[]⟩) := by simp [World.cell?, t]
  have c5 : A13.cell? ⟨ob, 5, none⟩ = some (.slice (some ⟨bn2, 0, none⟩) 1 1) := by simp [World.cell?, t]
  have c6 : A13.cell? ⟨ob, 6, none⟩ = some (.slice (some ⟨bi2, 0, none⟩) 1 1) := by simp [World.cell?, t]
  clear t hF1 hF2 hn2 hI2
  have hfl := field_names
  go_wp2_with (go_at_call 11; refine hap.out.mono ?_; rintro e A14 ⟨rfl, q⟩)
  go_ret
  exact ⟨rfl, HB.trans (q.mono HB.size)⟩
end Go.Proofs.YtgigikcopedoeaaGreat
