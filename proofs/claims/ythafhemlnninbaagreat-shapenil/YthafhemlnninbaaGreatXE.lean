import Derived.Test.YthafhemlnninbaaGreatXC
import Derived.Test.YthafhemlnninbaaGreatXD
import Derived.Deep.RegionHeld3
/-! ShapeNil. -/
namespace Go.Proofs.YthafhemlnninbaaGreat.Tree
open Go Go.RowKit Go.Stab

theorem cb_less : ∀ (a b : List UInt8), (Lib.compareBytes a b < 0 ↔ Op.bytesLess a b = true) ∧ (Lib.compareBytes a b = 0 ↔ a = b)
  | [], [] => by simp [Lib.compareBytes, Op.bytesLess]
  | [], _ :: _ => by simp [Lib.compareBytes, Op.bytesLess]
  | _ :: _, [] => by simp [Lib.compareBytes, Op.bytesLess]
  | x :: a, y :: b => by
    obtain ⟨h1, h2⟩ := cb_less a b
    unfold Lib.compareBytes Op.bytesLess
    by_cases hx : x < y
    · have hne : x ≠ y := fun e => by subst e; exact absurd hx (UInt8.lt_irrefl x)
      simp [hx, hne]
    · by_cases hy : y < x
      · have hne : x ≠ y := fun e => by subst e; exact absurd hy (UInt8.lt_irrefl x)
        simp [hx, hy, hne]
      · have e : x = y := UInt8.le_antisymm (UInt8.not_lt.1 hy) (UInt8.not_lt.1 hx)
        subst e
        simp [hx]
        exact ⟨h1, h2⟩
theorem cmpS_range (a b : ByteArray) : cmpS a b = -1 ∨ cmpS a b = 0 ∨ cmpS a b = 1 := by rw [cmpS_lex]; exact lex_range _ _
theorem toList_data (a : ByteArray) : a.toList = a.data.toList := by rw [ByteArray.toList_eq]
set_option maxHeartbeats 4000000 in
set_option maxRecDepth 100000 in
theorem rcompare_nil (x y : Dc) (w : World) : Calls Tryz.prog 22 #[.slice none 0 0, .agg x.cells.toArray, .agg y.cells.toArray] w fun e w' => e = .returned (.int .i64 (cmpS x.id y.id)) ∧ Below w.heap.size w w' := by
  unfold Dc.cells
  have HB : ∀ o o', Below w.heap.size w ((w.alloc o).alloc o') := fun o o' => ((Below.refl _ w).alloc (Nat.le_refl _) o).alloc (by simp) o'
  replace HB := hid_e HB
  obtain ⟨h1, h2⟩ := cb_less x.id.data.toList y.id.data.toList
  rw [← toList_data, ← toList_data] at h1 h2
  have e0 : Lib.compareBytes x.id.toList y.id.toList = cmpS x.id y.id := by rw [toList_data, toList_data]; rfl
  rw [e0] at h1 h2
  clear e0
  rcases cmpS_range x.id y.id with hc | hc | hc
  · have hl : Op.bytesLess x.id.toList y.id.toList = true := h1.1 (by omega)
    rw [hc]
    clear h1 h2
    go_enter Tryz.func22, Tryz.ntmps22
    go_wp2_with fail
    refine wp_loop_rounds 1 ?_
    rw [rounds_succ]
    go_wp2_with fail
    go_ret
    exact ⟨rfl, HB.out _ _⟩
  · have hl : Op.bytesLess x.id.toList y.id.toList = false := by
      cases h : Op.bytesLess x.id.toList y.id.toList with
      | false => rfl
      | true => have := h1.2 h; omega
    have he : (x.id.toList == y.id.toList) = true := by rw [h2.1 hc]; simp
    rw [hc]
    clear h1 h2
    go_enter Tryz.func22, Tryz.ntmps22
    go_wp2_with fail
    refine wp_loop_rounds 1 ?_
    rw [rounds_succ]
    go_wp2_with fail
    go_ret
    exact ⟨rfl, HB.out _ _⟩
  · have hl : Op.bytesLess x.id.toList y.id.toList = false := by
      cases h : Op.bytesLess x.id.toList y.id.toList with
      | false => rfl
      | true => have := h1.2 h; omega
    have he : (x.id.toList == y.id.toList) = false := by
      cases h : (x.id.toList == y.id.toList) with
      | false => rfl
      | true => have := h2.2 (by simpa using h); omega
    rw [hc]
    clear h1 h2
    go_enter Tryz.func22, Tryz.ntmps22
    go_wp2_with fail
    refine wp_loop_rounds 1 ?_
    rw [rounds_succ]
    go_wp2_with fail
    go_ret
    exact ⟨rfl, HB.out _ _⟩
set_option maxHeartbeats 2000000 in
set_option maxRecDepth 100000 in
theorem apply_nil (k x : Int) (s : ByteArray) (an : Option Addr) (ln cn : Nat) (ai : Option Addr) (li ci : Nat) (w : World) : Calls Tryz.prog 11 #[.pointer none, .agg #[.int .i64 k, .int .i64 x, .string s, .slice an ln cn, .slice ai li ci]] w fun e w' => e = .returned (.agg #[.int .i64 k, .int .i64 x, .string s, .slice an ln cn, .slice ai li ci]) ∧ Below w.heap.size w w' := by
  have n1 := new1 w (.cells #[.int .i64 k, .int .i64 x, .string s, .slice an ln cn, .slice ai li ci] 25) (.cells #[.int .i64 0, .int .i64 0, .string ⟨#[]⟩, .slice none 0 0, .slice none 0 0] 25)
  have n2 := new2 w (.cells #[.int .i64 k, .int .i64 x, .string s, .slice an ln cn, .slice ai li ci] 25) (.cells #[.int .i64 0, .int .i64 0, .string ⟨#[]⟩, .slice none 0 0, .slice none 0 0] 25)
  have HB : Below w.heap.size w ((w.alloc (.cells #[.int .i64 k, .int .i64 x, .string s, .slice an ln cn, .slice ai li ci] 25)).alloc (.cells #[.int .i64 0, .int .i64 0, .string ⟨#[]⟩, .slice none 0 0, .slice none 0 0] 25)) := ((Below.refl _ w).alloc (Nat.le_refl _) _).alloc (by simp) _
  obtain ⟨X, hX⟩ : ∃ X, Hid ((w.alloc (.cells #[.int .i64 k, .int .i64 x, .string s, .slice an ln cn, .slice ai li ci] 25)).alloc (.cells #[.int .i64 0, .int .i64 0, .string ⟨#[]⟩, .slice none 0 0, .slice none 0 0] 25) = X) := ⟨_, rfl⟩
  rw [hX.out] at n1 n2 HB
  obtain ⟨a0, a1, a2, a3, a4, -⟩ := row_cells n1
  obtain ⟨b0, b1, b2, b3, b4, bf⟩ := row_cells n2
  have bf0 := bf 0; have bf1 := bf 1; have bf2 := bf 2; have bf3 := bf 3; have bf4 := bf 4
  have hr5 := put5_cells n2 (.int .i64 k) (.int .i64 x) (.string s) (.slice an ln cn) (.slice ai li ci)
  have r0 := hid_e (hr5 0); have r1 := hid_e (hr5 1); have r2 := hid_e (hr5 2); have r3 := hid_e (hr5 3); have r4 := hid_e (hr5 4)
  have hB5 := hid_e (HB.trans (put5_below (w := X) (g := w.heap.size + 1) (B := w.heap.size) (by omega) (.int .i64 k) (.int .i64 x) (.string s) (.slice an ln cn) (.slice ai li ci)))
  replace HB := hid_e HB
  clear hr5 bf n1 n2
  go_enter Tryz.func11, Tryz.ntmps11
  go_wp2_with (first | rw [hX.out] | fail)
  have r0 := r0.out; have r1 := r1.out; have r2 := r2.out; have r3 := r3.out; have r4 := r4.out
  refine bodyPost_ret (v := .agg #[.int .i64 k, .int .i64 x, .string s, .slice an ln cn, .slice ai li ci]) (by simp [results, Tryz.results11, go_sem, r0, r1, r2, r3, r4]) rfl ?_
  exact ⟨rfl, hB5.out⟩
set_option maxHeartbeats 2000000 in
set_option maxRecDepth 100000 in
theorem key_nil (k x : Int) (s : ByteArray) (an : Option Addr) (ln cn : Nat) (ai : Option Addr) (li ci : Nat) (w : World) : Calls Tryz.prog 12 #[.pointer none, .agg #[.int .i64 k, .int .i64 x, .string s, .slice an ln cn, .slice ai li ci], .int .i64 0] w fun e w' => e = .returned (.agg #[.int .i64 0, .int .i64 0, .string ⟨#[]⟩, .slice none 0 0, .slice none 0 0]) ∧ Below w.heap.size w w' := by
  have n2 := new2 w (.cells #[.int .i64 k, .int .i64 x, .string s, .slice an ln cn, .slice ai li ci] 25) (.cells #[.int .i64 0, .int .i64 0, .string ⟨#[]⟩, .slice none 0 0, .slice none 0 0] 25)
  have HB : Below w.heap.size w ((w.alloc (.cells #[.int .i64 k, .int .i64 x, .string s, .slice an ln cn, .slice ai li ci] 25)).alloc (.cells #[.int .i64 0, .int .i64 0, .string ⟨#[]⟩, .slice none 0 0, .slice none 0 0] 25)) := ((Below.refl _ w).alloc (Nat.le_refl _) _).alloc (by simp) _
  obtain ⟨X, hX⟩ : ∃ X, Hid ((w.alloc (.cells #[.int .i64 k, .int .i64 x, .string s, .slice an ln cn, .slice ai li ci] 25)).alloc (.cells #[.int .i64 0, .int .i64 0, .string ⟨#[]⟩, .slice none 0 0, .slice none 0 0] 25) = X) := ⟨_, rfl⟩
  rw [hX.out] at n2 HB
  obtain ⟨b0, b1, b2, b3, b4, bf⟩ := row_cells n2
  have bf0 := bf 0; have bf1 := bf 1; have bf2 := bf 2; have bf3 := bf 3; have bf4 := bf 4
  have hr5 := put5_cells n2 (.int .i64 0) (.int .i64 0) (.string ⟨#[]⟩) (.slice none 0 0) (.slice none 0 0)
  have r0 := hid_e (hr5 0); have r1 := hid_e (hr5 1); have r2 := hid_e (hr5 2); have r3 := hid_e (hr5 3); have r4 := hid_e (hr5 4)
  have hB5 := hid_e (HB.trans (put5_below (w := X) (g := w.heap.size + 1) (B := w.heap.size) (by omega) (.int .i64 0) (.int .i64 0) (.string ⟨#[]⟩) (.slice none 0 0) (.slice none 0 0)))
  replace HB := hid_e HB
  clear hr5 bf n2
  go_enter Tryz.func12, Tryz.ntmps12
  go_wp2_with (first | (go_at_call 33; refine (count_nil _).mono ?_; rintro e X1 ⟨rfl, rfl⟩) | rw [hX.out] | fail)
  have r0 := r0.out; have r1 := r1.out; have r2 := r2.out; have r3 := r3.out; have r4 := r4.out
  refine bodyPost_ret (v := .agg #[.int .i64 0, .int .i64 0, .string ⟨#[]⟩, .slice none 0 0, .slice none 0 0]) (by simp [results, Tryz.results12, go_sem, r0, r1, r2, r3, r4]) rfl ?_
  exact ⟨rfl, hB5.out⟩
end Go.Proofs.YthafhemlnninbaaGreat.Tree
