import Derived.Test.YtgigikcopedoeaaGreatW8
import Derived.Test.YtgigikcopedoeaaGreatW3
/-! The key of a document. -/
namespace Go.Proofs.YtgigikcopedoeaaGreat
open Go Go.RowKit

theorem vals_any (a : Option Addr) (len cap : Nat) (w : World) : Calls Tryz.prog 89 #[.slice a len cap] w fun e w' => e = .returned (.func (.func 118) #[] #[.pointer (some ⟨w.heap.size, 0, none⟩)]) ∧ w' = w.alloc (.cells #[.slice a len cap] 23) := by
  go_enter Tryz.func89, Tryz.ntmps89
  go_wp2
  go_ret
  exact ⟨rfl, rfl⟩
theorem least_one (g c : Nat) (x : Int) (w : World) (hN : NumAt w g 0 x) : Calls Tryz.prog 56 #[.slice (some ⟨g, 0, none⟩) 1 c] w fun e w' => e = .returned (.tuple #[.int .i64 0, .bool true]) ∧ Below w.heap.size w w' := by
  have HB : Below w.heap.size w (w.alloc (.cells #[.slice (some ⟨g, 0, none⟩) 1 c] 23)) := (Below.refl _ w).alloc (Nat.le_refl _) _
  have hc := hid_of (chosen_one 90 w.heap.size g c x _ (cell_of_one (heap_alloc_new w (.cells #[.slice (some ⟨g, 0, none⟩) 1 c] 23))) (hN.keep HB))
  go_enter Tryz.func56, Tryz.ntmps56
  go_wp2_with (first | (go_at_call 89; refine (vals_any _ _ _ _).mono ?_; rintro e w1 ⟨rfl, rfl⟩) | (go_at_call 88; refine hc.out.mono ?_; rintro e w2 ⟨rfl, hb⟩; replace hb := hid_of hb))
  go_ret2
  exact ⟨rfl, HB.trans (hb.out.mono HB.size)⟩
theorem greatest_one (g c : Nat) (x : Int) (w : World) (hN : NumAt w g 0 x) : Calls Tryz.prog 57 #[.slice (some ⟨g, 0, none⟩) 1 c] w fun e w' => e = .returned (.tuple #[.int .i64 0, .bool true]) ∧ Below w.heap.size w w' := by
  have HB : Below w.heap.size w (w.alloc (.cells #[.slice (some ⟨g, 0, none⟩) 1 c] 23)) := (Below.refl _ w).alloc (Nat.le_refl _) _
  have hc := hid_of (chosen_one 91 w.heap.size g c x _ (cell_of_one (heap_alloc_new w (.cells #[.slice (some ⟨g, 0, none⟩) 1 c] 23))) (hN.keep HB))
  go_enter Tryz.func57, Tryz.ntmps57
  go_wp2_with (first | (go_at_call 89; refine (vals_any _ _ _ _).mono ?_; rintro e w1 ⟨rfl, rfl⟩) | (go_at_call 88; refine hc.out.mono ?_; rintro e w2 ⟨rfl, hb⟩; replace hb := hid_of hb))
  go_ret2
  exact ⟨rfl, HB.trans (hb.out.mono HB.size)⟩
theorem count_a (sb : Nat) (w : World) (hT : TurnsAt w sb) : Calls Tryz.prog 33 #[.pointer (some ⟨sb, 0, none⟩)] w fun e w' => e = .returned (.int .i64 1) ∧ w' = w := by
  obtain ⟨g, cg, bp, cp, h1, h2, h3, h4⟩ := hT
  have hc : w.cell? ⟨sb, 0, none⟩ = some (.slice (some ⟨g, 0, none⟩) 1 cg) := by unfold SortAt at h1; simp [World.cell?, h1]
  clear h1 h2 h3 h4
  go_enter Tryz.func33, Tryz.ntmps33
  go_wp2
  go_ret
  exact ⟨rfl, rfl⟩
theorem turned_a (a : Option Addr) (n c : Nat) (w : World) : Calls Tryz.prog 60 #[.agg #[.slice a n c, .bool true], .int .i64 1] w fun e w' => e = .returned (.int .i64 (-1)) ∧ Below w.heap.size w w' := by
  go_enter Tryz.func60, Tryz.ntmps60
  go_wp2
  go_ret
  exact ⟨rfl, (Below.refl _ w).alloc (Nat.le_refl _) _⟩
set_option maxHeartbeats 2000000 in
set_option maxRecDepth 100000 in
theorem laid_one (g c : Nat) (x : Int) (w : World) (hN : NumAt w g 0 x) : Calls Tryz.prog 46 #[.slice none 0 0, .slice (some ⟨g, 0, none⟩) 1 c] w fun e w' => Below w.heap.size w w' ∧ ∃ g' c', e = .returned (.slice (some ⟨g', 0, none⟩) 1 c') ∧ NumAt w' g' 0 x := by
  obtain ⟨z0, z1, z2, z3, z4⟩ := hN
  simp only [Nat.zero_add] at z1 z2 z3 z4
  obtain ⟨i5, hi5, hz0, hz1, hz2⟩ := info_parts AV
  go_enter Tryz.func46, Tryz.ntmps46
  go_wp2_with fail
  refine wp_loop_rounds 2 ?_
  rw [rounds_succ]
  go_wp2_with (at_builtin; refine wpList_append_lies _ rfl _ _ 23 rfl w.heap.size 25 i5 _ 5 80 Tryz.underlying23 hi5 hz0 hz1 hz2 rfl (by decide) _ 0 ([] : List Value) rfl (World.ownsRow_nil _ _ _ _) _ 1 1 [.int .i64 3, .int .i64 x, .string ⟨#[]⟩, .slice none 0 0, .slice none 0 0] rfl rfl (World.news_of_block (heap_new' (by simp))) (by simp [Value.oneCell']) (by decide) (by unfold maxLen; omega) (by omega) (by simp; omega) _ rfl ?_; intro g4 cap w4 hown4 hgrow4 hat4 hlt4)
  rw [rounds_succ]
  go_wp2_with fail
  go_ret
  refine ⟨?_, g4, cap, rfl, ?_⟩
  · refine Below.trans ?_ (grown_below hgrow4 (by simp; omega) (fun g hg => by cases hg))
    repeat (first | exact Below.refl _ _ | refine below_drewN ?_ _ | refine below_drew ?_ | (refine Below.alloc ?_ ?_ _; (rotate_left; (simp <;> omega))))
  · exact ⟨hown4.cellAt 0 (by omega), hown4.cellAt 1 (by omega), hown4.cellAt 2 (by omega), hown4.cellAt 3 (by omega), hown4.cellAt 4 (by omega)⟩
end Go.Proofs.YtgigikcopedoeaaGreat
