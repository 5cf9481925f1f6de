import Derived.Test.YthijpmomcompaaaDoorL5
import Derived.Test.YthijpmomcompaaaDoorK4
/-! live. -/
namespace Go.Proofs.YthijpmomcompaaaDoor
open Go Go.RowKit

set_option maxHeartbeats 1000000 in
theorem num_any (x : Int) (w : World) : Calls Tryd.prog 26 #[.int .i64 x] w fun e w' => e = .returned (.int .i64 x) ∧ w' = w := by
  go_enter Tryd.func26, Tryd.ntmps26
  go_wp2_with fail
  go_ret
  exact ⟨rfl, rfl⟩
def oneT : Tr := .node 3 1 ⟨#[]⟩ [] []
def nullT : Tr := .node 0 0 ⟨#[]⟩ [] []
theorem flat_rep (k x : Int) (w : World) : VRep w (.node k x ⟨#[]⟩ [] []) [.int .i64 k, .int .i64 x, .string ⟨#[]⟩, .slice none 0 0, .slice none 0 0] := by
  unfold VRep
  exact ⟨.slice none 0 0, none, 0, rfl, ⟨none, 0, rfl, ⟨Nat.le_refl _, by omega⟩, .inl rfl⟩, ⟨Nat.le_refl _, by omega⟩, .inl rfl⟩
theorem flat_below (k x : Int) : Below1 (.node k x ⟨#[]⟩ [] []) := by
  unfold Below1 Below1L
  exact ⟨by simp, trivial⟩
theorem live_cmp (w : World) : Calls Tryd.prog 19 #[.agg #[.int .i64 3, .int .i64 1, .string ⟨#[]⟩, .slice none 0 0, .slice none 0 0], .agg #[.int .i64 0, .int .i64 0, .string ⟨#[]⟩, .slice none 0 0, .slice none 0 0]] w fun e w' => e = .returned (.int .i64 1) ∧ Below w.heap.size w w' := by
  have := compare_any (.node 3 1 ⟨#[]⟩ [] []) (.node 0 0 ⟨#[]⟩ [] []) _ _ w (flat_rep 3 1 w) (flat_rep 0 0 w) (flat_below 3 1) (flat_below 0 0)
  rw [show cmpT (.node 3 1 ⟨#[]⟩ [] []) (.node 0 0 ⟨#[]⟩ [] []) = 1 by unfold cmpT; rw [show cmpI (rankZ 3) (rankZ 0) = 1 by decide, if_pos (by decide)]] at this
  exact this
theorem live_eq (w : World) : Calls Tryd.prog 23 #[.agg #[.int .i64 3, .int .i64 1, .string ⟨#[]⟩, .slice none 0 0, .slice none 0 0], .agg #[.int .i64 3, .int .i64 1, .string ⟨#[]⟩, .slice none 0 0, .slice none 0 0]] w fun e w' => e = .returned (.bool true) ∧ Below w.heap.size w w' :=
  equal_same (.node 3 1 ⟨#[]⟩ [] []) _ _ w (flat_rep 3 1 w) (flat_rep 3 1 w)
set_option maxHeartbeats 4000000 in
set_option maxRecDepth 100000 in
theorem live_true (w : World) : Calls Tryd.prog 13 #[] w fun e w' => e = .returned (.bool true) ∧ Below w.heap.size w w' := by
  go_enter Tryd.func13, Tryd.ntmps13
  go_wp2_with fail
  refine (bytes1 _).mono ?_
  rintro e w1 ⟨v', rfl, hown, hb1⟩
  rw [World.size_alloc] at hown
  obtain ⟨g, cap, rfl, hc, -, hg, hgl, hB⟩ := row_bytes hown (by omega)
  replace hB := hid_e hB
  clear hown
  have y0 : w1.cell? ⟨w.heap.size, 0, none⟩ = some (.int .i64 3) := box_cells hb1 0
  have y1 : w1.cell? ⟨w.heap.size, 1, none⟩ = some (.int .i64 1) := box_cells hb1 1
  have y2 : w1.cell? ⟨w.heap.size, 2, none⟩ = some (.string ⟨#[]⟩) := box_cells hb1 2
  have y3 : w1.cell? ⟨w.heap.size, 3, none⟩ = some (.slice none 0 0) := box_cells hb1 3
  have y4 : w1.cell? ⟨w.heap.size, 4, none⟩ = some (.slice none 0 0) := box_cells hb1 4
  have hbw1 : Below w.heap.size w w1 := below_box hb1
  clear hb1
  go_wp2_with fail
  refine (from1 g cap w1 hc hgl hB).mono ?_
  rintro e w2 ⟨rfl, hb2⟩
  have hbw2 : Below w.heap.size w w2 := hbw1.trans (hb2.mono hbw1.size)
  have x0 := fun o => cell_alloc' (stay hb2 y0) o
  have x1 := fun o => cell_alloc' (stay hb2 y1) o
  have x2 := fun o => cell_alloc' (stay hb2 y2) o
  have x3 := fun o => cell_alloc' (stay hb2 y3) o
  have x4 := fun o => cell_alloc' (stay hb2 y4) o
  clear hB hb2 hbw1 y0 y1 y2 y3 y4
  go_wp2_with fail
  refine (live_cmp _).mono ?_
  rintro e w3 ⟨rfl, hb3⟩
  have u0 : w3.cell? ⟨w2.heap.size, 0, none⟩ = some (.int .i64 3) := box_cells hb3 0
  have u1 : w3.cell? ⟨w2.heap.size, 1, none⟩ = some (.int .i64 1) := box_cells hb3 1
  have u2 : w3.cell? ⟨w2.heap.size, 2, none⟩ = some (.string ⟨#[]⟩) := box_cells hb3 2
  have u3 : w3.cell? ⟨w2.heap.size, 3, none⟩ = some (.slice none 0 0) := box_cells hb3 3
  have u4 : w3.cell? ⟨w2.heap.size, 4, none⟩ = some (.slice none 0 0) := box_cells hb3 4
  have v0 := stay hb3 (x0 _)
  have v1 := stay hb3 (x1 _)
  have v2 := stay hb3 (x2 _)
  have v3 := stay hb3 (x3 _)
  have v4 := stay hb3 (x4 _)
  have hbw3 : Below w.heap.size w w3 := hbw2.trans ((below_box hb3).mono hbw2.size)
  clear x0 x1 x2 x3 x4 hb3 hbw2
  go_wp2_with (go_at_call 26; refine (num_any _ _).mono ?_; rintro e w' ⟨rfl, rfl⟩)
  refine (live_eq _).mono ?_
  rintro e w4 ⟨rfl, hb4⟩
  go_wp2_with fail
  go_ret
  exact ⟨rfl, hbw3.trans (hb4.mono hbw3.size)⟩
end Go.Proofs.YthijpmomcompaaaDoor
