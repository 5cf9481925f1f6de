import Derived.Test.YthijpmomcompaaaDoorL4
/-! live: FromBytes, Compare, and live itself. -/
namespace Go.Proofs.YthijpmomcompaaaDoor
open Go Go.RowKit

theorem row_bytes {w : World} {lo : Nat} {v : Value} {n : Nat} {xs : List Value} (h : w.ownsRow lo 5 1 v n xs) (h0 : 0 < n) : ∃ g cap, v = .slice (some ⟨g, 0, none⟩) n cap ∧ n ≤ cap ∧ cap ≤ maxLen ∧ lo ≤ g ∧ g < w.heap.size ∧ ∀ j, j < n → w.cell? ⟨g, j, none⟩ = xs[j]? := by
  obtain ⟨h1, h2⟩ := h
  rcases h2 with ⟨_, h3⟩ | ⟨g, cap, cur, rfl, hg, hh, hc, hm, hs, hr⟩
  · omega
  · refine ⟨g, cap, rfl, hc, hm, hg, (Array.getElem?_eq_some_iff.1 hh).1, fun j hj => ?_⟩
    rw [← hr, List.getElem?_take_of_lt (by omega), Array.getElem?_toList]
    simp [World.cell?, hh]
set_option maxHeartbeats 4000000 in
set_option maxRecDepth 100000 in
theorem from1 (g cap : Nat) (w : World) (hc : 9 ≤ cap) (hg : g < w.heap.size) (hB : Hid (∀ j, j < 9 → w.cell? ⟨g, j, none⟩ = (.int .u8 16 :: num1)[j]?)) :
    Calls Tryd.prog 25 #[.slice (some ⟨g, 0, none⟩) 9 cap] w fun e w' => e = .returned (.tuple #[.agg #[.int .i64 3, .int .i64 1, .string ⟨#[]⟩, .slice none 0 0, .slice none 0 0], .int .i64 0, .int .i64 0]) ∧ Below w.heap.size w w' := by
  go_enter Tryd.func25, Tryd.ntmps25
  go_wp2_with fail
  have hb1 : Below w.heap.size w ((w.alloc (.cells #[.int .i64 0, .int .i64 0, .string ⟨#[]⟩, .slice none 0 0, .slice none 0 0] 31)).alloc (.cells #[.slice (some ⟨g, 0, none⟩) 9 cap, .int .i64 0] 59)) := ((Below.refl _ w).alloc (Nat.le_refl _) _).alloc (by simp) _
  have n1 := new1 w (.cells #[.int .i64 0, .int .i64 0, .string ⟨#[]⟩, .slice none 0 0, .slice none 0 0] 31) (.cells #[.slice (some ⟨g, 0, none⟩) 9 cap, .int .i64 0] 59)
  have n2 := new2 w (.cells #[.int .i64 0, .int .i64 0, .string ⟨#[]⟩, .slice none 0 0, .slice none 0 0] 31) (.cells #[.slice (some ⟨g, 0, none⟩) 9 cap, .int .i64 0] 59)
  generalize (w.alloc (.cells #[.int .i64 0, .int .i64 0, .string ⟨#[]⟩, .slice none 0 0, .slice none 0 0] 31)).alloc (.cells #[.slice (some ⟨g, 0, none⟩) 9 cap, .int .i64 0] 59) = X at hb1 n1 n2
  refine (value1 (w.heap.size + 1) g cap X n2 hc (by omega) (hid_e (fun j hj => (hb1.cell (p := ⟨g, j, none⟩) hg).trans (hB.out j hj)))).mono ?_
  rintro e Y ⟨rfl, hgr, m2⟩
  have hX1 : w.heap.size + 1 < X.heap.size := (Array.getElem?_eq_some_iff.1 n2).1
  have m1 := (hgr.block w.heap.size (by omega) (by simp)).trans n1
  have hbY : Below w.heap.size w Y := hb1.trans (grown_below hgr hb1.size (fun g hg => by cases hg; omega))
  clear hb1 n1 n2 hB
  have hY1 : w.heap.size + 1 < Y.heap.size := (Array.getElem?_eq_some_iff.1 m2).1
  clear hX1 hgr
  have q1 := (Below.heap_alloc Y (.cells #[.int .i64 3, .int .i64 1, .string ⟨#[]⟩, .slice none 0 0, .slice none 0 0] 31) w.heap.size (by omega)).trans m1
  have q2 := (Below.heap_alloc Y (.cells #[.int .i64 3, .int .i64 1, .string ⟨#[]⟩, .slice none 0 0, .slice none 0 0] 31) (w.heap.size + 1) (by omega)).trans m2
  obtain ⟨z0, z1, z2, z3, z4, zf⟩ := row_cells q1
  have zf0 := zf 0; have zf1 := zf 1; have zf2 := zf 2; have zf3 := zf 3; have zf4 := zf 4
  obtain ⟨-, u1, -⟩ := two_cells q2
  clear zf
  have hbZ := hbY.alloc hbY.size (.cells #[.int .i64 3, .int .i64 1, .string ⟨#[]⟩, .slice none 0 0, .slice none 0 0] 31)
  go_wp2_with fail
  have hr5 := put5_cells q1 (.int .i64 3) (.int .i64 1) (.string ⟨#[]⟩) (.slice none 0 0) (.slice none 0 0)
  have r0 := hr5 0; have r1 := hr5 1; have r2 := hr5 2; have r3 := hr5 3; have r4 := hr5 4
  clear hr5
  refine bodyPost_ret (v := .tuple #[.agg #[.int .i64 3, .int .i64 1, .string ⟨#[]⟩, .slice none 0 0, .slice none 0 0], .int .i64 0, .int .i64 0]) (by simp [results, Tryd.results25, go_sem, r0, r1, r2, r3, r4]) rfl ?_
  exact ⟨rfl, hbZ.trans (put5_below (Nat.le_refl _) _ _ _ _ _)⟩
end Go.Proofs.YthijpmomcompaaaDoor
