import Derived.Test.YthijpmomcompaaaDoorL3
/-! live: the bytes of the number one are read. -/
namespace Go.Proofs.YthijpmomcompaaaDoor
open Go Go.RowKit

theorem two_cells {w : World} {B : Nat} {c0 c1 : Value} {t : TypeId} (h : w.heap[B]? = some (.cells #[c0, c1] t (0, 0))) : w.cell? ⟨B, 0, none⟩ = some c0 ∧ w.cell? ⟨B, 1, none⟩ = some c1 ∧ ∀ j, w.frozen? ⟨B, j, none⟩ = false := by
  refine ⟨by simp [World.cell?, h], by simp [World.cell?, h], fun j => by simp [World.frozen?, h]⟩
set_option maxHeartbeats 1000000 in
set_option maxRecDepth 100000 in
theorem of_any (x : Int) (w : World) : Calls Tryd.prog 64 #[.int .i64 x] w fun e w' => e = .returned (.agg #[.int .i64 3, .int .i64 x, .string ⟨#[]⟩, .slice none 0 0, .slice none 0 0]) ∧ w' = w.alloc (.cells #[.int .i64 3, .int .i64 x, .string ⟨#[]⟩, .slice none 0 0, .slice none 0 0] 31) := by
  go_enter Tryd.func64, Tryd.ntmps64
  go_wp2_with fail
  refine bodyPost_ret (v := .agg #[.int .i64 3, .int .i64 x, .string ⟨#[]⟩, .slice none 0 0, .slice none 0 0]) (by simp [results, Tryd.results64, go_sem]) rfl ?_
  exact ⟨rfl, rfl⟩
theorem grown_drewN {w w' : World} {r : Option Nat} (h : w.grownBy w' r) (m : Nat) : w.grownBy (w'.drewN m) r := ⟨h.os, h.tape, h.output, h.size, h.block⟩
def zeroO : Obj := .cells #[.int .i64 0, .int .i64 0, .string ⟨#[]⟩, .slice none 0 0, .slice none 0 0] 31
def high1 : List Int := [0, 128, 32768, 8388608, 2147483648, 549755813888, 140737488355328, 36028797018963968, 9223372036854775809]
set_option maxHeartbeats 4000000 in
set_option maxRecDepth 100000 in
theorem number1 (r g cap : Nat) (w : World) (hr : w.heap[r]? = some (.cells #[.slice (some ⟨g, 0, none⟩) 9 cap, .int .i64 1] 59 (0, 0))) (hc : 9 ≤ cap)
    (hB : Hid (∀ j, j < 8 → w.cell? ⟨g, 1 + j, none⟩ = num1[j]?)) :
    Calls Tryd.prog 54 #[.pointer (some ⟨r, 0, none⟩)] w fun e w' => e = .returned (.tuple #[.agg #[.int .i64 3, .int .i64 1, .string ⟨#[]⟩, .slice none 0 0, .slice none 0 0], .int .i64 0]) ∧ w.grownBy w' (some r) ∧ w'.heap[r]? = some (.cells #[.slice (some ⟨g, 0, none⟩) 9 cap, .int .i64 9] 59 (0, 0)) := by
  obtain ⟨y0, y1, yf⟩ := two_cells hr
  have hrl := lt_of_cell y0
  have x0 := fun o => cell_alloc' y0 o
  have x1 := fun o => cell_alloc' y1 o
  clear y0 y1
  go_enter Tryd.func54, Tryd.ntmps54
  go_wp2_with fail
  go_region
  go_wp2_with fail
  go_region
  go_wp2_with fail
  go_loopw [4, 36] (fun h i wr => ∃ (q m : Nat) (z : Int), q ≤ 8 ∧ i = .int .i64 q ∧ h = .int .u64 z ∧ high1[q]? = some z ∧ wr = (w.alloc (.cells #[.int .i64 0, .int .i64 0, .string ⟨#[]⟩, .slice none 0 0, .slice none 0 0] 31)).drewN m) (fun _ i _ => 8 - (intOf i).toNat)
  case atStart => exact ⟨0, 2, 0, by omega, rfl, rfl, rfl, rfl⟩
  case round =>
    obtain ⟨q, m, z, hq, rfl, rfl, hz, rfl⟩ := hrel
    by_cases h8 : q = 8
    · subst h8
      obtain rfl : z = 9223372036854775809 := by simpa [high1] using hz.symm
      have hm : w.grownBy ((w.alloc (.cells #[.int .i64 0, .int .i64 0, .string ⟨#[]⟩, .slice none 0 0, .slice none 0 0] 31)).drewN m) none := grown_drewN (World.grownBy_alloc w _ none) m
      have hn : ((w.alloc (.cells #[.int .i64 0, .int .i64 0, .string ⟨#[]⟩, .slice none 0 0, .slice none 0 0] 31)).drewN m).heap[w.heap.size]? = some (.cells #[.int .i64 0, .int .i64 0, .string ⟨#[]⟩, .slice none 0 0, .slice none 0 0] 31 (0, 0)) := heap_alloc_new w _
      generalize (w.alloc (.cells #[.int .i64 0, .int .i64 0, .string ⟨#[]⟩, .slice none 0 0, .slice none 0 0] 31)).drewN m = W at hm hn
      have hWr : W.heap[r]? = some (.cells #[.slice (some ⟨g, 0, none⟩) 9 cap, .int .i64 1] 59 (0, 0)) := (hm.block r hrl (by simp)).trans hr
      clear x0 x1 yf hB
      obtain ⟨y0, y1, yf⟩ := two_cells hWr
      have yf1 := yf 1
      clear yf y0
      go_wp2_with fail
      have hne : r ≠ w.heap.size := by omega
      have hs1 : (W.setCell ⟨r, 1, none⟩ (.int .i64 9)).heap[r]? = some (.cells #[.slice (some ⟨g, 0, none⟩) 9 cap, .int .i64 9] 59 (0, 0)) := by simp [World.setCell, Array.getElem?_modify, hWr]
      have hs2 : (W.setCell ⟨r, 1, none⟩ (.int .i64 9)).heap[w.heap.size]? = some (.cells #[.int .i64 0, .int .i64 0, .string ⟨#[]⟩, .slice none 0 0, .slice none 0 0] 31 (0, 0)) := (Below.heap_setCell _ _ _ _ (Ne.symm hne)).trans hn
      have hs3 : w.grownBy (W.setCell ⟨r, 1, none⟩ (.int .i64 9)) (some r) := ⟨hm.os, hm.tape, hm.output, by simpa [World.setCell] using hm.size, fun k hk hkr => (Below.heap_setCell _ _ _ _ (fun e => hkr (by rw [e]))).trans (hm.block k hk (by simp))⟩
      generalize W.setCell ⟨r, 1, none⟩ (.int .i64 9) = X at hs1 hs2 hs3
      clear hm hn hWr y1 yf1
      refine (of_any _ _).mono ?_
      rintro e w4 ⟨rfl, rfl⟩
      have hX := hs3.size
      have hXn : w.heap.size < X.heap.size := (Array.getElem?_eq_some_iff.1 hs2).1
      have t1 := (Below.heap_alloc X (.cells #[.int .i64 3, .int .i64 1, .string ⟨#[]⟩, .slice none 0 0, .slice none 0 0] 31) r (by omega)).trans hs1
      have t2 := (Below.heap_alloc X (.cells #[.int .i64 3, .int .i64 1, .string ⟨#[]⟩, .slice none 0 0, .slice none 0 0] 31) w.heap.size hXn).trans hs2
      have t3 : w.grownBy (X.alloc (.cells #[.int .i64 3, .int .i64 1, .string ⟨#[]⟩, .slice none 0 0, .slice none 0 0] 31)) (some r) := ⟨hs3.os, hs3.tape, hs3.output, by simp only [World.size_alloc]; omega, fun k hk hkr => (Below.heap_alloc X _ k (by omega)).trans (hs3.block k hk hkr)⟩
      generalize X.alloc (.cells #[.int .i64 3, .int .i64 1, .string ⟨#[]⟩, .slice none 0 0, .slice none 0 0] 31) = Y at t1 t2 t3
      clear hs1 hs2 hs3 hX hXn
      obtain ⟨z0, z1, z2, z3, z4, zf⟩ := row_cells t2
      have zf0 := zf 0; have zf1 := zf 1; have zf2 := zf 2; have zf3 := zf 3; have zf4 := zf 4
      clear zf
      go_wp2_with fail
      have hr5 := put5_cells t2 (.int .i64 3) (.int .i64 1) (.string ⟨#[]⟩) (.slice none 0 0) (.slice none 0 0)
      have r0 := hr5 0; have r1 := hr5 1; have r2 := hr5 2; have r3 := hr5 3; have r4 := hr5 4
      clear hr5
      refine bodyPost_ret (v := .tuple #[.agg #[.int .i64 3, .int .i64 1, .string ⟨#[]⟩, .slice none 0 0, .slice none 0 0], .int .i64 0]) (by simp [results, Tryd.results54, go_sem, r0, r1, r2, r3, r4]) rfl ?_
      have hb := put5_below (w := Y) (Nat.le_refl w.heap.size) (.int .i64 3) (.int .i64 1) (.string ⟨#[]⟩) (.slice none 0 0) (.slice none 0 0)
      exact ⟨rfl, ⟨hb.os.trans t3.os, hb.tape.trans t3.tape, hb.output.trans t3.output, Nat.le_trans t3.size hb.size, fun k hk hkr => (hb.block k hk).trans (t3.block k hk hkr)⟩, (hb.block r hrl).trans t1⟩
    · rcases (show q = 0 ∨ q = 1 ∨ q = 2 ∨ q = 3 ∨ q = 4 ∨ q = 5 ∨ q = 6 ∨ q = 7 by omega) with rfl | rfl | rfl | rfl | rfl | rfl | rfl | rfl
      · obtain rfl : z = 0 := by simpa [high1] using hz.symm
        have c := fun o => cell_alloc' (hB.out 0 (by omega)) o
        simp only [Nat.reduceAdd] at c
        go_wp2_with fail
        refine ⟨⟨1, m, 128, by omega, rfl, rfl, rfl, rfl⟩, by decide⟩
      · obtain rfl : z = 128 := by simpa [high1] using hz.symm
        have c := fun o => cell_alloc' (hB.out 1 (by omega)) o
        simp only [Nat.reduceAdd] at c
        go_wp2_with fail
        refine ⟨⟨2, m, 32768, by omega, rfl, rfl, rfl, rfl⟩, by decide⟩
      · obtain rfl : z = 32768 := by simpa [high1] using hz.symm
        have c := fun o => cell_alloc' (hB.out 2 (by omega)) o
        simp only [Nat.reduceAdd] at c
        go_wp2_with fail
        refine ⟨⟨3, m, 8388608, by omega, rfl, rfl, rfl, rfl⟩, by decide⟩
      · obtain rfl : z = 8388608 := by simpa [high1] using hz.symm
        have c := fun o => cell_alloc' (hB.out 3 (by omega)) o
        simp only [Nat.reduceAdd] at c
        go_wp2_with fail
        refine ⟨⟨4, m, 2147483648, by omega, rfl, rfl, rfl, rfl⟩, by decide⟩
      · obtain rfl : z = 2147483648 := by simpa [high1] using hz.symm
        have c := fun o => cell_alloc' (hB.out 4 (by omega)) o
        simp only [Nat.reduceAdd] at c
        go_wp2_with fail
        refine ⟨⟨5, m, 549755813888, by omega, rfl, rfl, rfl, rfl⟩, by decide⟩
      · obtain rfl : z = 549755813888 := by simpa [high1] using hz.symm
        have c := fun o => cell_alloc' (hB.out 5 (by omega)) o
        simp only [Nat.reduceAdd] at c
        go_wp2_with fail
        refine ⟨⟨6, m, 140737488355328, by omega, rfl, rfl, rfl, rfl⟩, by decide⟩
      · obtain rfl : z = 140737488355328 := by simpa [high1] using hz.symm
        have c := fun o => cell_alloc' (hB.out 6 (by omega)) o
        simp only [Nat.reduceAdd] at c
        go_wp2_with fail
        refine ⟨⟨7, m, 36028797018963968, by omega, rfl, rfl, rfl, rfl⟩, by decide⟩
      · obtain rfl : z = 36028797018963968 := by simpa [high1] using hz.symm
        have c := fun o => cell_alloc' (hB.out 7 (by omega)) o
        simp only [Nat.reduceAdd] at c
        go_wp2_with fail
        refine ⟨⟨8, m, 9223372036854775809, by omega, rfl, rfl, rfl, rfl⟩, by decide⟩

theorem cell_near {w w' : World} {p : Addr} {v : Value} {r : Option Nat} (h : w.grownBy w' r) (hc : w.cell? p = some v) (hr : some p.block ≠ r) : w'.cell? p = some v := (h.cell_far p (lt_of_cell hc) hr).trans hc
set_option maxHeartbeats 4000000 in
set_option maxRecDepth 100000 in
theorem value1 (r g cap : Nat) (w : World) (hr : w.heap[r]? = some (.cells #[.slice (some ⟨g, 0, none⟩) 9 cap, .int .i64 0] 59 (0, 0))) (hc : 9 ≤ cap) (hgr : g ≠ r)
    (hB : Hid (∀ j, j < 9 → w.cell? ⟨g, j, none⟩ = (.int .u8 16 :: num1)[j]?)) :
    Calls Tryd.prog 41 #[.pointer (some ⟨r, 0, none⟩), .int .i64 0] w fun e w' => e = .returned (.tuple #[.agg #[.int .i64 3, .int .i64 1, .string ⟨#[]⟩, .slice none 0 0, .slice none 0 0], .int .i64 0]) ∧ w.grownBy w' (some r) ∧ w'.heap[r]? = some (.cells #[.slice (some ⟨g, 0, none⟩) 9 cap, .int .i64 9] 59 (0, 0)) := by
  obtain ⟨y0, y1, yf⟩ := two_cells hr
  have hrl := lt_of_cell y0
  have x0 := fun o => cell_alloc' y0 o
  have x1 := fun o => cell_alloc' y1 o
  clear y0 y1
  have c16 : w.cell? ⟨g, 0, none⟩ = some (.int .u8 16) := hB.out 0 (by omega)
  go_enter Tryd.func41, Tryd.ntmps41
  go_wp2_with fail
  go_region
  have hm : w.grownBy (w.alloc (.cells #[.int .i64 0, .int .i64 0, .string ⟨#[]⟩, .slice none 0 0, .slice none 0 0] 31)).drew none := grown_drewN (World.grownBy_alloc w _ none) 1
  have hn : (w.alloc (.cells #[.int .i64 0, .int .i64 0, .string ⟨#[]⟩, .slice none 0 0, .slice none 0 0] 31)).drew.heap[w.heap.size]? = some (.cells #[.int .i64 0, .int .i64 0, .string ⟨#[]⟩, .slice none 0 0, .slice none 0 0] 31 (0, 0)) := heap_alloc_new w _
  generalize (w.alloc (.cells #[.int .i64 0, .int .i64 0, .string ⟨#[]⟩, .slice none 0 0, .slice none 0 0] 31)).drew = W at hm hn
  have hWr : W.heap[r]? = some (.cells #[.slice (some ⟨g, 0, none⟩) 9 cap, .int .i64 0] 59 (0, 0)) := (hm.block r hrl (by simp)).trans hr
  clear x0 x1 yf
  obtain ⟨y0, y1, yf⟩ := two_cells hWr
  have yf1 := yf 1
  have c17 : W.cell? ⟨g, 0, none⟩ = some (.int .u8 16) := cell_near hm c16 (by simp)
  clear yf
  have hne : r ≠ w.heap.size := by omega
  have hs1 : (W.setCell ⟨r, 1, none⟩ (.int .i64 1)).heap[r]? = some (.cells #[.slice (some ⟨g, 0, none⟩) 9 cap, .int .i64 1] 59 (0, 0)) := by simp [World.setCell, Array.getElem?_modify, hWr]
  have hs2 : (W.setCell ⟨r, 1, none⟩ (.int .i64 1)).heap[w.heap.size]? = some (.cells #[.int .i64 0, .int .i64 0, .string ⟨#[]⟩, .slice none 0 0, .slice none 0 0] 31 (0, 0)) := (Below.heap_setCell _ _ _ _ (Ne.symm hne)).trans hn
  have hs3 : w.grownBy (W.setCell ⟨r, 1, none⟩ (.int .i64 1)) (some r) := ⟨hm.os, hm.tape, hm.output, by simpa [World.setCell] using hm.size, fun k hk hkr => (Below.heap_setCell _ _ _ _ (fun e => hkr (by rw [e]))).trans (hm.block k hk (by simp))⟩
  go_wp2_with fail
  generalize W.setCell ⟨r, 1, none⟩ (.int .i64 1) = X at hs1 hs2 hs3
  clear hm hn hWr y0 y1 yf1 c17
  refine (number1 r g cap X hs1 hc (hid_e (fun j hj => ?_))).mono ?_
  · have h1 := hB.out (1 + j) (by omega)
    rw [Nat.add_comm 1 j, List.getElem?_cons_succ] at h1
    obtain ⟨u, hu⟩ : ∃ u, num1[j]? = some u := ⟨_, List.getElem?_eq_getElem (by simpa [num1] using hj)⟩
    rw [hu] at h1 ⊢
    rw [Nat.add_comm 1 j]
    exact cell_near hs3 h1 (by simpa using hgr)
  rintro e Y ⟨rfl, hg4, t1⟩
  have hXn : w.heap.size < X.heap.size := (Array.getElem?_eq_some_iff.1 hs2).1
  have t2 := (hg4.block w.heap.size hXn (by simpa using Ne.symm hne)).trans hs2
  have t3 : w.grownBy Y (some r) := ⟨hg4.os.trans hs3.os, hg4.tape.trans hs3.tape, hg4.output.trans hs3.output, Nat.le_trans hs3.size hg4.size, fun k hk hkr => (hg4.block k (by have := hs3.size; omega) hkr).trans (hs3.block k hk hkr)⟩
  clear hs1 hs2 hs3 hg4 hXn hB c16
  obtain ⟨z0, z1, z2, z3, z4, zf⟩ := row_cells t2
  have zf0 := zf 0; have zf1 := zf 1; have zf2 := zf 2; have zf3 := zf 3; have zf4 := zf 4
  clear zf
  go_wp2_with fail
  have hr5 := put5_cells t2 (.int .i64 3) (.int .i64 1) (.string ⟨#[]⟩) (.slice none 0 0) (.slice none 0 0)
  have r0 := hr5 0; have r1 := hr5 1; have r2 := hr5 2; have r3 := hr5 3; have r4 := hr5 4
  clear hr5
  refine bodyPost_ret (v := .tuple #[.agg #[.int .i64 3, .int .i64 1, .string ⟨#[]⟩, .slice none 0 0, .slice none 0 0], .int .i64 0]) (by simp [results, Tryd.results41, go_sem, r0, r1, r2, r3, r4]) rfl ?_
  have hb := put5_below (w := Y) (Nat.le_refl w.heap.size) (.int .i64 3) (.int .i64 1) (.string ⟨#[]⟩) (.slice none 0 0) (.slice none 0 0)
  exact ⟨rfl, ⟨hb.os.trans t3.os, hb.tape.trans t3.tape, hb.output.trans t3.output, Nat.le_trans t3.size hb.size, fun k hk hkr => (hb.block k hk).trans (t3.block k hk hkr)⟩, (hb.block r hrl).trans t1⟩
end Go.Proofs.YthijpmomcompaaaDoor
