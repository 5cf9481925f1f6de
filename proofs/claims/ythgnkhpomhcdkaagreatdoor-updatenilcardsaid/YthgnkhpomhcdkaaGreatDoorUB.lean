import Derived.Test.YthgnkhpomhcdkaaGreatDoorUA
import Derived.Test.YthgnkhpomhcdkaaGreatDoorEB
/-! update: the table of verbs (genUB in python: twelve closures, one row of thirteen verbs). -/
namespace Go.Proofs.YthgnkhpomhcdkaaGreatDoor
open Go Go.RowKit

theorem alloc_if (w : World) (o : Obj) (k : Nat) : (w.alloc o).heap[k]? = if k = w.heap.size then some o else w.heap[k]? := by
  split
  · next h => subst h; exact heap_alloc_new w o
  · next h =>
    by_cases hk : k < w.heap.size
    · exact Below.heap_alloc w o k hk
    · rw [Array.getElem?_eq_none (by simp; omega), Array.getElem?_eq_none (by omega)]
theorem size_al (w : World) (o : Obj) : (w.alloc o).heap.size = w.heap.size + 1 := by simp
theorem al_eq {w : World} {o : Obj} {k : Nat} (h : w.heap.size = k) : (w.alloc o).heap[k]? = some o := by subst h; exact heap_alloc_new w o
theorem al_lt {w : World} {o x : Obj} {k : Nat} (h : k < w.heap.size) (hx : w.heap[k]? = some x) : (w.alloc o).heap[k]? = some x := (Below.heap_alloc w o k h).trans hx
def verbCells (n : Nat) : Array Value := #[fn0 33, fn1 70 (n + 0), fn0 33, fn0 36, fn0 33, fn1 70 (n + 1), fn0 38, fn1 70 (n + 2), fn0 38, fn1 70 (n + 3), fn0 33, fn1 70 (n + 5), fn0 33, fn1 70 (n + 7), fn0 44, fn0 45, fn0 46, fn1 70 (n + 8), fn0 48, fn1 70 (n + 9), fn0 50, fn1 70 (n + 10), fn0 33, fn0 52, fn0 53, fn1 70 (n + 11)]
/-- The table of verbs at block n + 12. -/
structure VerbsAt (w : World) (n : Nat) : Prop where
  row : w.heap[n + 12]? = some (.cells (verbCells n) 89)
  b0 : w.heap[n + 0]? = some (.cells #[fn0 35] 87)
  b1 : w.heap[n + 1]? = some (.cells #[fn0 37] 87)
  b2 : w.heap[n + 2]? = some (.cells #[fn0 39] 87)
  b3 : w.heap[n + 3]? = some (.cells #[fn0 40] 87)
  b8 : w.heap[n + 8]? = some (.cells #[fn0 47] 87)
  b9 : w.heap[n + 9]? = some (.cells #[fn0 49] 87)
  b10 : w.heap[n + 10]? = some (.cells #[fn0 51] 87)
  b11 : w.heap[n + 11]? = some (.cells #[fn0 54] 87)
  low : w.heap[n + 4]? = some (.cells #[fn0 42] 91)
  b5 : w.heap[n + 5]? = some (.cells #[fn1 80 (n + 4)] 87)
  high : w.heap[n + 6]? = some (.cells #[fn0 43] 91)
  b7 : w.heap[n + 7]? = some (.cells #[fn1 80 (n + 6)] 87)
set_option maxHeartbeats 8000000 in
set_option maxRecDepth 100000 in
theorem verbs_any (w : World) : Calls Tryz.prog 24 #[] w fun e w' => Below w.heap.size w w' ∧ e = .returned (.slice (some ⟨w.heap.size + 12, 0, none⟩) 13 13) ∧ VerbsAt w' w.heap.size := by
  go_enter Tryz.func24, Tryz.ntmps24
  go_wp2_with fail
  refine (atPlaces_any _ _ _).mono ?_
  rintro e w1 ⟨rfl, rfl⟩
  go_wp2_with fail
  refine (atPlaces_any _ _ _).mono ?_
  rintro e w2 ⟨rfl, rfl⟩
  go_wp2_with fail
  refine (atPlaces_any _ _ _).mono ?_
  rintro e w3 ⟨rfl, rfl⟩
  go_wp2_with fail
  refine (atPlaces_any _ _ _).mono ?_
  rintro e w4 ⟨rfl, rfl⟩
  go_wp2_with fail
  refine (setIf_any _ _).mono ?_
  rintro e w5 ⟨rfl, rfl⟩
  go_wp2_with fail
  refine (atPlaces_any _ _ _).mono ?_
  rintro e w6 ⟨rfl, rfl⟩
  go_wp2_with fail
  refine (setIf_any _ _).mono ?_
  rintro e w7 ⟨rfl, rfl⟩
  go_wp2_with fail
  refine (atPlaces_any _ _ _).mono ?_
  rintro e w8 ⟨rfl, rfl⟩
  go_wp2_with fail
  refine (atPlaces_any _ _ _).mono ?_
  rintro e w9 ⟨rfl, rfl⟩
  go_wp2_with fail
  refine (atPlaces_any _ _ _).mono ?_
  rintro e w10 ⟨rfl, rfl⟩
  go_wp2_with fail
  refine (atPlaces_any _ _ _).mono ?_
  rintro e w11 ⟨rfl, rfl⟩
  go_wp2_with fail
  refine (atPlaces_any _ _ _).mono ?_
  rintro e w12 ⟨rfl, rfl⟩
  go_wp2_with fail
  go_ret
  simp only [Nat.add_assoc, Nat.reduceAdd]
  refine ⟨?_, rfl, ?_⟩
  · repeat refine Below.alloc ?_ (by first | omega | (simp only [size_al]; omega)) _
    exact Below.refl _ _
  · constructor
    all_goals
      repeat first
        | exact al_eq (by first | omega | (simp only [size_al] <;> omega))
        | refine al_lt (by first | omega | (simp only [size_al] <;> omega)) ?_
theorem VerbsAt.keep {w w' : World} {n : Nat} (h : VerbsAt w n) (hb : ∀ k, n ≤ k → k < w.heap.size → w'.heap[k]? = w.heap[k]?) : VerbsAt w' n := by
  have kp : ∀ {k : Nat} {o : Obj}, n ≤ k → w.heap[k]? = some o → w'.heap[k]? = some o := fun hk ho => (hb _ hk (Array.getElem?_eq_some_iff.1 ho).1).trans ho
  exact ⟨kp (by omega) h.row, kp (by omega) h.b0, kp (by omega) h.b1, kp (by omega) h.b2, kp (by omega) h.b3, kp (by omega) h.b8, kp (by omega) h.b9, kp (by omega) h.b10, kp (by omega) h.b11, kp (by omega) h.low, kp (by omega) h.b5, kp (by omega) h.high, kp (by omega) h.b7⟩
end Go.Proofs.YthgnkhpomhcdkaaGreatDoor
