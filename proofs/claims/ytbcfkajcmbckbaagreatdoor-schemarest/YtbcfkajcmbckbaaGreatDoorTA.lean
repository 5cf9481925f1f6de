import Derived.Test.YtbcfkajcmbckbaaGreatDoorSQ
/-! schema: a rule of numbers that is kept, or broken. -/
namespace Go.Proofs.YtbcfkajcmbckbaaGreatDoor
open Go Go.RowKit

theorem least_any (n l : Int) (w : World) : Calls Tryz.prog 38 #[.int .i64 n, .int .i64 l] w fun e w' => e = .returned (.bool (decide (l ≤ n))) ∧ w' = w := by
  go_enter Tryz.func38, Tryz.ntmps38
  go_wp2
  go_ret
  exact ⟨ret_bool (by simp), rfl⟩
theorem count_any (u : V5) (w : World) : Calls Tryz.prog 91 #[.agg #[], u.v] w fun e w' => e = .returned (.tuple #[.int .i64 u.x, .bool (u.k == 3)]) ∧ Below w.heap.size w w' := by
  have hb := (((Below.refl _ w).alloc (Nat.le_refl _) (.cells #[] 81)).alloc (by simp) (u.obj 25))
  unfold V5.obj at hb
  unfold V5.v
  go_enter Tryz.func91, Tryz.ntmps91
  go_wp2_with fail
  go_region
  go_wp2_with fail
  go_ret2
  exact ⟨rfl, below_drewN hb 1⟩
def boundI (x : Int) : Value := .agg #[.int .i64 x, fnV 38]
def boundK (x : Int) (u : V5) : Bool := !(u.k == 3) || decide (x ≤ u.x)
set_option maxHeartbeats 1000000 in
set_option maxRecDepth 100000 in
theorem bound_keeps (x : Int) (u : V5) (w : World) : Calls Tryz.prog 137 #[boundI x, u.v] w fun e w' => e = .returned (.bool (boundK x u)) ∧ Below w.heap.size w w' := by
  have hc := fun W => hid_of (count_any u W)
  have hl := fun W => hid_of (least_any u.x x W)
  obtain ⟨b3, hb3⟩ : ∃ b, Hid ((u.k == 3) = b) := ⟨_, rfl⟩
  unfold boundK
  rw [hb3.out] at hc ⊢
  unfold V5.v at *
  unfold boundI fnV
  go_enter Tryz.func137, Tryz.ntmps137
  go_wp2_with fail
  have hbX := (((Below.refl _ w).alloc (Nat.le_refl _) (.cells #[.int .i64 x, .func (.func 38) #[] #[]] 121)).alloc (by simp) (.cells #[.int .i64 u.k, .int .i64 u.x, .string u.s, .slice u.an u.ln u.cn, .slice u.ai u.li u.ci] 25)).alloc (by simp; omega) (.cells #[] 81)
  have x0 : (((w.alloc (.cells #[.int .i64 x, .func (.func 38) #[] #[]] 121)).alloc (.cells #[.int .i64 u.k, .int .i64 u.x, .string u.s, .slice u.an u.ln u.cn, .slice u.ai u.li u.ci] 25)).alloc (.cells #[] 81)).cell? ⟨w.heap.size, 0, none⟩ = some (.int .i64 x) := cell_alloc' (cell_alloc' ((cell_of (heap_alloc_new w _) 0).trans rfl) _) _
  have x1 : (((w.alloc (.cells #[.int .i64 x, .func (.func 38) #[] #[]] 121)).alloc (.cells #[.int .i64 u.k, .int .i64 u.x, .string u.s, .slice u.an u.ln u.cn, .slice u.ai u.li u.ci] 25)).alloc (.cells #[] 81)).cell? ⟨w.heap.size, 1, none⟩ = some (.func (.func 38) #[] #[]) := cell_alloc' (cell_alloc' ((cell_of (heap_alloc_new w _) 1).trans rfl) _) _
  generalize ((w.alloc (.cells #[.int .i64 x, .func (.func 38) #[] #[]] 121)).alloc (.cells #[.int .i64 u.k, .int .i64 u.x, .string u.s, .slice u.an u.ln u.cn, .slice u.ai u.li u.ci] 25)).alloc (.cells #[] 81) = X at hbX x0 x1 ⊢
  refine (hc _).out.mono ?_
  rintro e W1 ⟨rfl, hb1⟩
  have y0 := stay hb1 x0
  have y1 := stay hb1 x1
  have hB := hid_of (hbX.trans (hb1.mono hbX.size))
  clear hbX x0 x1 hb1 hc
  cases b3 with
  | true =>
    go_wp2_with fail
    refine (hl _).out.mono ?_
    rintro e Z ⟨rfl, hZ⟩
    obtain rfl : W1 = Z := hZ.symm
    clear hZ
    go_wp2_with fail
    go_ret
    exact ⟨ret_bool (by simp), hB.out⟩
  | false =>
    go_wp2_with fail
    go_ret
    exact ⟨ret_bool (by simp), hB.out⟩
end Go.Proofs.YtbcfkajcmbckbaaGreatDoor
