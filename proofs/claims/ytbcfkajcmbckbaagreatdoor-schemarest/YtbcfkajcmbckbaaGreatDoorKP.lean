import Derived.Test.YtbcfkajcmbckbaaGreatDoorKO
import Derived.Test.YtbcfkajcmbckbaaGreatDoorKN
/-! schema: the rules of a text's length. -/
namespace Go.Proofs.YtbcfkajcmbckbaaGreatDoor
open Go Go.RowKit

set_option maxHeartbeats 1000000 in
set_option maxRecDepth 100000 in
theorem keeps_chars_least (x : Int) (u : V5) (hsz : u.s.size ≤ 140737488351232) (w : World) : Calls Tryz.prog 136 #[boundJ x 38, u.v] w fun e w' => e = .returned (.bool (!(u.k == 4) || (decide (x ≤ (Lib.runeCount u.s : Int))))) ∧ Below w.heap.size w w' := by
  have hc := fun W => hid_of (count_chars u hsz W)
  have hl := fun W => hid_of (least_any (Lib.runeCount u.s : Int) x W)
  obtain ⟨b3, hb3⟩ : ∃ b, Hid ((u.k == 4) = b) := ⟨_, rfl⟩
  rw [hb3.out] at hc ⊢
  obtain ⟨sb, hsb⟩ : ∃ b, Hid ((decide (x ≤ (Lib.runeCount u.s : Int))) = b) := ⟨_, rfl⟩
  simp only [hsb.out] at hl ⊢
  unfold V5.v at *
  unfold boundJ fnV
  go_enter Tryz.func136, Tryz.ntmps136
  go_wp2_with fail
  have hbX := (((Below.refl _ w).alloc (Nat.le_refl _) (.cells #[.int .i64 x, .func (.func 38) #[] #[]] 120)).alloc (by simp) (.cells #[.int .i64 u.k, .int .i64 u.x, .string u.s, .slice u.an u.ln u.cn, .slice u.ai u.li u.ci] 25)).alloc (by simp; omega) (.cells #[] 80)
  have x0 : (((w.alloc (.cells #[.int .i64 x, .func (.func 38) #[] #[]] 120)).alloc (.cells #[.int .i64 u.k, .int .i64 u.x, .string u.s, .slice u.an u.ln u.cn, .slice u.ai u.li u.ci] 25)).alloc (.cells #[] 80)).cell? ⟨w.heap.size, 0, none⟩ = some (.int .i64 x) := cell_alloc' (cell_alloc' ((cell_of (heap_alloc_new w _) 0).trans rfl) _) _
  have x1 : (((w.alloc (.cells #[.int .i64 x, .func (.func 38) #[] #[]] 120)).alloc (.cells #[.int .i64 u.k, .int .i64 u.x, .string u.s, .slice u.an u.ln u.cn, .slice u.ai u.li u.ci] 25)).alloc (.cells #[] 80)).cell? ⟨w.heap.size, 1, none⟩ = some (.func (.func 38) #[] #[]) := cell_alloc' (cell_alloc' ((cell_of (heap_alloc_new w _) 1).trans rfl) _) _
  generalize ((w.alloc (.cells #[.int .i64 x, .func (.func 38) #[] #[]] 120)).alloc (.cells #[.int .i64 u.k, .int .i64 u.x, .string u.s, .slice u.an u.ln u.cn, .slice u.ai u.li u.ci] 25)).alloc (.cells #[] 80) = X at hbX x0 x1 ⊢
  refine (hc _).out.mono ?_
  rintro e W1 ⟨rfl, hb1⟩
  have y0 := stay hb1 x0
  have y1 := stay hb1 x1
  have hB := hid_of (hbX.trans (hb1.mono hbX.size))
  clear hbX x0 x1 hb1 hc
  cases b3 with
  | true =>
    go_wp2_with fail
    refine (hl _).out.mono ?_
    rintro e Z ⟨rfl, hZ⟩
    obtain rfl : W1 = Z := hZ.symm
    clear hZ
    go_wp2_with fail
    go_ret
    exact ⟨ret_bool (by simp), hB.out⟩
  | false =>
    go_wp2_with fail
    go_ret
    exact ⟨ret_bool (by simp), hB.out⟩
set_option maxHeartbeats 1000000 in
set_option maxRecDepth 100000 in
theorem keeps_chars_most (x : Int) (u : V5) (hsz : u.s.size ≤ 140737488351232) (w : World) : Calls Tryz.prog 136 #[boundJ x 39, u.v] w fun e w' => e = .returned (.bool (!(u.k == 4) || (decide ((Lib.runeCount u.s : Int) ≤ x)))) ∧ Below w.heap.size w w' := by
  have hc := fun W => hid_of (count_chars u hsz W)
  have hl := fun W => hid_of (most_any (Lib.runeCount u.s : Int) x W)
  obtain ⟨b3, hb3⟩ : ∃ b, Hid ((u.k == 4) = b) := ⟨_, rfl⟩
  rw [hb3.out] at hc ⊢
  obtain ⟨sb, hsb⟩ : ∃ b, Hid ((decide ((Lib.runeCount u.s : Int) ≤ x)) = b) := ⟨_, rfl⟩
  simp only [hsb.out] at hl ⊢
  unfold V5.v at *
  unfold boundJ fnV
  go_enter Tryz.func136, Tryz.ntmps136
  go_wp2_with fail
  have hbX := (((Below.refl _ w).alloc (Nat.le_refl _) (.cells #[.int .i64 x, .func (.func 39) #[] #[]] 120)).alloc (by simp) (.cells #[.int .i64 u.k, .int .i64 u.x, .string u.s, .slice u.an u.ln u.cn, .slice u.ai u.li u.ci] 25)).alloc (by simp; omega) (.cells #[] 80)
  have x0 : (((w.alloc (.cells #[.int .i64 x, .func (.func 39) #[] #[]] 120)).alloc (.cells #[.int .i64 u.k, .int .i64 u.x, .string u.s, .slice u.an u.ln u.cn, .slice u.ai u.li u.ci] 25)).alloc (.cells #[] 80)).cell? ⟨w.heap.size, 0, none⟩ = some (.int .i64 x) := cell_alloc' (cell_alloc' ((cell_of (heap_alloc_new w _) 0).trans rfl) _) _
  have x1 : (((w.alloc (.cells #[.int .i64 x, .func (.func 39) #[] #[]] 120)).alloc (.cells #[.int .i64 u.k, .int .i64 u.x, .string u.s, .slice u.an u.ln u.cn, .slice u.ai u.li u.ci] 25)).alloc (.cells #[] 80)).cell? ⟨w.heap.size, 1, none⟩ = some (.func (.func 39) #[] #[]) := cell_alloc' (cell_alloc' ((cell_of (heap_alloc_new w _) 1).trans rfl) _) _
  generalize ((w.alloc (.cells #[.int .i64 x, .func (.func 39) #[] #[]] 120)).alloc (.cells #[.int .i64 u.k, .int .i64 u.x, .string u.s, .slice u.an u.ln u.cn, .slice u.ai u.li u.ci] 25)).alloc (.cells #[] 80) = X at hbX x0 x1 ⊢
  refine (hc _).out.mono ?_
  rintro e W1 ⟨rfl, hb1⟩
  have y0 := stay hb1 x0
  have y1 := stay hb1 x1
  have hB := hid_of (hbX.trans (hb1.mono hbX.size))
  clear hbX x0 x1 hb1 hc
  cases b3 with
  | true =>
    go_wp2_with fail
    refine (hl _).out.mono ?_
    rintro e Z ⟨rfl, hZ⟩
    obtain rfl : W1 = Z := hZ.symm
    clear hZ
    go_wp2_with fail
    go_ret
    exact ⟨ret_bool (by simp), hB.out⟩
  | false =>
    go_wp2_with fail
    go_ret
    exact ⟨ret_bool (by simp), hB.out⟩
theorem chrOk : ChrOk := by
  intro j z x u w hj hV hS
  have hkd := vrep_head hV
  have hsz : u.s.size ≤ 140737488351232 := by rw [← hkd.2]; exact (small_parts hS).2.2.2.2
  rw [hkd.1, hkd.2]
  rcases hj with rfl | rfl
  · rw [if_neg (by decide)]; exact keeps_chars_least z u hsz w
  · rw [if_pos rfl]; exact keeps_chars_most z u hsz w
end Go.Proofs.YtbcfkajcmbckbaaGreatDoor
