import Derived.Test.YtbcfkajcmbckbaaGreatDoorLI
import Derived.Test.YtbcfkajcmbckbaaGreatDoorTJ
/-! schema: names looked up; members; types, not. -/
namespace Go.Proofs.YtbcfkajcmbckbaaGreatDoor
open Go Go.RowKit

theorem keyL_inj {a b : ByteArray} (h : keyL a = keyL b) : a = b := by
  unfold keyL at h
  simp only [Lit.string.injEq] at h
  exact ByteArray.ext (Array.toList_inj.1 h)
/-- What the numbers tell of a name. -/
theorem nums_look (l : List ByteArray) (s : ByteArray) : Maps.has (numsD l) (keyL s) = (noOf l s).isSome ∧ ∀ z q, noOf l s = some q → (numsD l).atKey (keyL s) z = .lit (.int .i64 (q : Int)) := by
  suffices h : ∀ n, n ≤ l.length → Maps.has (numsD (l.take n)) (keyL s) = (noOf (l.take n) s).isSome ∧ ∀ z q, noOf (l.take n) s = some q → (numsD (l.take n)).atKey (keyL s) z = .lit (.int .i64 (q : Int)) by
    have := h l.length (Nat.le_refl _)
    rwa [List.take_length] at this
  intro n
  induction n with
  | zero => intro _; rw [List.take_zero]; exact ⟨rfl, fun z q h => by simp [noOf] at h⟩
  | succ n ih =>
    intro hn
    obtain ⟨a, ha⟩ : ∃ a, l[n]? = some a := ⟨_, List.getElem?_eq_getElem (by omega)⟩
    have hl : (l.take n).length = n := by rw [List.length_take]; omega
    rw [List.take_add_one, ha, Option.toList_some, numsD_snoc, noOf_snoc, hl]
    obtain ⟨ih1, ih2⟩ := ih (by omega)
    by_cases he : a = s
    · subst he
      rw [if_pos rfl, Maps.has_put_same (k := keyL a) (numsD_isMap _) (show WideAt.IsKeyLit (keyL a) from trivial)]
      refine ⟨rfl, fun z q h => ?_⟩
      rw [Maps.atKey_put_same (k := keyL a) (numsD_isMap _) (show WideAt.IsKeyLit (keyL a) from trivial)]
      rw [Option.some.inj h]
    · have hk : keyL s ≠ keyL a := fun e => he (keyL_inj e).symm
      rw [if_neg he, Maps.has_put_other hk]
      refine ⟨ih1, fun z q h => ?_⟩
      rw [Maps.atKey_put_other hk]
      exact ih2 z q h
theorem noOf_some (l : List ByteArray) (s : ByteArray) : (noOf l s).isSome = memB l s := by
  suffices h : ∀ n, n ≤ l.length → (noOf (l.take n) s).isSome = memB (l.take n) s by
    have := h l.length (Nat.le_refl _)
    rwa [List.take_length] at this
  intro n
  induction n with
  | zero => intro _; rw [List.take_zero]; rfl
  | succ n ih =>
    intro hn
    obtain ⟨a, ha⟩ : ∃ a, l[n]? = some a := ⟨_, List.getElem?_eq_getElem (by omega)⟩
    rw [List.take_add_one, ha, Option.toList_some, noOf_snoc]
    unfold memB at ih ⊢
    rw [List.any_append, ← ih (by omega)]
    by_cases he : a = s
    · simp [he]
    · simp [he]
/-- A name looked up in the numbers. -/
theorem look_nums {w : World} {mb : Nat} {l : List ByteArray} (h : NumsAt w mb l.length (numsD l)) (s : ByteArray) (hs : s.size ≤ 140737488351232) : ∃ z : Int, (Instr.lookup 104 (.map (some mb)) (.string s) true).run Tryz.prog w = .ok (.tuple #[.int .i64 z, .bool (noOf l s).isSome]) w ∧ ∀ q, noOf l s = some q → z = (q : Int) := by
  have hkey := key_big s hs
  obtain ⟨v, ps, hrun, hv⟩ := World.ownsMap.look_ok h law9 Tryz.underlying104 (Tryz.zeroValue3 w) (zd := .lit (.int .i64 0)) (zp := []) (plainElem_int Tryz.underlying3 (by decide)) hkey
  obtain ⟨h1, h2⟩ := nums_look l s
  rw [h1] at hrun
  cases hn : noOf l s with
  | none =>
    have hat : (numsD l).atKey (keyL s) (.lit (.int .i64 0)) = .lit (.int .i64 0) := Maps.atKey_of_not_has (by rw [h1, hn]; rfl) _
    rw [hat] at hv
    obtain ⟨a, rfl, -, -⟩ := plainElem_int_inv Tryz.underlying3 hv
    rw [hn] at hrun
    exact ⟨a, hrun, fun q h => by cases h⟩
  | some q =>
    rw [h2 _ q hn] at hv
    obtain ⟨a, rfl, ha, -⟩ := plainElem_int_inv Tryz.underlying3 hv
    simp only [Prod.mk.injEq, DataW.lit.injEq, Lit.int.injEq, true_and] at ha
    rw [hn] at hrun
    refine ⟨a, hrun, fun q' h => ?_⟩
    rw [← Option.some.inj h]
    exact ha.1.symm
set_option maxHeartbeats 1000000 in
set_option maxRecDepth 100000 in
/-- A value's members. -/
theorem members_any (u : V5) (w : World) (hn : u.ln ≤ u.cn ∧ u.cn ≤ 9223372036854775807) (hi : u.li ≤ 9223372036854775807) : Calls Tryz.prog 101 #[u.v] w fun e w' => ∃ c, e = .returned (.slice u.an (min u.ln u.li) c) ∧ min u.ln u.li ≤ c ∧ Below w.heap.size w w' := by
  have hb := hid_of ((Below.refl _ w).alloc (Nat.le_refl _) (u.obj 25))
  obtain ⟨x0, x1, x2, x3, x4, -⟩ := row_cells (heap_alloc_new w (u.obj 25))
  unfold V5.obj at *
  unfold V5.v
  go_enter Tryz.func101, Tryz.ntmps101
  go_wp2_with fail
  go_ret
  refine ⟨u.cn, ?_, by omega, hb.out⟩
  show Ending.returned (.slice u.an (min (u.ln : Int) (u.li : Int)).toNat u.cn) = _
  rw [show (min (u.ln : Int) (u.li : Int)).toNat = min u.ln u.li by omega]
set_option maxHeartbeats 1000000 in
set_option maxRecDepth 100000 in
theorem types_keeps (f : Nat → Bool) (u : V5) (w : World) : Calls Tryz.prog 92 #[.agg (tcells f), u.v] w fun e w' => e = .returned (.bool (decide (0 ≤ u.k) && (decide (u.k < 7) && f u.k.toNat))) ∧ Below w.heap.size w w' := by
  have hb := hid_of (((Below.refl _ w).alloc (Nat.le_refl _) (.cells (tcells f) 102)).alloc (by simp) (u.obj 25))
  obtain ⟨x0, x1, x2, x3, x4, -⟩ := row_cells (heap_alloc_new (w.alloc (.cells (tcells f) 102)) (u.obj 25))
  have n0 := hid_of (new1 w (.cells (tcells f) 102) (u.obj 25))
  unfold V5.obj tcells at *
  unfold V5.v
  go_enter Tryz.func92, Tryz.ntmps92
  by_cases h0 : 0 ≤ u.k
  · have e0 : decide (u.k ≥ 0) = true := by simpa using h0
    by_cases h7 : u.k < 7
    · have e7 : decide (u.k < 7) = true := by simpa using h7
      have hq7 : u.k.toNat < 7 := by omega
      have hr : Hid ((decide (0 ≤ u.k) && (decide (u.k < 7) && f u.k.toNat)) = f u.k.toNat) := by
        rw [Hid, decide_eq_true h0, decide_eq_true h7]; simp
      rw [hr.out]
      have c0 : ((w.alloc (.cells #[.bool (f 0), .bool (f 1), .bool (f 2), .bool (f 3), .bool (f 4), .bool (f 5), .bool (f 6)] 102)).alloc (.cells #[.int .i64 u.k, .int .i64 u.x, .string u.s, .slice u.an u.ln u.cn, .slice u.ai u.li u.ci] 25)).cell? ⟨w.heap.size, u.k.toNat, none⟩ = some (.bool (f u.k.toNat)) := by
        rw [cell_of n0.out u.k.toNat]
        generalize u.k.toNat = q at hq7 ⊢
        rcases q with _ | _ | _ | _ | _ | _ | _ | q <;> first | rfl | omega
      go_wp2_with fail
      go_ret
      exact ⟨ret_bool rfl, hb.out⟩
    · have e7 : decide (u.k < 7) = false := by simpa using h7
      have hr : Hid ((decide (0 ≤ u.k) && (decide (u.k < 7) && f u.k.toNat)) = false) := by rw [Hid, e7]; simp
      rw [hr.out]
      clear h0 h7
      go_wp2_with fail
      go_ret
      exact ⟨ret_bool rfl, hb.out⟩
  · have e0 : decide (u.k ≥ 0) = false := by simpa using h0
    have hr : Hid ((decide (0 ≤ u.k) && (decide (u.k < 7) && f u.k.toNat)) = false) := by rw [Hid, decide_eq_false h0]; simp
    rw [hr.out]
    clear h0
    go_wp2_with fail
    go_ret
    exact ⟨ret_bool rfl, hb.out⟩
end Go.Proofs.YtbcfkajcmbckbaaGreatDoor
/-! schema: the rules of numbers, not, additional. -/
namespace Go.Proofs.YtbcfkajcmbckbaaGreatDoor
open Go Go.RowKit

theorem most_any (n l : Int) (w : World) : Calls Tryz.prog 39 #[.int .i64 n, .int .i64 l] w fun e w' => e = .returned (.bool (decide (n ≤ l))) ∧ w' = w := by
  go_enter Tryz.func39, Tryz.ntmps39
  go_wp2
  go_ret
  exact ⟨ret_bool (by simp), rfl⟩
theorem div_any (n l : Int) (hl : 1 ≤ l) (w : World) : Calls Tryz.prog 42 #[.int .i64 n, .int .i64 l] w fun e w' => e = .returned (.bool (n.tmod l == 0)) ∧ w' = w := by
  have h0 : (l == 0) = false := by simp; omega
  go_enter Tryz.func42, Tryz.ntmps42
  go_wp2
  go_ret
  exact ⟨ret_bool (by simp), rfl⟩
theorem count_items (u : V5) (w : World) : Calls Tryz.prog 89 #[.agg #[], u.v] w fun e w' => e = .returned (.tuple #[.int .i64 (u.li : Int), .bool (u.k == 5)]) ∧ Below w.heap.size w w' := by
  have hb := (((Below.refl _ w).alloc (Nat.le_refl _) (.cells #[] 78)).alloc (by simp) (u.obj 25))
  unfold V5.obj at hb
  unfold V5.v
  go_enter Tryz.func89, Tryz.ntmps89
  go_wp2_with fail
  go_region
  go_wp2_with fail
  go_ret2
  exact ⟨rfl, below_drewN hb 1⟩
/-- A rule of numbers. -/
def boundJ (x : Int) (f : Nat) : Value := .agg #[.int .i64 x, fnV f]
set_option maxHeartbeats 1000000 in
set_option maxRecDepth 100000 in
theorem keeps_items_least (x : Int) (u : V5) (w : World) : Calls Tryz.prog 134 #[boundJ x 38, u.v] w fun e w' => e = .returned (.bool (!(u.k == 5) || (decide (x ≤ (u.li : Int))))) ∧ Below w.heap.size w w' := by
  have hc := fun W => hid_of (count_items u W)
  have hl := fun W => hid_of (least_any (u.li : Int) x W)
  obtain ⟨b3, hb3⟩ : ∃ b, Hid ((u.k == 5) = b) := ⟨_, rfl⟩
  rw [hb3.out] at hc ⊢
  obtain ⟨sb, hsb⟩ : ∃ b, Hid ((decide (x ≤ (u.li : Int))) = b) := ⟨_, rfl⟩
  simp only [hsb.out] at hl ⊢
  unfold V5.v at *
  unfold boundJ fnV
  go_enter Tryz.func134, Tryz.ntmps134
  go_wp2_with fail
  have hbX := (((Below.refl _ w).alloc (Nat.le_refl _) (.cells #[.int .i64 x, .func (.func 38) #[] #[]] 119)).alloc (by simp) (.cells #[.int .i64 u.k, .int .i64 u.x, .string u.s, .slice u.an u.ln u.cn, .slice u.ai u.li u.ci] 25)).alloc (by simp; omega) (.cells #[] 78)
  have x0 : (((w.alloc (.cells #[.int .i64 x, .func (.func 38) #[] #[]] 119)).alloc (.cells #[.int .i64 u.k, .int .i64 u.x, .string u.s, .slice u.an u.ln u.cn, .slice u.ai u.li u.ci] 25)).alloc (.cells #[] 78)).cell? ⟨w.heap.size, 0, none⟩ = some (.int .i64 x) := cell_alloc' (cell_alloc' ((cell_of (heap_alloc_new w _) 0).trans rfl) _) _
  have x1 : (((w.alloc (.cells #[.int .i64 x, .func (.func 38) #[] #[]] 119)).alloc (.cells #[.int .i64 u.k, .int .i64 u.x, .string u.s, .slice u.an u.ln u.cn, .slice u.ai u.li u.ci] 25)).alloc (.cells #[] 78)).cell? ⟨w.heap.size, 1, none⟩ = some (.func (.func 38) #[] #[]) := cell_alloc' (cell_alloc' ((cell_of (heap_alloc_new w _) 1).trans rfl) _) _
  generalize ((w.alloc (.cells #[.int .i64 x, .func (.func 38) #[] #[]] 119)).alloc (.cells #[.int .i64 u.k, .int .i64 u.x, .string u.s, .slice u.an u.ln u.cn, .slice u.ai u.li u.ci] 25)).alloc (.cells #[] 78) = X at hbX x0 x1 ⊢
  refine (hc _).out.mono ?_
  rintro e W1 ⟨rfl, hb1⟩
  have y0 := stay hb1 x0
  have y1 := stay hb1 x1
  have hB := hid_of (hbX.trans (hb1.mono hbX.size))
  clear hbX x0 x1 hb1 hc
  cases b3 with
  | true =>
    go_wp2_with fail
    refine (hl _).out.mono ?_
    rintro e Z ⟨rfl, hZ⟩
    obtain rfl : W1 = Z := hZ.symm
    clear hZ
    go_wp2_with fail
    go_ret
    exact ⟨ret_bool (by simp), hB.out⟩
  | false =>
    go_wp2_with fail
    go_ret
    exact ⟨ret_bool (by simp), hB.out⟩
set_option maxHeartbeats 1000000 in
set_option maxRecDepth 100000 in
theorem keeps_items_most (x : Int) (u : V5) (w : World) : Calls Tryz.prog 134 #[boundJ x 39, u.v] w fun e w' => e = .returned (.bool (!(u.k == 5) || (decide ((u.li : Int) ≤ x)))) ∧ Below w.heap.size w w' := by
  have hc := fun W => hid_of (count_items u W)
  have hl := fun W => hid_of (most_any (u.li : Int) x W)
  obtain ⟨b3, hb3⟩ : ∃ b, Hid ((u.k == 5) = b) := ⟨_, rfl⟩
  rw [hb3.out] at hc ⊢
  obtain ⟨sb, hsb⟩ : ∃ b, Hid ((decide ((u.li : Int) ≤ x)) = b) := ⟨_, rfl⟩
  simp only [hsb.out] at hl ⊢
  unfold V5.v at *
  unfold boundJ fnV
  go_enter Tryz.func134, Tryz.ntmps134
  go_wp2_with fail
  have hbX := (((Below.refl _ w).alloc (Nat.le_refl _) (.cells #[.int .i64 x, .func (.func 39) #[] #[]] 119)).alloc (by simp) (.cells #[.int .i64 u.k, .int .i64 u.x, .string u.s, .slice u.an u.ln u.cn, .slice u.ai u.li u.ci] 25)).alloc (by simp; omega) (.cells #[] 78)
  have x0 : (((w.alloc (.cells #[.int .i64 x, .func (.func 39) #[] #[]] 119)).alloc (.cells #[.int .i64 u.k, .int .i64 u.x, .string u.s, .slice u.an u.ln u.cn, .slice u.ai u.li u.ci] 25)).alloc (.cells #[] 78)).cell? ⟨w.heap.size, 0, none⟩ = some (.int .i64 x) := cell_alloc' (cell_alloc' ((cell_of (heap_alloc_new w _) 0).trans rfl) _) _
  have x1 : (((w.alloc (.cells #[.int .i64 x, .func (.func 39) #[] #[]] 119)).alloc (.cells #[.int .i64 u.k, .int .i64 u.x, .string u.s, .slice u.an u.ln u.cn, .slice u.ai u.li u.ci] 25)).alloc (.cells #[] 78)).cell? ⟨w.heap.size, 1, none⟩ = some (.func (.func 39) #[] #[]) := cell_alloc' (cell_alloc' ((cell_of (heap_alloc_new w _) 1).trans rfl) _) _
  generalize ((w.alloc (.cells #[.int .i64 x, .func (.func 39) #[] #[]] 119)).alloc (.cells #[.int .i64 u.k, .int .i64 u.x, .string u.s, .slice u.an u.ln u.cn, .slice u.ai u.li u.ci] 25)).alloc (.cells #[] 78) = X at hbX x0 x1 ⊢
  refine (hc _).out.mono ?_
  rintro e W1 ⟨rfl, hb1⟩
  have y0 := stay hb1 x0
  have y1 := stay hb1 x1
  have hB := hid_of (hbX.trans (hb1.mono hbX.size))
  clear hbX x0 x1 hb1 hc
  cases b3 with
  | true =>
    go_wp2_with fail
    refine (hl _).out.mono ?_
    rintro e Z ⟨rfl, hZ⟩
    obtain rfl : W1 = Z := hZ.symm
    clear hZ
    go_wp2_with fail
    go_ret
    exact ⟨ret_bool (by simp), hB.out⟩
  | false =>
    go_wp2_with fail
    go_ret
    exact ⟨ret_bool (by simp), hB.out⟩
set_option maxHeartbeats 1000000 in
set_option maxRecDepth 100000 in
theorem keeps_int_least (x : Int) (u : V5) (w : World) : Calls Tryz.prog 137 #[boundJ x 38, u.v] w fun e w' => e = .returned (.bool (!(u.k == 3) || (decide (x ≤ u.x)))) ∧ Below w.heap.size w w' := by
  have hc := fun W => hid_of (count_any u W)
  have hl := fun W => hid_of (least_any u.x x W)
  obtain ⟨b3, hb3⟩ : ∃ b, Hid ((u.k == 3) = b) := ⟨_, rfl⟩
  rw [hb3.out] at hc ⊢
  obtain ⟨sb, hsb⟩ : ∃ b, Hid ((decide (x ≤ u.x)) = b) := ⟨_, rfl⟩
  simp only [hsb.out] at hl ⊢
  unfold V5.v at *
  unfold boundJ fnV
  go_enter Tryz.func137, Tryz.ntmps137
  go_wp2_with fail
  have hbX := (((Below.refl _ w).alloc (Nat.le_refl _) (.cells #[.int .i64 x, .func (.func 38) #[] #[]] 121)).alloc (by simp) (.cells #[.int .i64 u.k, .int .i64 u.x, .string u.s, .slice u.an u.ln u.cn, .slice u.ai u.li u.ci] 25)).alloc (by simp; omega) (.cells #[] 81)
  have x0 : (((w.alloc (.cells #[.int .i64 x, .func (.func 38) #[] #[]] 121)).alloc (.cells #[.int .i64 u.k, .int .i64 u.x, .string u.s, .slice u.an u.ln u.cn, .slice u.ai u.li u.ci] 25)).alloc (.cells #[] 81)).cell? ⟨w.heap.size, 0, none⟩ = some (.int .i64 x) := cell_alloc' (cell_alloc' ((cell_of (heap_alloc_new w _) 0).trans rfl) _) _
  have x1 : (((w.alloc (.cells #[.int .i64 x, .func (.func 38) #[] #[]] 121)).alloc (.cells #[.int .i64 u.k, .int .i64 u.x, .string u.s, .slice u.an u.ln u.cn, .slice u.ai u.li u.ci] 25)).alloc (.cells #[] 81)).cell? ⟨w.heap.size, 1, none⟩ = some (.func (.func 38) #[] #[]) := cell_alloc' (cell_alloc' ((cell_of (heap_alloc_new w _) 1).trans rfl) _) _
  generalize ((w.alloc (.cells #[.int .i64 x, .func (.func 38) #[] #[]] 121)).alloc (.cells #[.int .i64 u.k, .int .i64 u.x, .string u.s, .slice u.an u.ln u.cn, .slice u.ai u.li u.ci] 25)).alloc (.cells #[] 81) = X at hbX x0 x1 ⊢
  refine (hc _).out.mono ?_
  rintro e W1 ⟨rfl, hb1⟩
  have y0 := stay hb1 x0
  have y1 := stay hb1 x1
  have hB := hid_of (hbX.trans (hb1.mono hbX.size))
  clear hbX x0 x1 hb1 hc
  cases b3 with
  | true =>
    go_wp2_with fail
    refine (hl _).out.mono ?_
    rintro e Z ⟨rfl, hZ⟩
    obtain rfl : W1 = Z := hZ.symm
    clear hZ
    go_wp2_with fail
    go_ret
    exact ⟨ret_bool (by simp), hB.out⟩
  | false =>
    go_wp2_with fail
    go_ret
    exact ⟨ret_bool (by simp), hB.out⟩
set_option maxHeartbeats 1000000 in
set_option maxRecDepth 100000 in
theorem keeps_int_most (x : Int) (u : V5) (w : World) : Calls Tryz.prog 137 #[boundJ x 39, u.v] w fun e w' => e = .returned (.bool (!(u.k == 3) || (decide (u.x ≤ x)))) ∧ Below w.heap.size w w' := by
  have hc := fun W => hid_of (count_any u W)
  have hl := fun W => hid_of (most_any u.x x W)
  obtain ⟨b3, hb3⟩ : ∃ b, Hid ((u.k == 3) = b) := ⟨_, rfl⟩
  rw [hb3.out] at hc ⊢
  obtain ⟨sb, hsb⟩ : ∃ b, Hid ((decide (u.x ≤ x)) = b) := ⟨_, rfl⟩
  simp only [hsb.out] at hl ⊢
  unfold V5.v at *
  unfold boundJ fnV
  go_enter Tryz.func137, Tryz.ntmps137
  go_wp2_with fail
  have hbX := (((Below.refl _ w).alloc (Nat.le_refl _) (.cells #[.int .i64 x, .func (.func 39) #[] #[]] 121)).alloc (by simp) (.cells #[.int .i64 u.k, .int .i64 u.x, .string u.s, .slice u.an u.ln u.cn, .slice u.ai u.li u.ci] 25)).alloc (by simp; omega) (.cells #[] 81)
  have x0 : (((w.alloc (.cells #[.int .i64 x, .func (.func 39) #[] #[]] 121)).alloc (.cells #[.int .i64 u.k, .int .i64 u.x, .string u.s, .slice u.an u.ln u.cn, .slice u.ai u.li u.ci] 25)).alloc (.cells #[] 81)).cell? ⟨w.heap.size, 0, none⟩ = some (.int .i64 x) := cell_alloc' (cell_alloc' ((cell_of (heap_alloc_new w _) 0).trans rfl) _) _
  have x1 : (((w.alloc (.cells #[.int .i64 x, .func (.func 39) #[] #[]] 121)).alloc (.cells #[.int .i64 u.k, .int .i64 u.x, .string u.s, .slice u.an u.ln u.cn, .slice u.ai u.li u.ci] 25)).alloc (.cells #[] 81)).cell? ⟨w.heap.size, 1, none⟩ = some (.func (.func 39) #[] #[]) := cell_alloc' (cell_alloc' ((cell_of (heap_alloc_new w _) 1).trans rfl) _) _
  generalize ((w.alloc (.cells #[.int .i64 x, .func (.func 39) #[] #[]] 121)).alloc (.cells #[.int .i64 u.k, .int .i64 u.x, .string u.s, .slice u.an u.ln u.cn, .slice u.ai u.li u.ci] 25)).alloc (.cells #[] 81) = X at hbX x0 x1 ⊢
  refine (hc _).out.mono ?_
  rintro e W1 ⟨rfl, hb1⟩
  have y0 := stay hb1 x0
  have y1 := stay hb1 x1
  have hB := hid_of (hbX.trans (hb1.mono hbX.size))
  clear hbX x0 x1 hb1 hc
  cases b3 with
  | true =>
    go_wp2_with fail
    refine (hl _).out.mono ?_
    rintro e Z ⟨rfl, hZ⟩
    obtain rfl : W1 = Z := hZ.symm
    clear hZ
    go_wp2_with fail
    go_ret
    exact ⟨ret_bool (by simp), hB.out⟩
  | false =>
    go_wp2_with fail
    go_ret
    exact ⟨ret_bool (by simp), hB.out⟩
set_option maxHeartbeats 1000000 in
set_option maxRecDepth 100000 in
theorem keeps_int_div (x : Int) (hj : 1 ≤ x) (u : V5) (w : World) : Calls Tryz.prog 137 #[boundJ x 42, u.v] w fun e w' => e = .returned (.bool (!(u.k == 3) || ((u.x).tmod x == 0))) ∧ Below w.heap.size w w' := by
  have hc := fun W => hid_of (count_any u W)
  have hl := fun W => hid_of (div_any u.x x hj W)
  obtain ⟨b3, hb3⟩ : ∃ b, Hid ((u.k == 3) = b) := ⟨_, rfl⟩
  rw [hb3.out] at hc ⊢
  obtain ⟨sb, hsb⟩ : ∃ b, Hid (((u.x).tmod x == 0) = b) := ⟨_, rfl⟩
  simp only [hsb.out] at hl ⊢
  unfold V5.v at *
  unfold boundJ fnV
  go_enter Tryz.func137, Tryz.ntmps137
  go_wp2_with fail
  have hbX := (((Below.refl _ w).alloc (Nat.le_refl _) (.cells #[.int .i64 x, .func (.func 42) #[] #[]] 121)).alloc (by simp) (.cells #[.int .i64 u.k, .int .i64 u.x, .string u.s, .slice u.an u.ln u.cn, .slice u.ai u.li u.ci] 25)).alloc (by simp; omega) (.cells #[] 81)
  have x0 : (((w.alloc (.cells #[.int .i64 x, .func (.func 42) #[] #[]] 121)).alloc (.cells #[.int .i64 u.k, .int .i64 u.x, .string u.s, .slice u.an u.ln u.cn, .slice u.ai u.li u.ci] 25)).alloc (.cells #[] 81)).cell? ⟨w.heap.size, 0, none⟩ = some (.int .i64 x) := cell_alloc' (cell_alloc' ((cell_of (heap_alloc_new w _) 0).trans rfl) _) _
  have x1 : (((w.alloc (.cells #[.int .i64 x, .func (.func 42) #[] #[]] 121)).alloc (.cells #[.int .i64 u.k, .int .i64 u.x, .string u.s, .slice u.an u.ln u.cn, .slice u.ai u.li u.ci] 25)).alloc (.cells #[] 81)).cell? ⟨w.heap.size, 1, none⟩ = some (.func (.func 42) #[] #[]) := cell_alloc' (cell_alloc' ((cell_of (heap_alloc_new w _) 1).trans rfl) _) _
  generalize ((w.alloc (.cells #[.int .i64 x, .func (.func 42) #[] #[]] 121)).alloc (.cells #[.int .i64 u.k, .int .i64 u.x, .string u.s, .slice u.an u.ln u.cn, .slice u.ai u.li u.ci] 25)).alloc (.cells #[] 81) = X at hbX x0 x1 ⊢
  refine (hc _).out.mono ?_
  rintro e W1 ⟨rfl, hb1⟩
  have y0 := stay hb1 x0
  have y1 := stay hb1 x1
  have hB := hid_of (hbX.trans (hb1.mono hbX.size))
  clear hbX x0 x1 hb1 hc
  cases b3 with
  | true =>
    go_wp2_with fail
    refine (hl _).out.mono ?_
    rintro e Z ⟨rfl, hZ⟩
    obtain rfl : W1 = Z := hZ.symm
    clear hZ
    go_wp2_with fail
    go_ret
    exact ⟨ret_bool (by simp), hB.out⟩
  | false =>
    go_wp2_with fail
    go_ret
    exact ⟨ret_bool (by simp), hB.out⟩
end Go.Proofs.YtbcfkajcmbckbaaGreatDoor
