import Derived.Test.YthafhemlnninbaaGreatSR
/-! Stable sorting over memory: swapRange. -/
namespace Go.Proofs.YthafhemlnninbaaGreat.Sorted
open Go Go.RowKit Go.Stab
theorem wrap_in {n : Int} (h0 : 0 ≤ n) (h1 : n ≤ 9223372036854775807) : IntKind.i64.wrap n = n := by rw [IntKind.wrap_i64]; omega
theorem seven {a : Array Value} (h : a.size = 8) : ∃ x0 x1 x2 x3 x4 x5 x6 x7, a = #[x0, x1, x2, x3, x4, x5, x6, x7] := by
  obtain ⟨l⟩ := a
  simp at h
  match l, h with
  | [x0, x1, x2, x3, x4, x5, x6, x7], _ => exact ⟨x0, x1, x2, x3, x4, x5, x6, x7, rfl⟩
theorem run_st (w : World) (p : Addr) (v : Value) (h1 : v.oneCell' = true) (h2 : (w.cell? p).isSome = true) (h3 : w.frozen? p = false) : (store p v).run Tryz.prog w = .ok () (w.setCell p v) := by
  obtain ⟨u, hu⟩ := Option.isSome_iff_exists.1 h2
  rw [run_store Tryz.prog w p v _ h1, hu]
  simp [h3]
section
variable {α : Type} {enc : α → Array Value} {rv : Value}
set_option maxRecDepth 100000 in
set_option maxHeartbeats 4000000 in
theorem swapRange_any (E : Enc enc) (D : List α) (b n cap a c m : Nat) (cmp : Value) (w : World) (hR : RowE enc w b D) (hn : D.length = n) (hac : a + m ≤ c) (hcm : c + m ≤ n) (hnn : n ≤ 4611686018427387904) :
    Calls Tryz.prog 130 #[.slice (some ⟨b, 0, none⟩) n cap, .int .i64 a, .int .i64 c, .int .i64 m, cmp] w fun e w' => e = .returned (.tuple #[]) ∧ RowE enc w' b (swapL D a c m) ∧ But b w w' := by
  replace hR := hid_of hR
  replace hn := hid_of hn
  go_enter Tryz.func130, Tryz.ntmps130
  go_wp2_with fail
  go_loopw [10] (fun iv wr => ∃ i : Nat, iv = .int .i64 i ∧ i ≤ m ∧ Hid (RowE enc wr b (swapL D a c i)) ∧ Hid (But b w wr)) (fun iv _ => m - (intOf iv).toNat)
  case atStart => exact ⟨0, rfl, Nat.zero_le _, hR, hid_of (But.refl b w)⟩
  case round =>
    obtain ⟨i, rfl, him, hRi, hBi⟩ := hrel
    by_cases hi : i < m
    · have i1 : (i : Int) < (m : Int) := by omega
      obtain ⟨x, hx⟩ : ∃ x, Hid (D[a + i]? = some x) := ⟨D[a + i]'(by have := hn.out; omega), List.getElem?_eq_getElem (by have := hn.out; omega)⟩
      obtain ⟨y, hy⟩ : ∃ y, Hid (D[c + i]? = some y) := ⟨D[c + i]'(by have := hn.out; omega), List.getElem?_eq_getElem (by have := hn.out; omega)⟩
      obtain ⟨A, hA⟩ : ∃ A, Hid (a + i = A) := ⟨_, rfl⟩
      obtain ⟨C, hC⟩ : ∃ C, Hid (c + i = C) := ⟨_, rfl⟩
      have eA : IntKind.i64.wrap ((a : Int) + (i : Int)) = (A : Int) := by rw [wrap_in (by omega) (by omega)]; have := hA.out; omega
      have eC : IntKind.i64.wrap ((c : Int) + (i : Int)) = (C : Int) := by rw [wrap_in (by omega) (by omega)]; have := hC.out; omega
      have bA : (A : Int) < (n : Int) := by have := hA.out; omega
      have bC : (C : Int) < (n : Int) := by have := hC.out; omega
      have pA : (0 : Int) ≤ (A : Int) := by omega
      have pC : (0 : Int) ≤ (C : Int) := by omega
      have hx' : (swapL D a c i)[A]? = some x := by rw [← hA.out, swapL_ahead D a c i i (Nat.le_refl _) (by omega)]; exact hx.out
      have hy' : (swapL D a c i)[C]? = some y := by rw [← hC.out, swapL_behind D a c i i (Nat.le_refl _) (by omega)]; exact hy.out
      obtain ⟨gx1, gx2⟩ := hRi.out A x hx'
      obtain ⟨gy1, gy2⟩ := hRi.out C y hy'
      have hlA : A < (swapL D a c i).length := (List.getElem?_eq_some_iff.1 hx').1
      have hlC : C < (swapL D a c i).length := (List.getElem?_eq_some_iff.1 hy').1
      have hend : Hid (RowE enc ((wr.setCells b (A * 8) (enc y).toList).setCells b (C * 8) (enc x).toList).drew b (swapL D a c (i + 1)) ∧ But b w ((wr.setCells b (A * 8) (enc y).toList).setCells b (C * 8) (enc x).toList).drew) := by
        refine ⟨?_, ((hBi.out.trans (setCells_but b _ _ _)).trans (setCells_but b _ _ _)).drew⟩
        have h2 := (hRi.out.set E hlA y).set E (j := C) (by simpa using hlC) x
        have e : swapL D a c (i + 1) = ((swapL D a c i).set A y).set C x := by
          rw [swapL, hx.out, hy.out, hA.out, hC.out]
        rw [e]
        exact h2.drew
      obtain ⟨x0, x1, x2, x3, x4, x5, x6, x7, ex⟩ := seven (E.size x)
      obtain ⟨y0, y1, y2, y3, y4, y5, y6, y7, ey⟩ := seven (E.size y)
      have ox : ∀ (r : Nat) u, (enc x)[r]? = some u → u.oneCell' = true := fun r u hu => Array.all_eq_true_iff_forall_mem.1 (E.one x) u (Array.mem_of_getElem? hu)
      have oy : ∀ (r : Nat) u, (enc y)[r]? = some u → u.oneCell' = true := fun r u hu => Array.all_eq_true_iff_forall_mem.1 (E.one y) u (Array.mem_of_getElem? hu)
      have gx1 : ∀ (r : Nat) u, (enc x)[r]? = some u → wr.cell? ⟨b, A * 8 + r, none⟩ = some u := fun r u hu => by have := gx1 r u (by simpa using hu); simpa using this
      have gy1 : ∀ (r : Nat) u, (enc y)[r]? = some u → wr.cell? ⟨b, C * 8 + r, none⟩ = some u := fun r u hu => by have := gy1 r u (by simpa using hu); simpa using this
      have gx2 : ∀ (r : Nat), r < 8 → (wr.cell? ⟨b, A * 8 + r, none⟩).isSome = true ∧ wr.frozen? ⟨b, A * 8 + r, none⟩ = false := fun r hr => by have := gx2 r hr; simpa using this
      have gy2 : ∀ (r : Nat), r < 8 → (wr.cell? ⟨b, C * 8 + r, none⟩).isSome = true ∧ wr.frozen? ⟨b, C * 8 + r, none⟩ = false := fun r hr => by have := gy2 r hr; simpa using this
      have xc0 : wr.cell? ⟨b, A * 8, none⟩ = some x0 := gx1 0 x0 (by rw [ex]; rfl)
      have xf0 : wr.frozen? ⟨b, A * 8, none⟩ = false := (gx2 0 (by omega)).2
      have xo0 : x0.oneCell' = true := ox 0 x0 (by rw [ex]; rfl)
      have xc1 : wr.cell? ⟨b, A * 8 + 1, none⟩ = some x1 := gx1 1 x1 (by rw [ex]; rfl)
      have xf1 : wr.frozen? ⟨b, A * 8 + 1, none⟩ = false := (gx2 1 (by omega)).2
      have xo1 : x1.oneCell' = true := ox 1 x1 (by rw [ex]; rfl)
      have xc2 : wr.cell? ⟨b, A * 8 + 2, none⟩ = some x2 := gx1 2 x2 (by rw [ex]; rfl)
      have xf2 : wr.frozen? ⟨b, A * 8 + 2, none⟩ = false := (gx2 2 (by omega)).2
      have xo2 : x2.oneCell' = true := ox 2 x2 (by rw [ex]; rfl)
      have xc3 : wr.cell? ⟨b, A * 8 + 3, none⟩ = some x3 := gx1 3 x3 (by rw [ex]; rfl)
      have xf3 : wr.frozen? ⟨b, A * 8 + 3, none⟩ = false := (gx2 3 (by omega)).2
      have xo3 : x3.oneCell' = true := ox 3 x3 (by rw [ex]; rfl)
      have xc4 : wr.cell? ⟨b, A * 8 + 4, none⟩ = some x4 := gx1 4 x4 (by rw [ex]; rfl)
      have xf4 : wr.frozen? ⟨b, A * 8 + 4, none⟩ = false := (gx2 4 (by omega)).2
      have xo4 : x4.oneCell' = true := ox 4 x4 (by rw [ex]; rfl)
      have xc5 : wr.cell? ⟨b, A * 8 + 5, none⟩ = some x5 := gx1 5 x5 (by rw [ex]; rfl)
      have xf5 : wr.frozen? ⟨b, A * 8 + 5, none⟩ = false := (gx2 5 (by omega)).2
      have xo5 : x5.oneCell' = true := ox 5 x5 (by rw [ex]; rfl)
      have xc6 : wr.cell? ⟨b, A * 8 + 6, none⟩ = some x6 := gx1 6 x6 (by rw [ex]; rfl)
      have xc7 : wr.cell? ⟨b, A * 8 + 7, none⟩ = some x7 := gx1 7 x7 (by rw [ex]; rfl)
      have xf6 : wr.frozen? ⟨b, A * 8 + 6, none⟩ = false := (gx2 6 (by omega)).2
      have xf7 : wr.frozen? ⟨b, A * 8 + 7, none⟩ = false := (gx2 7 (by omega)).2
      have xo6 : x6.oneCell' = true := ox 6 x6 (by rw [ex]; rfl)
      have xo7 : x7.oneCell' = true := ox 7 x7 (by rw [ex]; rfl)
      have yc0 : wr.cell? ⟨b, C * 8, none⟩ = some y0 := gy1 0 y0 (by rw [ey]; rfl)
      have yf0 : wr.frozen? ⟨b, C * 8, none⟩ = false := (gy2 0 (by omega)).2
      have yo0 : y0.oneCell' = true := oy 0 y0 (by rw [ey]; rfl)
      have yc1 : wr.cell? ⟨b, C * 8 + 1, none⟩ = some y1 := gy1 1 y1 (by rw [ey]; rfl)
      have yf1 : wr.frozen? ⟨b, C * 8 + 1, none⟩ = false := (gy2 1 (by omega)).2
      have yo1 : y1.oneCell' = true := oy 1 y1 (by rw [ey]; rfl)
      have yc2 : wr.cell? ⟨b, C * 8 + 2, none⟩ = some y2 := gy1 2 y2 (by rw [ey]; rfl)
      have yf2 : wr.frozen? ⟨b, C * 8 + 2, none⟩ = false := (gy2 2 (by omega)).2
      have yo2 : y2.oneCell' = true := oy 2 y2 (by rw [ey]; rfl)
      have yc3 : wr.cell? ⟨b, C * 8 + 3, none⟩ = some y3 := gy1 3 y3 (by rw [ey]; rfl)
      have yf3 : wr.frozen? ⟨b, C * 8 + 3, none⟩ = false := (gy2 3 (by omega)).2
      have yo3 : y3.oneCell' = true := oy 3 y3 (by rw [ey]; rfl)
      have yc4 : wr.cell? ⟨b, C * 8 + 4, none⟩ = some y4 := gy1 4 y4 (by rw [ey]; rfl)
      have yf4 : wr.frozen? ⟨b, C * 8 + 4, none⟩ = false := (gy2 4 (by omega)).2
      have yo4 : y4.oneCell' = true := oy 4 y4 (by rw [ey]; rfl)
      have yc5 : wr.cell? ⟨b, C * 8 + 5, none⟩ = some y5 := gy1 5 y5 (by rw [ey]; rfl)
      have yf5 : wr.frozen? ⟨b, C * 8 + 5, none⟩ = false := (gy2 5 (by omega)).2
      have yo5 : y5.oneCell' = true := oy 5 y5 (by rw [ey]; rfl)
      have yc6 : wr.cell? ⟨b, C * 8 + 6, none⟩ = some y6 := gy1 6 y6 (by rw [ey]; rfl)
      have yc7 : wr.cell? ⟨b, C * 8 + 7, none⟩ = some y7 := gy1 7 y7 (by rw [ey]; rfl)
      have yf6 : wr.frozen? ⟨b, C * 8 + 6, none⟩ = false := (gy2 6 (by omega)).2
      have yf7 : wr.frozen? ⟨b, C * 8 + 7, none⟩ = false := (gy2 7 (by omega)).2
      have yo6 : y6.oneCell' = true := oy 6 y6 (by rw [ey]; rfl)
      have yo7 : y7.oneCell' = true := oy 7 y7 (by rw [ey]; rfl)
      have n1 : ∀ r s, r < 8 → s < 8 → (C * 8 + r = A * 8 + s) = False := fun r s h1 h2 => eq_false (by have := hA.out; have := hC.out; omega)
      have n2 : ∀ s, s < 8 → (C * 8 = A * 8 + s) = False := fun s h2 => eq_false (by have := hA.out; have := hC.out; omega)
      have n3 : ∀ r, r < 8 → (C * 8 + r = A * 8) = False := fun r h1 => eq_false (by have := hA.out; have := hC.out; omega)
      have n4 : (C * 8 = A * 8) = False := eq_false (by have := hA.out; have := hC.out; omega)
      have n5 : ∀ r s, r < 8 → s < 8 → (A * 8 + s = C * 8 + r) = False := fun r s h1 h2 => eq_false (by have := hA.out; have := hC.out; omega)
      have n6 : ∀ s, s < 8 → (A * 8 + s = C * 8) = False := fun s h2 => eq_false (by have := hA.out; have := hC.out; omega)
      have n7 : ∀ r, r < 8 → (A * 8 = C * 8 + r) = False := fun r h1 => eq_false (by have := hA.out; have := hC.out; omega)
      have n8 : (A * 8 = C * 8) = False := eq_false (by have := hA.out; have := hC.out; omega)
      rw [ex, ey] at hend
      clear hx' hy' gx1 gy1 gx2 gy2 hlA hlC hRi hBi ox oy
      have hst := run_st
      go_upto_region 3 with fail
      go_region
      all_goals
        obtain ⟨X, hX⟩ : ∃ X, Hid (((((((((((((((((wr.setCell ⟨b, A * 8, none⟩ y0).setCell ⟨b, A * 8 + 1, none⟩ y1).setCell ⟨b, A * 8 + 2, none⟩ y2).setCell ⟨b, A * 8 + 3, none⟩ y3).setCell ⟨b, A * 8 + 4, none⟩ y4).setCell ⟨b, A * 8 + 5, none⟩ y5).setCell ⟨b, A * 8 + 6, none⟩ y6).setCell ⟨b, A * 8 + 7, none⟩ y7).setCell ⟨b, C * 8, none⟩ x0).setCell ⟨b, C * 8 + 1, none⟩ x1).setCell ⟨b, C * 8 + 2, none⟩ x2).setCell ⟨b, C * 8 + 3, none⟩ x3).setCell ⟨b, C * 8 + 4, none⟩ x4).setCell ⟨b, C * 8 + 5, none⟩ x5).setCell ⟨b, C * 8 + 6, none⟩ x6).setCell ⟨b, C * 8 + 7, none⟩ x7).drew = X) := ⟨_, rfl⟩
        have hfin : Hid (RowE enc X b (swapL D a c (i + 1)) ∧ But b w X) := by rw [← hX.out]; exact hend.out
        rw [hX.out]
        clear hend hst n1 n2 n3 n4 n5 n6 n7 n8 xc0 xf0 xo0 xc1 xf1 xo1 xc2 xf2 xo2 xc3 xf3 xo3 xc4 xf4 xo4 xc5 xf5 xo5 xc6 xc7 xf6 xf7 xo6 xo7 yc0 yf0 yo0 yc1 yf1 yo1 yc2 yf2 yo2 yc3 yf3 yo3 yc4 yf4 yo4 yc5 yf5 yo5 yc6 yc7 yf6 yf7 yo6 yo7
        go_wp2_with fail
        exact ⟨⟨i + 1, by go_num, by omega, hfin.out.1, hfin.out.2⟩, by simp [intOf]; omega⟩
    · have i1 : ¬ (i : Int) < (m : Int) := by omega
      obtain rfl : i = m := by omega
      go_wp2_with fail
      exact bodyPost_end (results_none rfl _ _ _) rfl ⟨rfl, hRi.out, hBi.out⟩
end
end Go.Proofs.YthafhemlnninbaaGreat.Sorted
