import Derived.Test.YthafhemlnninbaaGreatST
/-! Stable sorting over memory: the sort by insertion. -/
namespace Go.Proofs.YthafhemlnninbaaGreat.Sorted
open Go Go.RowKit Go.Stab
theorem k_quiet_if {c : Bool} {p q : Prop} (h : c = true) (hp : p) : if c = true then p else q := by rw [if_pos h]; exact hp
theorem k_quiet_else {c : Bool} {p q : Prop} (h : c = false) (hq : q) : if c = true then p else q := by rw [if_neg (by simp [h])]; exact hq
section
variable {α : Type} {enc : α → Array Value} {rv : Value}
theorem isort_few (lt : α → α → Bool) {l : List α} (h : l.length ≤ 1) : isort lt l = l := by
  match l, h with
  | [], _ => rfl
  | [x], _ => simp [isort, mergeL]
/-- Where the insertion of y stands: behind L1, ahead of L2. -/
structure Ins (enc : α → Array Value) (lt : α → α → Bool) (w0 : World) (b n : Nat) (A S : List α) (y : α) (R : List α) (j : Nat) (w : World) (L1 L2 : List α) : Prop where
  spl : L1 ++ L2 = S
  at_ : A.length + L1.length = j
  len : A.length + S.length + 1 + R.length = n
  row : RowE enc w b (A ++ (L1 ++ (y :: (L2 ++ R))))
  up : ∀ x ∈ L2, lt y x = true
  but : But b w0 w
theorem Ins.dlen {lt : α → α → Bool} {w0 w : World} {b n j : Nat} {A S R L1 L2 : List α} {y : α} (h : Ins enc lt w0 b n A S y R j w L1 L2) : (A ++ (L1 ++ (y :: (L2 ++ R)))).length = n := by
  have h1 := congrArg List.length h.spl
  have h2 := h.len
  simp at h1 ⊢
  omega
theorem set_two (A L : List α) (x y : α) (t : List α) (p : Nat) (hp : A.length + L.length = p) : ((A ++ ((L ++ [x]) ++ (y :: t))).set (p + 1) x).set p y = A ++ (L ++ (y :: ((x :: t)))) := by
  have e : A ++ ((L ++ [x]) ++ (y :: t)) = (A ++ L) ++ (x :: y :: t) := by simp
  have hl : (A ++ L).length = p := by simp [hp]
  rw [e, List.set_append_right _ _ (by omega), List.set_append_right _ _ (by omega), hl, show p + 1 - p = 1 by omega, show p - p = 0 by omega]
  simp
theorem Ins.put {lt : α → α → Bool} {w0 w w' : World} {b n j p : Nat} {A S R L L2 : List α} {x y : α} (h : Ins enc lt w0 b n A S y R j w (L ++ [x]) L2) (hj : p + 1 = j) (hlt : lt y x = true) (hr : RowE enc w' b (((A ++ ((L ++ [x]) ++ (y :: (L2 ++ R)))).set j x).set p y)) (hb : But b w w') : Ins enc lt w0 b n A S y R p w' L (x :: L2) := by
  have hp : A.length + L.length = p := by have := h.at_; simp at this; omega
  subst hj
  rw [set_two A L x y _ p hp] at hr
  refine ⟨by rw [← h.spl]; simp, hp, h.len, hr, fun z hz => ?_, h.but.trans hb⟩
  rcases List.mem_cons.1 hz with rfl | hz
  · exact hlt
  · exact h.up z hz
theorem Ins.done {lt : α → α → Bool} (W : Swo lt) {w0 w : World} {b n j : Nat} {A S R L1 L2 : List α} {y : α} (h : Ins enc lt w0 b n A S y R j w L1 L2) (hS : Up lt S) (hlt : ∀ L x, L1 = L ++ [x] → lt y x = false) : A ++ (L1 ++ (y :: (L2 ++ R))) = A ++ (mergeL lt S [y] ++ R) := by
  rw [← h.spl, mergeL_last lt y L1 L2 ?_ h.up]
  · simp
  · rcases List.eq_nil_or_concat L1 with e | ⟨L, x, e⟩
    · rw [e]; intro x hx; cases hx
    · have hx := hlt L x (by simpa using e)
      have e' : L1 = L ++ [x] := by simpa using e
      intro z hz
      rw [← h.spl, e'] at hS
      have hu := (Up.append (Up.append hS).1).2.2
      rw [e'] at hz
      rcases List.mem_append.1 hz with hz | hz
      · exact W.neg y x z hx (hu z hz x (by simp))
      · rw [List.mem_singleton.1 hz]; exact hx
theorem lt_of_cell {W : World} {p : Addr} {v : Value} (h : W.cell? p = some v) : p.block < W.heap.size := by
  rcases Nat.lt_or_ge p.block W.heap.size with h' | h'
  · exact h'
  · simp [World.cell?, Array.getElem?_eq_none h'] at h
theorem stay {w w' : World} (h : Below w.heap.size w w') {p : Addr} {v : Value} (hc : w.cell? p = some v) : w'.cell? p = some v := (h.cell (lt_of_cell hc)).trans hc
theorem RowE.lt {w : World} {b : Nat} {D : List α} (h : RowE enc w b D) {j : Nat} {x : α} (hx : D[j]? = some x) : b < w.heap.size := by
  obtain ⟨-, h2⟩ := h j x hx
  have h3 := (h2 0 (by omega)).1
  obtain ⟨u, hu⟩ := Option.isSome_iff_exists.1 h3
  exact lt_of_cell hu
theorem Ins.keep {lt : α → α → Bool} {w0 w w' : World} {b n j : Nat} {A S R L1 L2 : List α} {y : α} (h : Ins enc lt w0 b n A S y R j w L1 L2) (hb : Below w.heap.size w w') : Ins enc lt w0 b n A S y R j w' L1 L2 := by
  refine ⟨h.spl, h.at_, h.len, h.row.keep (hb.block b (h.row.lt (j := A.length + L1.length) (x := y) ?_)), h.up, h.but.trans (But.of_below hb)⟩
  rw [List.getElem?_append_right (by omega), List.getElem?_append_right (by omega)]
  simp
set_option maxRecDepth 100000 in
set_option maxHeartbeats 4000000 in
theorem insert_any (E : Enc enc) {lt : α → α → Bool} (O : Swo lt) {b : Nat} {w0 : World} (cn : α → α → Int) (hlt : ∀ x y, lt x y = decide (cn x y < 0)) (hcmp : ∀ x y W, But b w0 W → Calls Tryz.prog 38 #[rv, .agg (enc x), .agg (enc y)] W fun e w' => e = .returned (.int .i64 (cn x y)) ∧ Below W.heap.size W w')
    (A M B : List α) (n cap a c : Nat) (w : World) (hw0 : But b w0 w) (hR : RowE enc w b (A ++ (M ++ B))) (ha : A.length = a) (hc : a + M.length = c) (hn : c + B.length = n) (hnn : n ≤ 4611686018427387904) :
    Calls Tryz.prog 92 #[.slice (some ⟨b, 0, none⟩) n cap, .int .i64 a, .int .i64 c, .func (.func 38) #[rv] #[]] w fun e w' => e = .returned (.tuple #[]) ∧ RowE enc w' b (A ++ (isort lt M ++ B)) ∧ But b w w' := by
  replace hlt := hid_of hlt
  replace hcmp := hid_of hcmp
  replace hw0 := hid_of hw0
  have h0 : Hid (RowE enc w b (A ++ (isort lt (M.take (0 + 1)) ++ (M.drop (0 + 1) ++ B)))) := by
    rw [isort_few lt (by simp; omega), ← List.append_assoc (M.take _), List.take_append_drop]
    exact hR
  have f1 : (a : Int) ≤ (c : Int) := by omega
  have f2 : (c : Int) ≤ (n : Int) := by omega
  have f3 : (n : Int) ≤ 4611686018427387904 := by omega
  have f4 : (0 : Int) ≤ (a : Int) := by omega
  have f5 : (a : Int) ≤ 4611686018427387904 := by omega
  replace ha := hid_of ha
  replace hc := hid_of hc
  replace hn := hid_of hn
  clear hR
  go_enter Tryz.func92, Tryz.ntmps92
  go_wp2_with fail
  go_loopw [8] (fun iv wr => ∃ i k : Nat, iv = .int .i64 i ∧ i = a + 1 + k ∧ (k + 1 ≤ M.length ∨ k = 0) ∧ Hid (RowE enc wr b (A ++ (isort lt (M.take (k + 1)) ++ (M.drop (k + 1) ++ B)))) ∧ Hid (But b w wr)) (fun iv _ => c - (intOf iv).toNat)
  case atStart => exact ⟨a + 1, 0, by go_num, rfl, .inr rfl, h0, hid_of (But.refl b w)⟩
  case round =>
    clear h0
    obtain ⟨i, k, rfl, hi, hk, hRi, hBi⟩ := hrel
    by_cases hic : i < c
    · have i1 : (i : Int) < (c : Int) := by omega
      have hk' : k + 1 < M.length := by have := hc.out; omega
      obtain ⟨S, hS⟩ : ∃ S, Hid (isort lt (M.take (k + 1)) = S) := ⟨_, rfl⟩
      obtain ⟨y, hy⟩ : ∃ y, Hid (M[k + 1] = y) := ⟨M[k + 1], rfl⟩
      have hd : M.drop (k + 1) = y :: M.drop (k + 1 + 1) := by rw [← hy.out]; exact List.drop_eq_getElem_cons hk'
      have hnx : Hid (isort lt (M.take (k + 1 + 1)) = mergeL lt S [y]) := by
        show isort lt (M.take (k + 1 + 1)) = mergeL lt S [y]
        rw [List.take_succ_eq_append_getElem hk', isort_snoc, hS.out, hy.out]
      have hSl : S.length = k + 1 := by rw [← hS.out, isort_length, List.length_take]; omega
      have hSu : Hid (Up lt S) := by rw [← hS.out]; exact isort_up O _
      have hi0 : Hid (Ins enc lt w b n A S y (M.drop (k + 1 + 1) ++ B) i wr S []) := by
        refine ⟨by simp, by rw [ha.out, hSl]; omega, ?_, ?_, by simp, hBi.out⟩
        · have := hn.out; have := hc.out; have := ha.out; simp; omega
        · have := hRi.out
          rw [hS.out, hd] at this
          simpa using this
      replace hi := hid_of hi
      replace hk' := hid_of hk'
      have i2 : (0 : Int) ≤ (i : Int) := by omega
      have hfin : Hid (∀ j wr L1 L2, Ins enc lt w b n A S y (M.drop (k + 1 + 1) ++ B) j wr L1 L2 → (∀ L x, L1 = L ++ [x] → lt y x = false) → Hid (RowE enc wr b (A ++ (isort lt (M.take (k + 1 + 1)) ++ (M.drop (k + 1 + 1) ++ B)))) ∧ Hid (But b w wr)) := by
        intro j wr L1 L2 h1 h2
        refine ⟨?_, h1.but⟩
        have h3 := h1.row
        rw [h1.done O hSu.out h2] at h3
        rw [hnx.out]
        exact h3
      clear hRi hBi hS hy hd hk hic hSl hnx hSu
      go_wp2_with fail
      go_loopw [9] (fun jv wr => ∃ (j : Nat) (L1 L2 : List α), jv = .int .i64 j ∧ Hid (Ins enc lt w b n A S y (M.drop (k + 1 + 1) ++ B) j wr L1 L2)) (fun jv _ => (intOf jv).toNat)
      case atStart => exact ⟨i, S, [], rfl, hi0⟩
      case round =>
        obtain ⟨j, L1, L2, rfl, hI⟩ := hrel
        rcases List.eq_nil_or_concat L1 with e | ⟨L, x, e⟩
        · subst e
          have hj : j = a := by have := hI.out.at_; have := ha.out; simp at *; omega
          have hz := hid_of (fun w' hw' => hfin.out _ w' _ _ (hI.out.keep (w' := w') hw') (fun L x e => by simp at e))
          have j1 : ¬ (a : Int) < (j : Int) := by omega
          have j2 : j ≤ a := by omega
          replace hj := hid_of hj
          clear hI hfin
          go_wp2_with fail
          refine wp_region_quiet (C := fun w' => Below wr.heap.size wr w') (by kernel_rfl) (by kernel_rfl) (below_drewN (Below.refl _ _) 1) ?_
          with_reducible refine wpQuiet_step (fun K hK => ?_)
          refine ⟨.int .i64 j, fun w' _ => ?_, ?_⟩
          · first | (go_simp; done) | (go_simp; decide) | (go_simp; omega)
          with_reducible refine hK _ ?_
          clear hK K
          simp only [Act.put, List.setIfInBounds_toArray, List.set_cons_zero, List.set_cons_succ]
          with_reducible refine wpQuiet_step (fun K hK => ?_)
          refine ⟨.int .i64 a, fun w' _ => ?_, ?_⟩
          · first | (go_simp; done) | (go_simp; decide) | (go_simp; omega)
          with_reducible refine hK _ ?_
          clear hK K
          simp only [Act.put, List.setIfInBounds_toArray, List.set_cons_zero, List.set_cons_succ]
          with_reducible refine wpQuiet_step (fun K hK => ?_)
          refine ⟨.bool false, fun w' _ => ?_, ?_⟩
          · first | (go_simp; done) | (go_simp; decide) | (go_simp; omega)
          with_reducible refine hK _ ?_
          clear hK K
          simp only [Act.put, List.setIfInBounds_toArray, List.set_cons_zero, List.set_cons_succ]
          with_reducible refine wpQuiet_step (fun K hK => ?_)
          refine ⟨.bool false, fun w' _ => ?_, ?_⟩
          · first | (go_simp; done) | (go_simp; decide) | (go_simp; omega)
          with_reducible refine hK _ ?_
          clear hK K
          simp only [Act.put, List.setIfInBounds_toArray, List.set_cons_zero, List.set_cons_succ]
          with_reducible refine wpQuiet_step (fun K hK => ?_)
          refine k_quiet_else (by kernel_rfl) ?_
          with_reducible refine hK _ ?_
          clear hK K
          simp only [Act.put, List.setIfInBounds_toArray, List.set_cons_zero, List.set_cons_succ]
          with_reducible refine wpQuiet_step (fun K hK => ?_)
          refine k_quiet_else (by kernel_rfl) ?_
          with_reducible refine hK _ ?_
          clear hK K
          simp only [Act.put, List.setIfInBounds_toArray, List.set_cons_zero, List.set_cons_succ]
          with_reducible refine wpQuiet_step (fun K hK => ?_)
          refine k_quiet_else (by kernel_rfl) ?_
          with_reducible refine hK _ ?_
          clear hK K
          simp only [Act.put, List.setIfInBounds_toArray, List.set_cons_zero, List.set_cons_succ]
          with_reducible refine wpQuiet_step (fun K hK => ?_)
          refine k_quiet_else (by kernel_rfl) ?_
          with_reducible refine hK _ ?_
          clear hK K
          simp only [Act.put, List.setIfInBounds_toArray, List.set_cons_zero, List.set_cons_succ]
          with_reducible refine wpQuiet_step (fun K hK => ?_)
          refine k_quiet_else (by kernel_rfl) ?_
          with_reducible refine hK _ ?_
          clear hK K
          simp only [Act.put, List.setIfInBounds_toArray, List.set_cons_zero, List.set_cons_succ]
          with_reducible refine wpQuiet_step (fun K hK => ?_)
          refine k_quiet_else (by kernel_rfl) ?_
          with_reducible refine hK _ ?_
          clear hK K
          simp only [Act.put, List.setIfInBounds_toArray, List.set_cons_zero, List.set_cons_succ]
          with_reducible refine wpQuiet_step (fun K hK => ?_)
          refine k_quiet_else (by kernel_rfl) ?_
          with_reducible refine hK _ ?_
          clear hK K
          simp only [Act.put, List.setIfInBounds_toArray, List.set_cons_zero, List.set_cons_succ]
          with_reducible refine wpQuiet_step (fun K hK => ?_)
          refine k_quiet_else (by kernel_rfl) ?_
          with_reducible refine hK _ ?_
          clear hK K
          simp only [Act.put, List.setIfInBounds_toArray, List.set_cons_zero, List.set_cons_succ]
          with_reducible refine wpQuiet_step (fun K hK => ?_)
          refine k_quiet_else (by kernel_rfl) ?_
          with_reducible refine hK _ ?_
          clear hK K
          simp only [Act.put, List.setIfInBounds_toArray, List.set_cons_zero, List.set_cons_succ]
          with_reducible refine wpQuiet_step (fun K hK => ?_)
          refine k_quiet_else (by kernel_rfl) ?_
          with_reducible refine hK _ ?_
          clear hK K
          simp only [Act.put, List.setIfInBounds_toArray, List.set_cons_zero, List.set_cons_succ]
          with_reducible refine wpQuiet_step (fun K hK => ?_)
          refine k_quiet_else (by kernel_rfl) ?_
          with_reducible refine hK _ ?_
          clear hK K
          simp only [Act.put, List.setIfInBounds_toArray, List.set_cons_zero, List.set_cons_succ]
          with_reducible refine wpQuiet_step (fun K hK => ?_)
          refine k_quiet_else (by kernel_rfl) ?_
          with_reducible refine hK _ ?_
          clear hK K
          simp only [Act.put, List.setIfInBounds_toArray, List.set_cons_zero, List.set_cons_succ]
          with_reducible refine wpQuiet_step (fun K hK => ?_)
          refine ⟨.bool false, fun w' _ => ?_, ?_⟩
          · first | (go_simp; done) | (go_simp; decide) | (go_simp; omega)
          with_reducible refine hK _ ?_
          clear hK K
          simp only [Act.put, List.setIfInBounds_toArray, List.set_cons_zero, List.set_cons_succ]
          refine wpQuiet_nil ?_
          intro X1 hX1
          have hz' := hid_of (hz.out _ hX1)
          clear hz hX1
          go_wp2_with fail
          exact ⟨⟨i + 1, k + 1, by go_num, by have := hi.out; omega, .inl hk'.out, hz'.out.1, hz'.out.2⟩, by simp [intOf]; omega⟩
        · have e' : L1 = L ++ [x] := by simpa using e
          subst e'
          clear e
          obtain ⟨p, hp⟩ : ∃ p, Hid (A.length + L.length = p) := ⟨_, rfl⟩
          have hpj : p + 1 = j := by have := hI.out.at_; have := hp.out; simp at *; omega
          have hjn : j < n := by have := hI.out.dlen; have := hI.out.at_; simp at *; omega
          have hap : a ≤ p := by have := ha.out; have := hp.out; omega
          have j1 : (a : Int) < (j : Int) := by omega
          have j2 : (j : Int) < (n : Int) := by omega
          have j3 : (0 : Int) ≤ (j : Int) := by omega
          have j4 : (p : Int) < (n : Int) := by omega
          have j5 : (0 : Int) ≤ (p : Int) := by omega
          have j6 : IntKind.i64.wrap ((j : Int) - 1) = (p : Int) := by rw [wrap_in (by omega) (by omega)]; omega
          have hy' : (A ++ ((L ++ [x]) ++ (y :: (L2 ++ (M.drop (k + 1 + 1) ++ B)))))[j]? = some y := by
            rw [List.getElem?_append_right (by have := hp.out; omega), List.getElem?_append_right (by have := hp.out; simp; omega)]
            have : j - A.length - (L ++ [x]).length = 0 := by have := hp.out; simp; omega
            rw [this]; rfl
          have hx' : (A ++ ((L ++ [x]) ++ (y :: (L2 ++ (M.drop (k + 1 + 1) ++ B)))))[p]? = some x := by
            rw [List.getElem?_append_right (by have := hp.out; omega), List.getElem?_append_left (by have := hp.out; simp; omega), List.getElem?_append_right (by have := hp.out; omega)]
            have : p - A.length - L.length = 0 := by have := hp.out; omega
            rw [this]; rfl
          obtain ⟨gx1, gx2⟩ := hI.out.row p x hx'
          obtain ⟨gy1, gy2⟩ := hI.out.row j y hy'
          replace hpj := hid_of hpj
          clear hjn hap
          obtain ⟨x0, x1, x2, x3, x4, x5, x6, x7, ex⟩ := seven (E.size x)
          obtain ⟨y0, y1, y2, y3, y4, y5, y6, y7, ey⟩ := seven (E.size y)
          have gx1 : ∀ (r : Nat) u, (enc x)[r]? = some u → wr.cell? ⟨b, p * 8 + r, none⟩ = some u := fun r u hu => by have := gx1 r u (by simpa using hu); simpa using this
          have gy1 : ∀ (r : Nat) u, (enc y)[r]? = some u → wr.cell? ⟨b, j * 8 + r, none⟩ = some u := fun r u hu => by have := gy1 r u (by simpa using hu); simpa using this
          have xc0 : wr.cell? ⟨b, p * 8, none⟩ = some x0 := gx1 0 x0 (by rw [ex]; rfl)
          have xc1 : wr.cell? ⟨b, p * 8 + 1, none⟩ = some x1 := gx1 1 x1 (by rw [ex]; rfl)
          have xc2 : wr.cell? ⟨b, p * 8 + 2, none⟩ = some x2 := gx1 2 x2 (by rw [ex]; rfl)
          have xc3 : wr.cell? ⟨b, p * 8 + 3, none⟩ = some x3 := gx1 3 x3 (by rw [ex]; rfl)
          have xc4 : wr.cell? ⟨b, p * 8 + 4, none⟩ = some x4 := gx1 4 x4 (by rw [ex]; rfl)
          have xc5 : wr.cell? ⟨b, p * 8 + 5, none⟩ = some x5 := gx1 5 x5 (by rw [ex]; rfl)
          have xc6 : wr.cell? ⟨b, p * 8 + 6, none⟩ = some x6 := gx1 6 x6 (by rw [ex]; rfl)
          have xc7 : wr.cell? ⟨b, p * 8 + 7, none⟩ = some x7 := gx1 7 x7 (by rw [ex]; rfl)
          have yc0 : wr.cell? ⟨b, j * 8, none⟩ = some y0 := gy1 0 y0 (by rw [ey]; rfl)
          have yc1 : wr.cell? ⟨b, j * 8 + 1, none⟩ = some y1 := gy1 1 y1 (by rw [ey]; rfl)
          have yc2 : wr.cell? ⟨b, j * 8 + 2, none⟩ = some y2 := gy1 2 y2 (by rw [ey]; rfl)
          have yc3 : wr.cell? ⟨b, j * 8 + 3, none⟩ = some y3 := gy1 3 y3 (by rw [ey]; rfl)
          have yc4 : wr.cell? ⟨b, j * 8 + 4, none⟩ = some y4 := gy1 4 y4 (by rw [ey]; rfl)
          have yc5 : wr.cell? ⟨b, j * 8 + 5, none⟩ = some y5 := gy1 5 y5 (by rw [ey]; rfl)
          have yc6 : wr.cell? ⟨b, j * 8 + 6, none⟩ = some y6 := gy1 6 y6 (by rw [ey]; rfl)
          have yc7 : wr.cell? ⟨b, j * 8 + 7, none⟩ = some y7 := gy1 7 y7 (by rw [ey]; rfl)
          have hwB := hid_of (hw0.out.trans hI.out.but)
          have hcx := hid_of (hcmp.out y x)
          rw [ex, ey] at hcx
          clear gx1 gx2 gy1 gy2
          replace hx' := hid_of hx'
          replace hy' := hid_of hy'
          go_wp2_with fail
          refine wp_region_quiet (C := fun w' => Below wr.heap.size wr w') (by kernel_rfl) (by kernel_rfl) (below_drewN (Below.refl _ _) 1) ?_
          with_reducible refine wpQuiet_step (fun K hK => ?_)
          try refine k_quiet_if (by kernel_rfl) ?_
          refine ⟨.int .i64 j, fun w' _ => ?_, ?_⟩
          · first | (go_simp; done) | (go_simp; decide)
          with_reducible refine hK _ ?_
          clear hK K
          simp only [Act.put, List.setIfInBounds_toArray, List.set_cons_zero, List.set_cons_succ]
          with_reducible refine wpQuiet_step (fun K hK => ?_)
          try refine k_quiet_if (by kernel_rfl) ?_
          refine ⟨.int .i64 a, fun w' _ => ?_, ?_⟩
          · first | (go_simp; done) | (go_simp; decide)
          with_reducible refine hK _ ?_
          clear hK K
          simp only [Act.put, List.setIfInBounds_toArray, List.set_cons_zero, List.set_cons_succ]
          with_reducible refine wpQuiet_step (fun K hK => ?_)
          try refine k_quiet_if (by kernel_rfl) ?_
          refine ⟨.bool true, fun w' _ => ?_, ?_⟩
          · first | (go_simp; done) | (go_simp; decide)
          with_reducible refine hK _ ?_
          clear hK K
          simp only [Act.put, List.setIfInBounds_toArray, List.set_cons_zero, List.set_cons_succ]
          with_reducible refine wpQuiet_step (fun K hK => ?_)
          try refine k_quiet_if (by kernel_rfl) ?_
          refine ⟨.bool true, fun w' _ => ?_, ?_⟩
          · first | (go_simp; done) | (go_simp; decide)
          with_reducible refine hK _ ?_
          clear hK K
          simp only [Act.put, List.setIfInBounds_toArray, List.set_cons_zero, List.set_cons_succ]
          with_reducible refine wpQuiet_step (fun K hK => ?_)
          try refine k_quiet_if (by kernel_rfl) ?_
          refine ⟨.func (.func 38) #[rv] #[], fun w' _ => ?_, ?_⟩
          · first | (go_simp; done) | (go_simp; decide)
          with_reducible refine hK _ ?_
          clear hK K
          simp only [Act.put, List.setIfInBounds_toArray, List.set_cons_zero, List.set_cons_succ]
          with_reducible refine wpQuiet_step (fun K hK => ?_)
          try refine k_quiet_if (by kernel_rfl) ?_
          refine ⟨.slice (some ⟨b, 0, none⟩) n cap, fun w' _ => ?_, ?_⟩
          · first | (go_simp; done) | (go_simp; decide)
          with_reducible refine hK _ ?_
          clear hK K
          simp only [Act.put, List.setIfInBounds_toArray, List.set_cons_zero, List.set_cons_succ]
          with_reducible refine wpQuiet_step (fun K hK => ?_)
          try refine k_quiet_if (by kernel_rfl) ?_
          refine ⟨.int .i64 j, fun w' _ => ?_, ?_⟩
          · first | (go_simp; done) | (go_simp; decide)
          with_reducible refine hK _ ?_
          clear hK K
          simp only [Act.put, List.setIfInBounds_toArray, List.set_cons_zero, List.set_cons_succ]
          with_reducible refine wpQuiet_step (fun K hK => ?_)
          try refine k_quiet_if (by kernel_rfl) ?_
          refine ⟨.pointer (some ⟨b, j * 8, none⟩), fun w' _ => ?_, ?_⟩
          · first | (go_simp; done) | (go_simp; decide)
          with_reducible refine hK _ ?_
          clear hK K
          simp only [Act.put, List.setIfInBounds_toArray, List.set_cons_zero, List.set_cons_succ]
          with_reducible refine wpQuiet_step (fun K hK => ?_)
          try refine k_quiet_if (by kernel_rfl) ?_
          refine ⟨.agg #[y0, y1, y2, y3, y4, y5, y6, y7], fun w' hw' => ?_, ?_⟩
          · have t0 := stay hw' yc0
            have t1 := stay hw' yc1
            have t2 := stay hw' yc2
            have t3 := stay hw' yc3
            have t4 := stay hw' yc4
            have t5 := stay hw' yc5
            have t6 := stay hw' yc6
            have t7 := stay hw' yc7
            go_simp
          with_reducible refine hK _ ?_
          clear hK K
          simp only [Act.put, List.setIfInBounds_toArray, List.set_cons_zero, List.set_cons_succ]
          with_reducible refine wpQuiet_step (fun K hK => ?_)
          try refine k_quiet_if (by kernel_rfl) ?_
          refine ⟨.slice (some ⟨b, 0, none⟩) n cap, fun w' _ => ?_, ?_⟩
          · first | (go_simp; done) | (go_simp; decide)
          with_reducible refine hK _ ?_
          clear hK K
          simp only [Act.put, List.setIfInBounds_toArray, List.set_cons_zero, List.set_cons_succ]
          with_reducible refine wpQuiet_step (fun K hK => ?_)
          try refine k_quiet_if (by kernel_rfl) ?_
          refine ⟨.int .i64 j, fun w' _ => ?_, ?_⟩
          · first | (go_simp; done) | (go_simp; decide)
          with_reducible refine hK _ ?_
          clear hK K
          simp only [Act.put, List.setIfInBounds_toArray, List.set_cons_zero, List.set_cons_succ]
          with_reducible refine wpQuiet_step (fun K hK => ?_)
          try refine k_quiet_if (by kernel_rfl) ?_
          refine ⟨.int .i64 p, fun w' _ => ?_, ?_⟩
          · first | (go_simp; done) | (go_simp; decide)
          with_reducible refine hK _ ?_
          clear hK K
          simp only [Act.put, List.setIfInBounds_toArray, List.set_cons_zero, List.set_cons_succ]
          with_reducible refine wpQuiet_step (fun K hK => ?_)
          try refine k_quiet_if (by kernel_rfl) ?_
          refine ⟨.pointer (some ⟨b, p * 8, none⟩), fun w' _ => ?_, ?_⟩
          · first | (go_simp; done) | (go_simp; decide)
          with_reducible refine hK _ ?_
          clear hK K
          simp only [Act.put, List.setIfInBounds_toArray, List.set_cons_zero, List.set_cons_succ]
          with_reducible refine wpQuiet_step (fun K hK => ?_)
          try refine k_quiet_if (by kernel_rfl) ?_
          refine ⟨.agg #[x0, x1, x2, x3, x4, x5, x6, x7], fun w' hw' => ?_, ?_⟩
          · have t0 := stay hw' xc0
            have t1 := stay hw' xc1
            have t2 := stay hw' xc2
            have t3 := stay hw' xc3
            have t4 := stay hw' xc4
            have t5 := stay hw' xc5
            have t6 := stay hw' xc6
            have t7 := stay hw' xc7
            go_simp
          with_reducible refine hK _ ?_
          clear hK K
          simp only [Act.put, List.setIfInBounds_toArray, List.set_cons_zero, List.set_cons_succ]
          with_reducible refine wpQuiet_step (fun K hK => ?_)
          try refine k_quiet_if (by kernel_rfl) ?_
          refine ⟨.int .i64 (cn y x), fun w' hw' => ?_, ?_⟩
          · go_simp
            refine (hcx.out w' (hwB.out.trans (But.of_below hw'))).mono ?_
            rintro e w'' ⟨rfl, hb⟩
            exact ⟨rfl, hw'.trans (hb.mono hw'.size)⟩
          with_reducible refine hK _ ?_
          clear hK K
          simp only [Act.put, List.setIfInBounds_toArray, List.set_cons_zero, List.set_cons_succ]
          by_cases hcz : cn y x < 0
          · have hly : lt y x = true := by rw [hlt.out]; exact decide_eq_true hcz
            with_reducible refine wpQuiet_step (fun K hK => ?_)
            try refine k_quiet_if (by kernel_rfl) ?_
            refine ⟨.bool true, fun w' _ => ?_, ?_⟩
            · first | (go_simp; done) | (go_simp; decide)
            with_reducible refine hK _ ?_
            clear hK K
            simp only [Act.put, List.setIfInBounds_toArray, List.set_cons_zero, List.set_cons_succ]
            with_reducible refine wpQuiet_step (fun K hK => ?_)
            try refine k_quiet_if (by kernel_rfl) ?_
            refine ⟨.bool true, fun w' _ => ?_, ?_⟩
            · first | (go_simp; done) | (go_simp; decide)
            with_reducible refine hK _ ?_
            clear hK K
            simp only [Act.put, List.setIfInBounds_toArray, List.set_cons_zero, List.set_cons_succ]
            refine wpQuiet_nil ?_
            intro X1 hX1
            have hI1 := hid_of (hI.out.keep hX1)
            obtain ⟨-, gx2⟩ := hI1.out.row p x hx'.out
            obtain ⟨-, gy2⟩ := hI1.out.row j y hy'.out
            have ox : ∀ (r : Nat) u, (enc x)[r]? = some u → u.oneCell' = true := fun r u hu => Array.all_eq_true_iff_forall_mem.1 (E.one x) u (Array.mem_of_getElem? hu)
            have oy : ∀ (r : Nat) u, (enc y)[r]? = some u → u.oneCell' = true := fun r u hu => Array.all_eq_true_iff_forall_mem.1 (E.one y) u (Array.mem_of_getElem? hu)
            have gx2 : ∀ (r : Nat), r < 8 → (X1.cell? ⟨b, p * 8 + r, none⟩).isSome = true ∧ X1.frozen? ⟨b, p * 8 + r, none⟩ = false := fun r hr => by have := gx2 r hr; simpa using this
            have gy2 : ∀ (r : Nat), r < 8 → (X1.cell? ⟨b, j * 8 + r, none⟩).isSome = true ∧ X1.frozen? ⟨b, j * 8 + r, none⟩ = false := fun r hr => by have := gy2 r hr; simpa using this
            have xd0 : X1.cell? ⟨b, p * 8, none⟩ = some x0 := stay hX1 xc0
            have xf0 : X1.frozen? ⟨b, p * 8, none⟩ = false := (gx2 0 (by omega)).2
            have xo0 : x0.oneCell' = true := ox 0 x0 (by rw [ex]; rfl)
            have xd1 : X1.cell? ⟨b, p * 8 + 1, none⟩ = some x1 := stay hX1 xc1
            have xf1 : X1.frozen? ⟨b, p * 8 + 1, none⟩ = false := (gx2 1 (by omega)).2
            have xo1 : x1.oneCell' = true := ox 1 x1 (by rw [ex]; rfl)
            have xd2 : X1.cell? ⟨b, p * 8 + 2, none⟩ = some x2 := stay hX1 xc2
            have xf2 : X1.frozen? ⟨b, p * 8 + 2, none⟩ = false := (gx2 2 (by omega)).2
            have xo2 : x2.oneCell' = true := ox 2 x2 (by rw [ex]; rfl)
            have xd3 : X1.cell? ⟨b, p * 8 + 3, none⟩ = some x3 := stay hX1 xc3
            have xf3 : X1.frozen? ⟨b, p * 8 + 3, none⟩ = false := (gx2 3 (by omega)).2
            have xo3 : x3.oneCell' = true := ox 3 x3 (by rw [ex]; rfl)
            have xd4 : X1.cell? ⟨b, p * 8 + 4, none⟩ = some x4 := stay hX1 xc4
            have xf4 : X1.frozen? ⟨b, p * 8 + 4, none⟩ = false := (gx2 4 (by omega)).2
            have xo4 : x4.oneCell' = true := ox 4 x4 (by rw [ex]; rfl)
            have xd5 : X1.cell? ⟨b, p * 8 + 5, none⟩ = some x5 := stay hX1 xc5
            have xf5 : X1.frozen? ⟨b, p * 8 + 5, none⟩ = false := (gx2 5 (by omega)).2
            have xo5 : x5.oneCell' = true := ox 5 x5 (by rw [ex]; rfl)
            have xd6 : X1.cell? ⟨b, p * 8 + 6, none⟩ = some x6 := stay hX1 xc6
            have xd7 : X1.cell? ⟨b, p * 8 + 7, none⟩ = some x7 := stay hX1 xc7
            have xf6 : X1.frozen? ⟨b, p * 8 + 6, none⟩ = false := (gx2 6 (by omega)).2
            have xf7 : X1.frozen? ⟨b, p * 8 + 7, none⟩ = false := (gx2 7 (by omega)).2
            have xo6 : x6.oneCell' = true := ox 6 x6 (by rw [ex]; rfl)
            have xo7 : x7.oneCell' = true := ox 7 x7 (by rw [ex]; rfl)
            have yd0 : X1.cell? ⟨b, j * 8, none⟩ = some y0 := stay hX1 yc0
            have yf0 : X1.frozen? ⟨b, j * 8, none⟩ = false := (gy2 0 (by omega)).2
            have yo0 : y0.oneCell' = true := oy 0 y0 (by rw [ey]; rfl)
            have yd1 : X1.cell? ⟨b, j * 8 + 1, none⟩ = some y1 := stay hX1 yc1
            have yf1 : X1.frozen? ⟨b, j * 8 + 1, none⟩ = false := (gy2 1 (by omega)).2
            have yo1 : y1.oneCell' = true := oy 1 y1 (by rw [ey]; rfl)
            have yd2 : X1.cell? ⟨b, j * 8 + 2, none⟩ = some y2 := stay hX1 yc2
            have yf2 : X1.frozen? ⟨b, j * 8 + 2, none⟩ = false := (gy2 2 (by omega)).2
            have yo2 : y2.oneCell' = true := oy 2 y2 (by rw [ey]; rfl)
            have yd3 : X1.cell? ⟨b, j * 8 + 3, none⟩ = some y3 := stay hX1 yc3
            have yf3 : X1.frozen? ⟨b, j * 8 + 3, none⟩ = false := (gy2 3 (by omega)).2
            have yo3 : y3.oneCell' = true := oy 3 y3 (by rw [ey]; rfl)
            have yd4 : X1.cell? ⟨b, j * 8 + 4, none⟩ = some y4 := stay hX1 yc4
            have yf4 : X1.frozen? ⟨b, j * 8 + 4, none⟩ = false := (gy2 4 (by omega)).2
            have yo4 : y4.oneCell' = true := oy 4 y4 (by rw [ey]; rfl)
            have yd5 : X1.cell? ⟨b, j * 8 + 5, none⟩ = some y5 := stay hX1 yc5
            have yf5 : X1.frozen? ⟨b, j * 8 + 5, none⟩ = false := (gy2 5 (by omega)).2
            have yo5 : y5.oneCell' = true := oy 5 y5 (by rw [ey]; rfl)
            have yd6 : X1.cell? ⟨b, j * 8 + 6, none⟩ = some y6 := stay hX1 yc6
            have yd7 : X1.cell? ⟨b, j * 8 + 7, none⟩ = some y7 := stay hX1 yc7
            have yf6 : X1.frozen? ⟨b, j * 8 + 6, none⟩ = false := (gy2 6 (by omega)).2
            have yf7 : X1.frozen? ⟨b, j * 8 + 7, none⟩ = false := (gy2 7 (by omega)).2
            have yo6 : y6.oneCell' = true := oy 6 y6 (by rw [ey]; rfl)
            have yo7 : y7.oneCell' = true := oy 7 y7 (by rw [ey]; rfl)
            have hend : Hid (Ins enc lt w b n A S y (M.drop (k + 1 + 1) ++ B) p ((X1.setCells b (j * 8) (enc x).toList).setCells b (p * 8) (enc y).toList).drew L (x :: L2)) := by
              have hlj := (List.getElem?_eq_some_iff.1 hy'.out).1
              have hlp := (List.getElem?_eq_some_iff.1 hx'.out).1
              refine hI1.out.put hpj.out hly ?_ ((setCells_but b _ _ _).trans (setCells_but b _ _ _)).drew
              have h2 := (hI1.out.row.set E hlj x).set E (j := p) (by simpa using hlp) y
              exact h2.drew
            have n1 : ∀ r s, r < 8 → s < 8 → (p * 8 + r = j * 8 + s) = False := fun r s h1 h2 => eq_false (by have := hpj.out; omega)
            have n2 : ∀ s, s < 8 → (p * 8 = j * 8 + s) = False := fun s h2 => eq_false (by have := hpj.out; omega)
            have n3 : ∀ r, r < 8 → (p * 8 + r = j * 8) = False := fun r h1 => eq_false (by have := hpj.out; omega)
            have n4 : (p * 8 = j * 8) = False := eq_false (by have := hpj.out; omega)
            have n5 : ∀ r s, r < 8 → s < 8 → (j * 8 + s = p * 8 + r) = False := fun r s h1 h2 => eq_false (by have := hpj.out; omega)
            have n6 : ∀ s, s < 8 → (j * 8 + s = p * 8) = False := fun s h2 => eq_false (by have := hpj.out; omega)
            have n7 : ∀ r, r < 8 → (j * 8 = p * 8 + r) = False := fun r h1 => eq_false (by have := hpj.out; omega)
            have n8 : (j * 8 = p * 8) = False := eq_false (by have := hpj.out; omega)
            rw [ex, ey] at hend
            clear hI hI1 hX1 gx2 gy2 ox oy xc0 xc1 xc2 xc3 xc4 xc5 xc6 xc7 yc0 yc1 yc2 yc3 yc4 yc5 yc6 yc7 hcx hfin hx' hy' hcmp
            have hst := run_st
            go_upto_region 6 with fail
            go_region
            all_goals
              obtain ⟨X, hX⟩ : ∃ X, Hid (((((((((((((((((X1.setCell ⟨b, j * 8, none⟩ x0).setCell ⟨b, j * 8 + 1, none⟩ x1).setCell ⟨b, j * 8 + 2, none⟩ x2).setCell ⟨b, j * 8 + 3, none⟩ x3).setCell ⟨b, j * 8 + 4, none⟩ x4).setCell ⟨b, j * 8 + 5, none⟩ x5).setCell ⟨b, j * 8 + 6, none⟩ x6).setCell ⟨b, j * 8 + 7, none⟩ x7).setCell ⟨b, p * 8, none⟩ y0).setCell ⟨b, p * 8 + 1, none⟩ y1).setCell ⟨b, p * 8 + 2, none⟩ y2).setCell ⟨b, p * 8 + 3, none⟩ y3).setCell ⟨b, p * 8 + 4, none⟩ y4).setCell ⟨b, p * 8 + 5, none⟩ y5).setCell ⟨b, p * 8 + 6, none⟩ y6).setCell ⟨b, p * 8 + 7, none⟩ y7).drew = X) := ⟨_, rfl⟩
              have hfi : Hid (Ins enc lt w b n A S y (M.drop (k + 1 + 1) ++ B) p X L (x :: L2)) := by rw [← hX.out]; exact hend.out
              rw [hX.out]
              clear hend hst n1 n2 n3 n4 n5 n6 n7 n8 xd0 xf0 xo0 xd1 xf1 xo1 xd2 xf2 xo2 xd3 xf3 xo3 xd4 xf4 xo4 xd5 xf5 xo5 xd6 xd7 xf6 xf7 xo6 xo7 yd0 yf0 yo0 yd1 yf1 yo1 yd2 yf2 yo2 yd3 yf3 yo3 yd4 yf4 yo4 yd5 yf5 yo5 yd6 yd7 yf6 yf7 yo6 yo7
              go_wp2_with fail
              exact ⟨⟨p, L, x :: L2, by first | rfl | (rw [j6]), hfi⟩, by have := hpj.out; simp [intOf]; omega⟩
          · have hly : lt y x = false := by rw [hlt.out]; exact decide_eq_false hcz
            with_reducible refine wpQuiet_step (fun K hK => ?_)
            try refine k_quiet_if (by kernel_rfl) ?_
            refine ⟨.bool false, fun w' _ => ?_, ?_⟩
            · first | (go_simp; done) | (go_simp; decide)
            with_reducible refine hK _ ?_
            clear hK K
            simp only [Act.put, List.setIfInBounds_toArray, List.set_cons_zero, List.set_cons_succ]
            with_reducible refine wpQuiet_step (fun K hK => ?_)
            try refine k_quiet_if (by kernel_rfl) ?_
            refine ⟨.bool false, fun w' _ => ?_, ?_⟩
            · first | (go_simp; done) | (go_simp; decide)
            with_reducible refine hK _ ?_
            clear hK K
            simp only [Act.put, List.setIfInBounds_toArray, List.set_cons_zero, List.set_cons_succ]
            refine wpQuiet_nil ?_
            intro X1 hX1
            have hz := hid_of (hfin.out _ X1 _ _ (hI.out.keep hX1) (fun L' x' e => by have := List.append_inj' e rfl; simp at this; rw [← this.2]; exact hly))
            clear xc0 xc1 xc2 xc3 xc4 xc5 xc6 xc7 yc0 yc1 yc2 yc3 yc4 yc5 yc6 yc7 hcx hfin hI hX1
            go_wp2_with fail
            exact ⟨⟨i + 1, k + 1, by go_num, by have := hi.out; omega, .inl hk'.out, hz.out.1, hz.out.2⟩, by simp [intOf]; omega⟩
    · have i1 : ¬ (i : Int) < (c : Int) := by omega
      have hM : M.length ≤ k + 1 := by have := hc.out; omega
      rw [List.take_of_length_le hM, List.drop_eq_nil_of_le hM] at hRi
      go_wp2_with fail
      exact bodyPost_end (results_none rfl _ _ _) rfl ⟨rfl, hRi.out, hBi.out⟩
end
end Go.Proofs.YthafhemlnninbaaGreat.Sorted
