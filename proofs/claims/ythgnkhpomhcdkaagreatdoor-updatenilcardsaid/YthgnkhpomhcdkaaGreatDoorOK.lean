import Derived.Test.YthgnkhpomhcdkaaGreatDoorOF
import Derived.Test.YthgnkhpomhcdkaaGreatDoorH1
/-! update: inserted, sliced, push's list. -/
namespace Go.Proofs.YthgnkhpomhcdkaaGreatDoor
open Go Go.RowKit Dp

abbrev batT (y : ByteArray) : Tr := objT eachB (listT [wordT y])
def posB : ByteArray := ⟨#[36, 112, 111, 115, 105, 116, 105, 111, 110]⟩
def slcB : ByteArray := ⟨#[36, 115, 108, 105, 99, 101]⟩
theorem has_each (y : ByteArray) : hasO (batT y) eachB = some (listT [wordT y]) := by
  unfold batT objT hasO Lib.idxOfS
  simp [Lib.idxFromS]
theorem has_pos (y : ByteArray) : hasO (batT y) posB = none := by
  unfold batT objT hasO Lib.idxOfS
  simp [eachB, posB, Lib.idxFromS]
theorem has_slc (y : ByteArray) : hasO (batT y) slcB = none := by
  unfold batT objT hasO Lib.idxOfS
  simp [eachB, slcB, Lib.idxFromS]
theorem has_v (t : Tr) (u : V5) (nm : ByteArray) (w : World) (hV : VRep w t u.cs) : Calls Tryz.prog 93 #[u.v, .string nm] w fun e w' => ∃ y : V5, e = .returned (.tuple #[y.v, .bool (hasO t nm).isSome]) ∧ VRep w' ((hasO t nm).getD zeroT) y.cs ∧ Below w.heap.size w w' := by
  refine (has_code t u.k u.x u.s u.an u.ln u.cn u.ai u.li u.ci nm w hV).mono ?_
  rintro e w' ⟨k, x, s, an, ln, cn, ai, li, ci, rfl, hr, hb⟩
  exact ⟨⟨k, x, s, an, ln, cn, ai, li, ci⟩, rfl, hr, hb⟩
/-- A word lies in whatever memory. -/
theorem word_any_rep {w : World} {s : ByteArray} {u : V5} (h : VRep w (wordT s) u.cs) (w' : World) : VRep w' (wordT s) u.cs := by
  unfold wordT VRep V5.cs five at *
  obtain ⟨nm, a, c, h1, ⟨an, cn, h2, h3, -⟩, h4, -⟩ := h
  exact ⟨nm, a, c, h1, ⟨an, cn, h2, h3, .inl rfl⟩, h4, .inl rfl⟩
/-- A list of one word, taken apart. -/
theorem list_one {w : World} {y : ByteArray} {u : V5} (h : VRep w (listT [wordT y]) u.cs) : u.k = 5 ∧ u.li = 1 ∧ 1 ≤ u.ci ∧ u.ci ≤ 9223372036854775807 ∧ ∃ b o v, u.ai = some ⟨b, o, none⟩ ∧ VRep w (wordT y) (V5.cs v) ∧ ∀ j x, (V5.cs v)[j]? = some x → w.cell? ⟨b, o + j, none⟩ = some x := by
  unfold listT VRep at h
  obtain ⟨nm, a, c, h1, h2, h3, h4⟩ := h
  unfold V5.cs five at h1
  simp only [List.cons.injEq, Value.int.injEq, Value.slice.injEq] at h1
  obtain ⟨⟨-, hk⟩, -, -, -, ⟨ha, hl, hc⟩, -⟩ := h1
  rcases h4 with h4 | ⟨b, o, h5, h6, h7⟩
  · cases h4
  unfold VRepL at h7
  obtain ⟨cs, h8, h9, -⟩ := h7
  obtain ⟨v, rfl⟩ := v5_of h9
  exact ⟨hk, hl, by simpa [hc] using h3.1, by rw [hc]; exact h3.2, b, o, v, by rw [ha, h5], h9, h8⟩
set_option maxHeartbeats 4000000 in
set_option maxRecDepth 100000 in
theorem inserted_one (y : ByteArray) (bt u1 : V5) (gi oi ci : Nat) (hc1 : 1 ≤ ci) (hc2 : ci ≤ 9223372036854775807) (w : World) (hV : VRep w (batT y) bt.cs) (h1 : ∀ j v, u1.cs[j]? = some v → w.cell? ⟨gi, oi + j, none⟩ = some v) :
    Calls Tryz.prog 92 #[bt.v, .slice (some ⟨gi, oi, none⟩) 1 ci] w fun e w' => Below w.heap.size w w' ∧ ∃ g cap u2, e = .returned (.slice (some ⟨g, 0, none⟩) 2 cap) ∧ w'.ownsRow w.heap.size 28 5 (.slice (some ⟨g, 0, none⟩) 2 cap) 2 (u1.cs ++ V5.cs u2) ∧ VRep w' (wordT y) (V5.cs u2) := by
  have hB0 := fun o => (Below.refl w.heap.size w).alloc (Nat.le_refl _) o
  have hE := fun o => hid_of (has_v (batT y) bt eachB (w.alloc o) (VRep.keep (hB0 o) _ _ hV))
  have hP := hid_of (fun W (hb : Below w.heap.size w W) => has_v (batT y) bt posB W (VRep.keep hb _ _ hV))
  rw [has_each] at hE
  rw [has_pos] at hP
  have X0 := heap_alloc_new w (bt.obj 28)
  have hB1 := hB0 (bt.obj 28)
  have hE1 := hE (bt.obj 28)
  obtain ⟨z0, z1, z2, z3, z4⟩ := box_five X0 (Below.refl _ _)
  replace hB1 := hid_of hB1; replace X0 := hid_of X0; replace h1 := hid_of h1
  clear hE hV hB0
  unfold V5.v V5.obj at *
  unfold eachB at hE1
  unfold posB at hP
  go_enter Tryz.func92, Tryz.ntmps92
  go_wp2_with fail
  generalize w.alloc (.cells #[.int .i64 bt.k, .int .i64 bt.x, .string bt.s, .slice bt.an bt.ln bt.cn, .slice bt.ai bt.li bt.ci] 28) = wq at *
  refine hE1.out.mono ?_
  rintro e w1 ⟨ye, rfl, hye, hb1⟩
  obtain ⟨-, hli, hce, hce2, be, oe, v2, hai, hv2, hvc⟩ := list_one hye
  have HB1 := hid_of (hB1.out.trans (hb1.mono hB1.out.size))
  have C0 := hid_of (block_keep X0.out hb1)
  obtain ⟨ke, xe, se, ane, lne, cne, aie, lie, cie⟩ := ye
  simp only at hli hce hai hce2
  subst hli hai
  have hbA : Below w1.heap.size w1 (w1.alloc (.cells #[.int .i64 ke, .int .i64 xe, .string se, .slice ane lne cne, .slice (some ⟨be, oe, none⟩) 1 cie] 28)) := (Below.refl _ w1).alloc (Nat.le_refl _) _
  have HB2 := hid_of (HB1.out.trans (hbA.mono HB1.out.size))
  have D0 := hid_of (block_keep C0.out hbA)
  have D1 := hid_of (heap_alloc_new w1 (.cells #[.int .i64 ke, .int .i64 xe, .string se, .slice ane lne cne, .slice (some ⟨be, oe, none⟩) 1 cie] 28))
  have hvc2 := hid_of (fun j x hj => stay hbA (hvc j x hj))
  have hv2' := hid_of (word_any_rep hv2)
  have hP1 := hid_of (hP.out _ HB2.out)
  clear hb1 hye hv2 hvc hbA z0 z1 z2 z3 z4 hE1 hB1 X0 C0 HB1 hP
  obtain ⟨z0, z1, z2, z3, z4, -⟩ := row_cells D0.out
  dsimp only
  go_wp2_with fail
  refine hP1.out.mono ?_
  rintro e w3 ⟨yp, rfl, -, hb3⟩
  have HB3 := hid_of (HB2.out.trans (hb3.mono HB2.out.size))
  have E1 := hid_of (block_keep D1.out hb3)
  have hvc3 := hid_of (fun j x hj => stay hb3 (hvc2.out j x hj))
  clear hb3 D0 D1 hvc2 hP1 z0 z1 z2 z3 z4 HB2
  obtain ⟨kp, xp, sp, anp, lnp, cnp, aip, lip, cip⟩ := yp
  dsimp only
  have hbB : Below w3.heap.size w3 (w3.alloc (.cells #[.int .i64 kp, .int .i64 xp, .string sp, .slice anp lnp cnp, .slice aip lip cip] 28)) := (Below.refl _ w3).alloc (Nat.le_refl _) _
  have HB4 := hid_of (HB3.out.trans (hbB.mono HB3.out.size))
  have F1 := hid_of (block_keep E1.out hbB)
  have hvc4 := hid_of (fun j x hj => stay hbB (hvc3.out j x hj))
  clear hbB E1 hvc3 HB3
  have y4 := cell_of F1.out 4
  simp only [List.getElem?_toArray, List.getElem?_cons_zero, List.getElem?_cons_succ] at y4
  go_wp2_with fail
  have k4 : Hid (∀ j v, u1.cs[j]? = some v → (w3.alloc (.cells #[.int .i64 kp, .int .i64 xp, .string sp, .slice anp lnp cnp, .slice aip lip cip] 28)).cell? ⟨gi, oi + j, none⟩ = some v) := hid_of (fun j v hj => stay HB4.out (h1.out j v hj))
  generalize w3.alloc (.cells #[.int .i64 kp, .int .i64 xp, .string sp, .slice anp lnp cnp, .slice aip lip cip] 28) = w4 at *
  have e1 : (1 : Int) ≤ (ci : Int) := by omega
  have hcon : ∀ c1 a3 c3, Hid (Calls Tryz.prog 140 #[.slice (some ⟨w4.heap.size, 0, none⟩) 3 3] (w4.alloc (.cells #[.slice (some ⟨gi, oi, none⟩) 1 c1, .slice (some ⟨be, oe, none⟩) 1 cie, .slice a3 0 c3] 26)).drew fun e w' => Below w4.heap.size w4 w' ∧ ∃ g cap, e = .returned (.slice (some ⟨g, 0, none⟩) 2 cap) ∧ w'.ownsRow w4.heap.size 28 5 (.slice (some ⟨g, 0, none⟩) 2 cap) 2 (u1.cs ++ v2.cs)) := fun c1 a3 c3 => by
    have hbN : Below w4.heap.size w4 (w4.alloc (.cells #[.slice (some ⟨gi, oi, none⟩) 1 c1, .slice (some ⟨be, oe, none⟩) 1 cie, .slice a3 0 c3] 26)).drew := below_drew ((Below.refl _ w4).alloc (Nat.le_refl _) _)
    have hN : (w4.alloc (.cells #[.slice (some ⟨gi, oi, none⟩) 1 c1, .slice (some ⟨be, oe, none⟩) 1 cie, .slice a3 0 c3] 26)).drew.heap[w4.heap.size]? = some (.cells #[.slice (some ⟨gi, oi, none⟩) 1 c1, .slice (some ⟨be, oe, none⟩) 1 cie, .slice a3 0 c3] 26) := heap_alloc_new w4 _
    refine hid_of ((concat3 w4.heap.size 3 gi oi c1 be oe cie a3 c3 u1 v2 _ (cell_of hN 0) (cell_of hN 1) (cell_of hN 2) (fun j v hj => stay hbN (k4.out j v hj)) (fun j v hj => stay hbN (hvc4.out j v hj))).mono ?_)
    rintro e w5 ⟨hb5, g, cap, rfl, ho⟩
    exact ⟨hbN.trans (hb5.mono hbN.size), g, cap, rfl, ho.1, ho.2.imp id (fun ⟨g', cap', cur, hv, hge, r⟩ => ⟨g', cap', cur, hv, Nat.le_trans hbN.size hge, r⟩)⟩
  have hs4 := HB4.out.size
  clear k4 hvc4
  by_cases hci : ci = 1
  all_goals
    go_region_held3 (fun W => W.cell? ⟨w1.heap.size, 4, none⟩ = some (.slice (some ⟨be, oe, none⟩) 1 cie)) (go_keep) ((go_at_call 140; refine (hcon _ _ _).out.mono ?_; rintro e w5 ⟨hb5, g, cap, rfl, ho⟩; have HB5 := hid_of (HB4.out.trans (hb5.mono HB4.out.size)); have j4 := stay hb5 y4; replace ho := hid_of ho; clear hb5))
    clear j4 y4 hcon
    go_wp2_with fail
    go_ret
    exact ⟨HB5.out, g, cap, v2, rfl, ⟨ho.out.1, ho.out.2.imp id (fun ⟨g', cap', cur, hv, hge, r⟩ => ⟨g', cap', cur, hv, Nat.le_trans hs4 hge, r⟩)⟩, hv2'.out _⟩
end Go.Proofs.YthgnkhpomhcdkaaGreatDoor
/-! update: sliced, push's list. -/
namespace Go.Proofs.YthgnkhpomhcdkaaGreatDoor
open Go Go.RowKit Dp

set_option maxHeartbeats 2000000 in
theorem sliced_none (y : ByteArray) (bt : V5) (v : Value) (w : World) (hV : VRep w (batT y) bt.cs) :
    Calls Tryz.prog 91 #[bt.v, v] w fun e w' => e = .returned v ∧ Below w.heap.size w w' := by
  have hB0 := fun o => (Below.refl w.heap.size w).alloc (Nat.le_refl _) o
  have hP := fun o => hid_of (has_v (batT y) bt slcB (w.alloc o) (VRep.keep (hB0 o) _ _ hV))
  rw [has_slc] at hP
  have X0 := heap_alloc_new w (bt.obj 28)
  have hB1 := hid_of (hB0 (bt.obj 28))
  have hP1 := hP (bt.obj 28)
  obtain ⟨z0, z1, z2, z3, z4⟩ := box_five X0 (Below.refl _ _)
  clear hP hV hB0 X0
  unfold V5.v V5.obj at *
  unfold slcB at hP1
  go_enter Tryz.func91, Tryz.ntmps91
  go_wp2_with fail
  generalize w.alloc (.cells #[.int .i64 bt.k, .int .i64 bt.x, .string bt.s, .slice bt.an bt.ln bt.cn, .slice bt.ai bt.li bt.ci] 28) = wq at *
  refine hP1.out.mono ?_
  rintro e w3 ⟨⟨kp, xp, sp, anp, lnp, cnp, aip, lip, cip⟩, rfl, -, hb3⟩
  have HB3 := hid_of (hB1.out.trans (hb3.mono hB1.out.size))
  clear hb3 z0 z1 z2 z3 z4 hP1 hB1
  dsimp only
  go_wp2_with fail
  go_ret
  exact ⟨rfl, HB3.out.alloc HB3.out.size _⟩
set_option maxHeartbeats 4000000 in
set_option maxRecDepth 100000 in
theorem push1_one (y : ByteArray) (c : Nat) (bt u1 : V5) (gi oi ci : Nat) (hc1 : 1 ≤ ci) (hc2 : ci ≤ 9223372036854775807) (w : World) (hX : w.heap[c]? = some (bt.obj 28)) (hV : VRep w (batT y) bt.cs) (h1 : ∀ j v, u1.cs[j]? = some v → w.cell? ⟨gi, oi + j, none⟩ = some v) :
    Calls Tryz.prog 90 #[.slice (some ⟨gi, oi, none⟩) 1 ci, .pointer (some ⟨c, 0, none⟩)] w fun e w' => Below w.heap.size w w' ∧ ∃ g cap u2, e = .returned (.slice (some ⟨g, 0, none⟩) 2 cap) ∧ w'.ownsRow w.heap.size 28 5 (.slice (some ⟨g, 0, none⟩) 2 cap) 2 (u1.cs ++ V5.cs u2) ∧ VRep w' (wordT y) (V5.cs u2) := by
  have hI := hid_of (inserted_one y bt u1 gi oi ci hc1 hc2 w.drew (VRep.keep (below_drew (Below.refl _ w)) _ _ hV) (fun j v hj => stay (below_drew (Below.refl _ w)) (h1 j v hj)))
  have hS := hid_of (fun v W (hb : Below w.heap.size w W) => sliced_none y bt v W (VRep.keep hb _ _ hV))
  obtain ⟨z0, z1, z2, z3, z4⟩ := box_five hX (Below.refl _ _)
  replace hX := hid_of hX
  clear hV h1
  unfold V5.v V5.obj at *
  go_enter Tryz.func90, Tryz.ntmps90
  go_wp2_with fail
  go_region_held3 (fun W => W.cell? ⟨c, 0, none⟩ = some (.int .i64 bt.k) ∧ W.cell? ⟨c, 1, none⟩ = some (.int .i64 bt.x) ∧ W.cell? ⟨c, 2, none⟩ = some (.string bt.s) ∧ W.cell? ⟨c, 3, none⟩ = some (.slice bt.an bt.ln bt.cn) ∧ W.cell? ⟨c, 4, none⟩ = some (.slice bt.ai bt.li bt.ci)) (go_keep) (first
    | (go_at_call 92; refine hI.out.mono ?_; rintro e X1 ⟨hb1, g, cap, u2, rfl, ho, hu2⟩; have HB1 := hid_of (show Below w.heap.size w X1 from ⟨hb1.os, hb1.tape, hb1.output, hb1.size, hb1.block⟩); have j0 := stay HB1.out z0; have j1 := stay HB1.out z1; have j2 := stay HB1.out z2; have j3 := stay HB1.out z3; have j4 := stay HB1.out z4; replace ho := hid_of ho; replace hu2 := hid_of hu2; clear hb1)
    | (go_at_call 91; refine (hS.out _ X1 HB1.out).mono ?_; rintro e X2 ⟨rfl, hb2⟩; have HB2 := hid_of (HB1.out.trans (hb2.mono HB1.out.size)); have i0 := stay hb2 j0; have i1 := stay hb2 j1; have i2 := stay hb2 j2; have i3 := stay hb2 j3; have i4 := stay hb2 j4; have ho2 := hid_of (ownsRow_below ho.out hb2); have hu3 := hid_of (VRep.keep hb2 _ _ hu2.out); clear hb2))
  clear z0 z1 z2 z3 z4 i0 i1 i2 i3 i4 j0 j1 j2 j3 j4 hI hS hX ho hu2
  go_wp2_with fail
  go_ret
  exact ⟨HB2.out, g, cap, u2, rfl, ho2.out, hu3.out⟩
end Go.Proofs.YthgnkhpomhcdkaaGreatDoor
/-! update: the change of $push at a list. -/
namespace Go.Proofs.YthgnkhpomhcdkaaGreatDoor
open Go Go.RowKit Dp

theorem seen_list2 {w : World} {lo g cap : Nat} {x y : ByteArray} {u1 u2 : V5} (ho : w.ownsRow lo 28 5 (.slice (some ⟨g, 0, none⟩) 2 cap) 2 (u1.cs ++ u2.cs)) (h1 : VRep w (wordT x) u1.cs) (h2 : VRep w (wordT y) u2.cs) :
    Seen w (fun k => k = g) (listT [wordT x, wordT y]) (listU (some ⟨g, 0, none⟩) 2 cap).cs ∧ lo ≤ g ∧ g < w.heap.size := by
  have hge := ownsRow_ge ho (g := g) rfl
  refine ⟨fun W' ha => ?_, hge.1, hge.2⟩
  have hle : 2 ≤ cap ∧ cap ≤ 9223372036854775807 := by
    rcases ho.2 with ⟨h, -⟩ | ⟨g', cap', cur, hv, m1, m2, m3, m4, -⟩
    · cases h
    · simp only [Value.slice.injEq] at hv
      rw [hv.2.2]
      exact ⟨m3, Nat.le_trans m4 (by decide)⟩
  have hcell : ∀ j v, (u1.cs ++ u2.cs)[j]? = some v → W'.cell? ⟨g, j, none⟩ = some v := fun j v hj => by
    have hj10 : j < 10 := by
      have := (List.getElem?_eq_some_iff.1 hj).1
      simpa [V5.cs, five] using this
    exact ha.2 _ _ rfl (by rw [ho.cellAt j (by omega)]; exact hj)
  refine vrep_list (l := [wordT x, wordT y]) (.inr ⟨g, 0, rfl, Nat.lt_of_lt_of_le hge.2 ha.1, ?_⟩) hle
  refine rep_flat g [wordT x, wordT y] [u1, u2] 0 ⟨rfl, fun q t v ht hv => ?_⟩ (fun j u hj => ?_)
  · rcases q with _ | _ | q
    · obtain rfl : wordT x = t := by simpa using ht
      obtain rfl : u1 = v := by simpa using hv
      exact word_any_rep h1 _
    · obtain rfl : wordT y = t := by simpa using ht
      obtain rfl : u2 = v := by simpa using hv
      exact word_any_rep h2 _
    · simp at ht
  · rw [Nat.zero_add]
    exact hcell j u (by simpa [flatV] using hj)
theorem put5_cell_far {w : World} {g k j : Nat} {v : Value} (h : w.cell? ⟨k, j, none⟩ = some v) (hk : k ≠ g) (a0 a1 a2 a3 a4 : Value) : (((((w.setCell ⟨g, 0, none⟩ a0).setCell ⟨g, 1, none⟩ a1).setCell ⟨g, 2, none⟩ a2).setCell ⟨g, 3, none⟩ a3).setCell ⟨g, 4, none⟩ a4).cell? ⟨k, j, none⟩ = some v :=
  (World.cell?_of_block (w := w) (put5_far a0 a1 a2 a3 a4 hk)).trans h
set_option maxHeartbeats 4000000 in
set_option maxRecDepth 100000 in
theorem relist_hit (t : Tr) (u bt : V5) (x y : ByteArray) (n c : Nat) (pv : Value) (l : List ByteArray) (S0 : Nat → Prop) (w : World) (hSw0 : ∀ k, S0 k → k < w.heap.size) (hV0 : Seen w S0 t u.cs) (hP : Reads w pv l) (hl : l.length ≤ 1000000) (hS : Hid (Sized l)) (hb : ∀ st ∈ (downT t l).2, (st.1.items.length + 1) * 80 ≤ 140737488355328) (hd : (downT t l).1 = 0)
    (hg : getT t l = some (listT [wordT x])) (hf : w.cell? ⟨n, 0, none⟩ = some (.func (.func 90) #[] #[.pointer (some ⟨c, 0, none⟩)])) (hX : w.heap[c]? = some (bt.obj 28)) (hBt : VRep w (batT y) bt.cs) :
    Calls Tryz.prog 143 #[u.v, pv, .pointer (some ⟨n, 0, none⟩)] w (Laid S0 w (setT t l (listT [wordT x, wordT y]))) := by
  have hV := hV0.rep
  have hB2 : ∀ o1 o2, Below w.heap.size w ((w.alloc o1).alloc o2) := fun o1 o2 => ((Below.refl _ w).alloc (Nat.le_refl _) o1).alloc (by simp) o2
  have hget := fun o1 o2 => hid_of (get_hit t _ u pv l ((w.alloc o1).alloc o2) (VRep.keep (hB2 o1 o2) _ _ hV) (hP.keep (hB2 o1 o2)) (by omega) hS hg)
  have hlaid := hid_of (fun W (hbw : Below w.heap.size w W) (z : V5) (g : Nat) (hg : g < W.heap.size) (hz : Seen W (fun k => k = g) (listT [wordT x, wordT y]) z.cs) => ulaid_any t (listT [wordT x, wordT y]) u z pv l W S0 (fun k => S0 k ∨ k = g) (fun k hk => by
    have h1 := hbw.size
    rcases hk with hk | hk
    · have := hSw0 k hk; omega
    · omega) (fun k hk => .inl hk) (hV0.keep hbw) (hz.wide (fun k hk => .inr hk)) (hP.keep hbw) hl hS hb hd)
  have hpush := hid_of (fun W (hbw : Below w.heap.size w W) (u1 : V5) gi oi ci (h1 : 1 ≤ ci) (h2 : ci ≤ 9223372036854775807) h3 => push1_one y c bt u1 gi oi ci h1 h2 W (block_keep hX hbw) (VRep.keep hbw _ _ hBt) h3)
  have X0 : ∀ o2, ((w.alloc (u.obj 28)).alloc o2).heap[w.heap.size]? = some (u.obj 28) := fun o2 => al_lt (by simp) (al_eq rfl)
  have X1 : ∀ o1 o2, ((w.alloc o1).alloc o2).heap[w.heap.size + 1]? = some o2 := fun o1 o2 => al_eq (by simp)
  have hnl : n < w.heap.size := lt_of_cell hf
  replace hf := hid_of hf
  clear hV hV0 hP hS hb hd hg hl hX hBt
  unfold V5.v V5.obj at *
  go_enter Tryz.func143, Tryz.ntmps143
  go_wp2_with fail
  have HB0 := hid_of (hB2 (.cells #[.int .i64 u.k, .int .i64 u.x, .string u.s, .slice u.an u.ln u.cn, .slice u.ai u.li u.ci] 28) (.cells #[.int .i64 0, .int .i64 0, .string ⟨#[]⟩, .slice none 0 0, .slice none 0 0] 28))
  have C0 := hid_of (X0 (.cells #[.int .i64 0, .int .i64 0, .string ⟨#[]⟩, .slice none 0 0, .slice none 0 0] 28))
  have C1 := hid_of (X1 (.cells #[.int .i64 u.k, .int .i64 u.x, .string u.s, .slice u.an u.ln u.cn, .slice u.ai u.li u.ci] 28) (.cells #[.int .i64 0, .int .i64 0, .string ⟨#[]⟩, .slice none 0 0, .slice none 0 0] 28))
  have hget1 := hget (.cells #[.int .i64 u.k, .int .i64 u.x, .string u.s, .slice u.an u.ln u.cn, .slice u.ai u.li u.ci] 28) (.cells #[.int .i64 0, .int .i64 0, .string ⟨#[]⟩, .slice none 0 0, .slice none 0 0] 28)
  clear hget hB2 X0 X1
  generalize (w.alloc (.cells #[.int .i64 u.k, .int .i64 u.x, .string u.s, .slice u.an u.ln u.cn, .slice u.ai u.li u.ci] 28)).alloc (.cells #[.int .i64 0, .int .i64 0, .string ⟨#[]⟩, .slice none 0 0, .slice none 0 0] 28) = wq at *
  refine hget1.out.mono ?_
  rintro e w1 ⟨hb1, yv, rfl, hy⟩
  obtain ⟨hyk, hli, hce, hce2, be, oe, v1, hai, hv1, hvc⟩ := list_one hy
  have HB1 := hid_of (HB0.out.trans (hb1.mono HB0.out.size))
  have D0 := hid_of (block_keep C0.out hb1)
  have D1 := hid_of (block_keep C1.out hb1)
  have ne2 : ¬ w1.heap.size = w.heap.size + 1 := by have := (Array.getElem?_eq_some_iff.1 D1.out).1; omega
  have ne1 : ¬ n = w.heap.size + 1 := by omega
  obtain ⟨k, yx, ys, an, ln, cn, ai, li, ci⟩ := yv
  simp only at hyk hli hce hce2 hai
  subst hyk hli hai
  have hbA : Below w1.heap.size w1 (w1.alloc (.cells #[.int .i64 5, .int .i64 yx, .string ys, .slice an ln cn, .slice (some ⟨be, oe, none⟩) 1 ci] 28)) := (Below.refl _ w1).alloc (Nat.le_refl _) _
  have HB2 := hid_of (HB1.out.trans (hbA.mono HB1.out.size))
  have E0 := hid_of (block_keep D0.out hbA)
  have E1 := hid_of (block_keep D1.out hbA)
  have E2 := hid_of (heap_alloc_new w1 (.cells #[.int .i64 5, .int .i64 yx, .string ys, .slice an ln cn, .slice (some ⟨be, oe, none⟩) 1 ci] 28))
  have hvc2 := hid_of (fun j x hj => stay hbA (hvc j x hj))
  have hv1' := hid_of (word_any_rep hv1)
  have hin := isList_any ⟨5, yx, ys, an, ln, cn, some ⟨be, oe, none⟩, 1, ci⟩ (w1.alloc (.cells #[.int .i64 5, .int .i64 yx, .string ys, .slice an ln cn, .slice (some ⟨be, oe, none⟩) 1 ci] 28))
  clear hb1 hy hbA C0 C1 D0 D1 HB0 HB1 hget1 hv1 hvc
  unfold V5.v at hin
  simp only [show ((5 : Int) == 5) = true from rfl] at hin
  dsimp only
  replace hin := hid_of hin
  obtain ⟨v0, v1', v2, v3, v4, -⟩ := row_cells E2.out
  go_wp2_with fail
  refine hin.out.mono ?_
  rintro e w3 ⟨rfl, hb3⟩
  have HB3 := hid_of (HB2.out.trans (hb3.mono HB2.out.size))
  have F0 := hid_of (block_keep E0.out hb3)
  have F1 := hid_of (block_keep E1.out hb3)
  have F2 := hid_of (block_keep E2.out hb3)
  have hvc3 := hid_of (fun j x hj => stay hb3 (hvc2.out j x hj))
  clear hb3 E0 E1 E2 hin v0 v1' v2 v3 v4 HB2 hvc2
  have hf3 := stay HB3.out hf.out
  have y4 := cell_of F2.out 4
  simp only [List.getElem?_toArray, List.getElem?_cons_zero, List.getElem?_cons_succ] at y4
  obtain ⟨z0, z1, z2, z3, z4, -⟩ := row_cells F0.out
  go_wp2_with fail
  have hpu := hid_of (hpush.out w3.drew (below_drew HB3.out) v1 be oe ci hce hce2 (fun j v hj => stay (below_drew (Below.refl _ w3)) (hvc3.out j v hj)))
  have hw2 : w.heap.size + 1 < w3.heap.size := (Array.getElem?_eq_some_iff.1 F1.out).1
  clear hpush hvc3
  go_region_held3 (fun W => W.cell? ⟨w.heap.size, 0, none⟩ = some (.int .i64 u.k) ∧ W.cell? ⟨w.heap.size, 1, none⟩ = some (.int .i64 u.x) ∧ W.cell? ⟨w.heap.size, 2, none⟩ = some (.string u.s) ∧ W.cell? ⟨w.heap.size, 3, none⟩ = some (.slice u.an u.ln u.cn) ∧ W.cell? ⟨w.heap.size, 4, none⟩ = some (.slice u.ai u.li u.ci) ∧ W.cell? ⟨n, 0, none⟩ = some (.func (.func 90) #[] #[.pointer (some ⟨c, 0, none⟩)]) ∧ W.cell? ⟨w1.heap.size, 4, none⟩ = some (.slice (some ⟨be, oe, none⟩) 1 ci)) (simp [*, World.cell?_setCell_far] <;> exact ⟨put5_cell_far (by assumption) (by omega) _ _ _ _ _, put5_cell_far (by assumption) (by omega) _ _ _ _ _⟩) (first
    | (go_at_call 90; refine hpu.out.mono ?_; rintro e X1 ⟨hbx, g, cap, u2, rfl, ho, hu2⟩; have hb5 : Below w3.heap.size w3 X1 := ⟨hbx.os, hbx.tape, hbx.output, hbx.size, hbx.block⟩; have HB5 := hid_of (HB3.out.trans (hb5.mono HB3.out.size)); have G0 := hid_of (block_keep F0.out hb5); have G1 := hid_of (block_keep F1.out hb5); have gl := hid_of (seen_list2 ho (hv1'.out _) hu2); have j5 := stay hb5 hf3; have j6 := stay hb5 y4; obtain ⟨j0, j1, j2, j3, j4, -⟩ := row_cells G0.out; have hla := hid_of (hlaid.out X1 HB5.out (listU (some ⟨g, 0, none⟩) 2 cap) g gl.out.2.2 gl.out.1); clear hbx hb5 ho hu2)
    | (go_at_call 72; refine hla.out.mono ?_; rintro e X2 ⟨hb6, ⟨k2, x2, s2, an2, ln2, cn2, ai2, li2, ci2⟩, rfl, hy⟩; unfold V5.v; dsimp only; have HB6 := hid_of (HB5.out.trans (hb6.mono HB5.out.size)); have H0 := hid_of (block_keep G0.out hb6); have H1 := hid_of (block_keep G1.out hb6); replace hy := hid_of hy; have i5 := stay hb6 j5; have i6 := stay hb6 j6; obtain ⟨i0, i1, i2, i3, i4, -⟩ := row_cells H0.out; obtain ⟨t0, t1, t2, t3, t4, tf⟩ := row_cells H1.out; have tf0 := tf 0; have tf1 := tf 1; have tf2 := tf 2; have tf3 := tf 3; have tf4 := tf 4; clear hb6 tf))
  rw [← put5_def]
  have hs5 : w.heap.size + 1 < X1.heap.size := (Array.getElem?_eq_some_iff.1 G1.out).1
  have hgg := gl.out.2
  have hw3 : w3.heap.size = w3.drew.heap.size := rfl
  have hr := put5_at H1.out (.int .i64 k2) (.int .i64 x2) (.string s2) (.slice an2 ln2 cn2) (.slice ai2 li2 ci2)
  have hB4 := hid_of (HB6.out.trans (put5_below (w := X2) (g := w.heap.size + 1) (by omega) (.int .i64 k2) (.int .i64 x2) (.string s2) (.slice an2 ln2 cn2) (.slice ai2 li2 ci2)))
  have hfin := hid_of (Seen.wide (S' := fun k => S0 k ∨ w.heap.size ≤ k) (hy.out.agree (W' := put5 X2 (w.heap.size + 1) (.int .i64 k2) (.int .i64 x2) (.string s2) (.slice an2 ln2 cn2) (.slice ai2 li2 ci2)) ⟨Nat.le_of_eq (put5_size _ _ _ _ _ _ _).symm, fun p u hp hc => (World.cell?_of_block (w := X2) (put5_far (.int .i64 k2) (.int .i64 x2) (.string s2) (.slice an2 ln2 cn2) (.slice ai2 li2 ci2) (show p.block ≠ w.heap.size + 1 from fun e => by
    have hp' : (S0 p.block ∨ p.block = g) ∨ X1.heap.size ≤ p.block := hp
    have hp2 := hSw0 p.block
    rcases hp' with (h | h) | h
    · have := hp2 h; omega
    · omega
    · omega))).trans hc⟩) (fun k hk => by
      rcases hk with (h | h) | h
      · exact .inl h
      · exact .inr (by omega)
      · exact .inr (by omega)))
  clear i0 i1 i2 i3 i4 i5 i6 j0 j1 j2 j3 j4 j5 j6 t0 t1 t2 t3 t4 tf0 tf1 tf2 tf3 tf4 z0 z1 z2 z3 z4 G0 G1 H0 H1 HB3 HB5 HB6 hy F0 F1 F2 hlaid hla hpu hf3 y4 gl hgg hw3
  generalize put5 X2 (w.heap.size + 1) (.int .i64 k2) (.int .i64 x2) (.string s2) (.slice an2 ln2 cn2) (.slice ai2 li2 ci2) = w9 at hr hB4 hfin ⊢
  have q0 : w9.cell? ⟨w.heap.size + 1, 0, none⟩ = some (.int .i64 k2) := cell_of hr 0
  have q1 : w9.cell? ⟨w.heap.size + 1, 1, none⟩ = some (.int .i64 x2) := cell_of hr 1
  have q2 : w9.cell? ⟨w.heap.size + 1, 2, none⟩ = some (.string s2) := cell_of hr 2
  have q3 : w9.cell? ⟨w.heap.size + 1, 3, none⟩ = some (.slice an2 ln2 cn2) := cell_of hr 3
  have q4 : w9.cell? ⟨w.heap.size + 1, 4, none⟩ = some (.slice ai2 li2 ci2) := cell_of hr 4
  go_wp2_with fail
  refine bodyPost_ret (v := .tuple #[.agg #[.int .i64 k2, .int .i64 x2, .string s2, .slice an2 ln2 cn2, .slice ai2 li2 ci2], .nilIface]) (by simp [results, Tryz.results143, go_sem, q0, q1, q2, q3, q4]) rfl ?_
  exact ⟨hB4.out, ⟨k2, x2, s2, an2, ln2, cn2, ai2, li2, ci2⟩, rfl, hfin.out⟩
end Go.Proofs.YthgnkhpomhcdkaaGreatDoor
/-! update: the change of $push. -/
namespace Go.Proofs.YthgnkhpomhcdkaaGreatDoor
open Go Go.RowKit Dp

set_option maxHeartbeats 4000000 in
set_option maxRecDepth 100000 in
theorem push_hit (t : Tr) (u : V5) (x y : ByteArray) (n c bn bi : Nat) (pv : Value) (l : List ByteArray) (S0 : Nat → Prop) (w : World) (hSw0 : ∀ k, S0 k → k < w.heap.size) (hV0 : Seen w S0 t u.cs) (hP : Reads w pv l) (hl : l.length ≤ 1000000) (hS : Hid (Sized l)) (hb : ∀ st ∈ (downT t l).2, (st.1.items.length + 1) * 80 ≤ 140737488355328) (hd : (downT t l).1 = 0)
    (hg : getT t l = some (listT [wordT x])) (hU : PushT w n c bn bi (wordT y)) :
    Calls Tryz.prog 138 #[u.v, pv, .pointer (some ⟨n, 0, none⟩), .pointer (some ⟨n + 2, 0, none⟩)] w (Laid S0 w (setT t l (listT [wordT x, wordT y]))) := by
  have hV := hV0.rep
  have hB2 : ∀ o1 o2, Below w.heap.size w ((w.alloc o1).alloc o2) := fun o1 o2 => ((Below.refl _ w).alloc (Nat.le_refl _) o1).alloc (by simp) o2
  have hget := fun o1 o2 => hid_of (get_hit t _ u pv l ((w.alloc o1).alloc o2) (VRep.keep (hB2 o1 o2) _ _ hV) (hP.keep (hB2 o1 o2)) (by omega) hS hg)
  have hre := hid_of (fun W (hbw : Below w.heap.size w W) => relist_hit t u (objU bn bi) x y (n + 1) c pv l S0 W (fun k hk => Nat.lt_of_lt_of_le (hSw0 k hk) hbw.size) (hV0.keep hbw) (hP.keep hbw) hl hS hb hd hg (cell_of (block_keep hU.enl.same hbw) 0) (block_keep hU.box hbw) (VRep.keep hbw _ _ hU.rep.rep))
  have hre2 := hid_of (fun W (hbw : Below w.heap.size w W) => (cell_of (block_keep hU.enl.re hbw) 0 : W.cell? ⟨n + 2, 0, none⟩ = some (.func (.func 143) #[] #[.pointer (some ⟨n + 1, 0, none⟩)])))
  have X0 : ∀ o2, ((w.alloc (u.obj 28)).alloc o2).heap[w.heap.size]? = some (u.obj 28) := fun o2 => al_lt (by simp) (al_eq rfl)
  have X1 : ∀ o1 o2, ((w.alloc o1).alloc o2).heap[w.heap.size + 1]? = some o2 := fun o1 o2 => al_eq (by simp)
  clear hV hV0 hP hS hb hd hg hl hU
  unfold V5.v V5.obj at *
  go_enter Tryz.func138, Tryz.ntmps138
  go_wp2_with fail
  have HB0 := hid_of (hB2 (.cells #[.int .i64 u.k, .int .i64 u.x, .string u.s, .slice u.an u.ln u.cn, .slice u.ai u.li u.ci] 28) (.cells #[.int .i64 0, .int .i64 0, .string ⟨#[]⟩, .slice none 0 0, .slice none 0 0] 28))
  have C0 := hid_of (X0 (.cells #[.int .i64 0, .int .i64 0, .string ⟨#[]⟩, .slice none 0 0, .slice none 0 0] 28))
  have C1 := hid_of (X1 (.cells #[.int .i64 u.k, .int .i64 u.x, .string u.s, .slice u.an u.ln u.cn, .slice u.ai u.li u.ci] 28) (.cells #[.int .i64 0, .int .i64 0, .string ⟨#[]⟩, .slice none 0 0, .slice none 0 0] 28))
  have hget1 := hget (.cells #[.int .i64 u.k, .int .i64 u.x, .string u.s, .slice u.an u.ln u.cn, .slice u.ai u.li u.ci] 28) (.cells #[.int .i64 0, .int .i64 0, .string ⟨#[]⟩, .slice none 0 0, .slice none 0 0] 28)
  clear hget hB2 X0 X1
  generalize (w.alloc (.cells #[.int .i64 u.k, .int .i64 u.x, .string u.s, .slice u.an u.ln u.cn, .slice u.ai u.li u.ci] 28)).alloc (.cells #[.int .i64 0, .int .i64 0, .string ⟨#[]⟩, .slice none 0 0, .slice none 0 0] 28) = wq at *
  refine hget1.out.mono ?_
  rintro e w1 ⟨hb1, yv, rfl, hy⟩
  have HB1 := hid_of (HB0.out.trans (hb1.mono HB0.out.size))
  have D0 := hid_of (block_keep C0.out hb1)
  have D1 := hid_of (block_keep C1.out hb1)
  obtain ⟨k, yx, ys, an, ln, cn, ai, li, ci⟩ := yv
  have hbA : Below w1.heap.size w1 (w1.alloc (.cells #[.int .i64 k, .int .i64 yx, .string ys, .slice an ln cn, .slice ai li ci] 28)) := (Below.refl _ w1).alloc (Nat.le_refl _) _
  have HB2 := hid_of (HB1.out.trans (hbA.mono HB1.out.size))
  have E0 := hid_of (block_keep D0.out hbA)
  have E1 := hid_of (block_keep D1.out hbA)
  have hc3 := hre2.out _ HB2.out
  have hr3 := hid_of (hre.out _ HB2.out)
  have hw2 : w.heap.size + 1 < w1.heap.size := (Array.getElem?_eq_some_iff.1 D1.out).1
  clear hb1 hy hbA C0 C1 D0 D1 HB0 HB1 hget1 hre hre2
  dsimp only
  obtain ⟨z0, z1, z2, z3, z4, -⟩ := row_cells E0.out
  go_wp2_with fail
  refine hr3.out.mono ?_
  rintro e X2 ⟨hb6, ⟨k2, x2, s2, an2, ln2, cn2, ai2, li2, ci2⟩, rfl, hy⟩
  have HB6 := hid_of (HB2.out.trans (hb6.mono HB2.out.size))
  have H1 := hid_of (block_keep E1.out hb6)
  replace hy := hid_of hy
  obtain ⟨t0, t1, t2, t3, t4, tf⟩ := row_cells H1.out
  have tf0 := tf 0; have tf1 := tf 1; have tf2 := tf 2; have tf3 := tf 3; have tf4 := tf 4
  clear tf hb6 hr3 hc3 z0 z1 z2 z3 z4 E0 E1 HB2
  unfold V5.v
  dsimp only
  go_wp2_with fail
  rw [← put5_def]
  have hr := put5_at H1.out (.int .i64 k2) (.int .i64 x2) (.string s2) (.slice an2 ln2 cn2) (.slice ai2 li2 ci2)
  have hB4 := hid_of (HB6.out.trans (put5_below (w := X2) (g := w.heap.size + 1) (by omega) (.int .i64 k2) (.int .i64 x2) (.string s2) (.slice an2 ln2 cn2) (.slice ai2 li2 ci2)))
  have hfin := hid_of (Seen.wide (S' := fun k => S0 k ∨ w.heap.size ≤ k) (hy.out.agree (W' := put5 X2 (w.heap.size + 1) (.int .i64 k2) (.int .i64 x2) (.string s2) (.slice an2 ln2 cn2) (.slice ai2 li2 ci2)) ⟨Nat.le_of_eq (put5_size _ _ _ _ _ _ _).symm, fun p u hp hc => (World.cell?_of_block (w := X2) (put5_far (.int .i64 k2) (.int .i64 x2) (.string s2) (.slice an2 ln2 cn2) (.slice ai2 li2 ci2) (show p.block ≠ w.heap.size + 1 from fun e => by
    have hp' : S0 p.block ∨ _ ≤ p.block := hp
    simp only [World.size_alloc] at hp'
    have hp2 := hSw0 p.block
    rcases hp' with h | h
    · have := hp2 h; omega
    · omega))).trans hc⟩) (fun k hk => by
      simp only [World.size_alloc] at hk
      rcases hk with h | h
      · exact .inl h
      · exact .inr (by omega)))
  clear t0 t1 t2 t3 t4 tf0 tf1 tf2 tf3 tf4 H1 HB6 hy
  generalize put5 X2 (w.heap.size + 1) (.int .i64 k2) (.int .i64 x2) (.string s2) (.slice an2 ln2 cn2) (.slice ai2 li2 ci2) = w9 at hr hB4 hfin ⊢
  have q0 : w9.cell? ⟨w.heap.size + 1, 0, none⟩ = some (.int .i64 k2) := cell_of hr 0
  have q1 : w9.cell? ⟨w.heap.size + 1, 1, none⟩ = some (.int .i64 x2) := cell_of hr 1
  have q2 : w9.cell? ⟨w.heap.size + 1, 2, none⟩ = some (.string s2) := cell_of hr 2
  have q3 : w9.cell? ⟨w.heap.size + 1, 3, none⟩ = some (.slice an2 ln2 cn2) := cell_of hr 3
  have q4 : w9.cell? ⟨w.heap.size + 1, 4, none⟩ = some (.slice ai2 li2 ci2) := cell_of hr 4
  refine bodyPost_ret (v := .tuple #[.agg #[.int .i64 k2, .int .i64 x2, .string s2, .slice an2 ln2 cn2, .slice ai2 li2 ci2], .nilIface]) (by simp [results, Tryz.results138, go_sem, q0, q1, q2, q3, q4]) rfl ?_
  exact ⟨hB4.out, ⟨k2, x2, s2, an2, ln2, cn2, ai2, li2, ci2⟩, rfl, hfin.out⟩
end Go.Proofs.YthgnkhpomhcdkaaGreatDoor
/-! update: changed. -/
namespace Go.Proofs.YthgnkhpomhcdkaaGreatDoor
open Go Go.RowKit Dp

abbrev anyV (g c : Nat) (f : Value) : Value := .agg #[pathV g c, f]
theorem reads_one {w : World} {gs cs : Nat} {s : ByteArray} (h : w.cell? ⟨gs, 0, none⟩ = some (.string s)) (hc : 1 ≤ cs ∧ cs ≤ 9223372036854775807) : Reads w (.slice (some ⟨gs, 0, none⟩) 1 cs) [s] :=
  ⟨some ⟨gs, 0, none⟩, cs, rfl, hc, .inr ⟨gs, 0, rfl, lt_of_cell h, fun j v hj => by
    rcases j with _ | j
    · obtain rfl : s = v := by simpa using hj
      exact h
    · simp at hj⟩⟩
set_option maxHeartbeats 8000000 in
set_option maxRecDepth 100000 in
theorem changed_ok (R : Tr) (f : Nat) (p1 p2 : Value) (ub g c : Nat) (tv mv : Value) (s : ByteArray) (h1 : 1 ≤ s.size) (h2 : Dp.byteAt s 0 ≠ 36) (u : V5) (S0 : Nat → Prop) (w : World) (hSw0 : ∀ k, S0 k → k < w.heap.size)
    (eg : ∀ args w, (callFunc f args).run Tryz.prog w = .ok (.enter f args) w)
    (hub : w.heap[ub]? = some (.cells #[tv, mv] 53)) (hp : w.cell? ⟨g, 0, none⟩ = some (.string s))
    (hf : Hid (∀ W pv, Below w.heap.size w W → Reads W pv [s] → Calls Tryz.prog f #[u.v, pv, p1, p2] W (Laid S0 W R))) :
    Calls Tryz.prog 60 #[.pointer (some ⟨ub, 0, none⟩), anyV g c (.func (.func f) #[] #[p1, p2]), u.v] w (Laid S0 w R) := by
  have hB3 : Below w.heap.size w (((w.alloc (.cells #[pathV g c, .func (.func f) #[] #[p1, p2]] 79)).alloc (u.obj 28)).alloc (.cells #[.int .i64 0, .int .i64 0, .string ⟨#[]⟩, .slice none 0 0, .slice none 0 0] 28)) := (((Below.refl _ w).alloc (Nat.le_refl _) _).alloc (by simp) _).alloc (by simp; omega) _
  have X0 : (((w.alloc (.cells #[pathV g c, .func (.func f) #[] #[p1, p2]] 79)).alloc (u.obj 28)).alloc (.cells #[.int .i64 0, .int .i64 0, .string ⟨#[]⟩, .slice none 0 0, .slice none 0 0] 28)).heap[w.heap.size]? = some (.cells #[pathV g c, .func (.func f) #[] #[p1, p2]] 79) := al_lt (by simp; omega) (al_lt (by simp) (al_eq rfl))
  have X1 : (((w.alloc (.cells #[pathV g c, .func (.func f) #[] #[p1, p2]] 79)).alloc (u.obj 28)).alloc (.cells #[.int .i64 0, .int .i64 0, .string ⟨#[]⟩, .slice none 0 0, .slice none 0 0] 28)).heap[w.heap.size + 1]? = some (u.obj 28) := al_lt (by simp) (al_eq (by simp))
  have X2 : (((w.alloc (.cells #[pathV g c, .func (.func f) #[] #[p1, p2]] 79)).alloc (u.obj 28)).alloc (.cells #[.int .i64 0, .int .i64 0, .string ⟨#[]⟩, .slice none 0 0, .slice none 0 0] 28)).heap[w.heap.size + 1 + 1]? = some (.cells #[.int .i64 0, .int .i64 0, .string ⟨#[]⟩, .slice none 0 0, .slice none 0 0] 28) := al_eq (by simp)
  have hpl := hid_of (fun W (hbw : Below w.heap.size w W) => places_one mv g c s h1 h2 u W (stay hbw hp))
  have ym := (cell_of (block_keep hub hB3) 1)
  simp only [List.getElem?_toArray, List.getElem?_cons_zero, List.getElem?_cons_succ] at ym
  have y0 := cell_of X0 0
  have y1 := cell_of X0 1
  simp only [List.getElem?_toArray, List.getElem?_cons_zero, List.getElem?_cons_succ] at y0 y1
  obtain ⟨z0, z1, z2, z3, z4⟩ := box_five X1 (Below.refl _ _)
  replace hB3 := hid_of hB3; replace X0 := hid_of X0; replace X1 := hid_of X1; replace X2 := hid_of X2
  clear h1 h2 hub hp
  unfold V5.v V5.obj at *
  go_enter Tryz.func60, Tryz.ntmps60
  go_wp2_with fail
  generalize ((w.alloc (.cells #[pathV g c, .func (.func f) #[] #[p1, p2]] 79)).alloc (.cells #[.int .i64 u.k, .int .i64 u.x, .string u.s, .slice u.an u.ln u.cn, .slice u.ai u.li u.ci] 28)).alloc (.cells #[.int .i64 0, .int .i64 0, .string ⟨#[]⟩, .slice none 0 0, .slice none 0 0] 28) = wq at *
  have hp1 := hid_of (hpl.out wq.drew (below_drew hB3.out))
  clear hpl
  go_region_held3 (fun W => W.cell? ⟨ub, 1, none⟩ = some mv ∧ W.cell? ⟨w.heap.size, 0, none⟩ = some (pathV g c) ∧ W.cell? ⟨w.heap.size + 1, 0, none⟩ = some (.int .i64 u.k) ∧ W.cell? ⟨w.heap.size + 1, 1, none⟩ = some (.int .i64 u.x) ∧ W.cell? ⟨w.heap.size + 1, 2, none⟩ = some (.string u.s) ∧ W.cell? ⟨w.heap.size + 1, 3, none⟩ = some (.slice u.an u.ln u.cn) ∧ W.cell? ⟨w.heap.size + 1, 4, none⟩ = some (.slice u.ai u.li u.ci)) (go_keep) ((go_at_call 112; refine hp1.out.mono ?_; rintro e W1 ⟨hb1', gp, cp, gs, cs, rfl, hgp, hcs, hgs⟩; have hb1 : Below wq.heap.size wq W1 := ⟨hb1'.os, hb1'.tape, hb1'.output, hb1'.size, hb1'.block⟩; have HB1 := hid_of (hB3.out.trans (hb1.mono hB3.out.size)); have C0 := hid_of (block_keep X0.out hb1); have C1 := hid_of (block_keep X1.out hb1); have C2 := hid_of (block_keep X2.out hb1); have jm := stay hb1 ym; have i0 := stay hb1 y0; obtain ⟨j0, j1, j2, j3, j4, -⟩ := row_cells C1.out; clear hb1 hb1'))
  clear ym y0 y1 z0 z1 z2 z3 z4 jm i0 X0 X1 X2 hp1
  have i1 := cell_of C0.out 1
  simp only [List.getElem?_toArray, List.getElem?_cons_zero, List.getElem?_cons_succ] at i1
  have hfc := hid_of (hf.out W1 _ HB1.out (reads_one hgs hcs))
  have hw1 : w.heap.size + 1 + 1 < W1.heap.size := (Array.getElem?_eq_some_iff.1 C2.out).1
  replace hgs := hid_of hgs; replace hcs := hid_of hcs
  clear hf hB3
  go_wp2_with fail
  refine wp_loop_rounds 2 ?_
  rw [rounds_succ]
  go_wp2_with fail
  refine hfc.out.mono ?_
  rintro e W2 ⟨hb2, ⟨k2, x2, s2, an2, ln2, cn2, ai2, li2, ci2⟩, rfl, hy⟩
  unfold V5.v
  dsimp only
  have HB2 := hid_of (HB1.out.trans (hb2.mono HB1.out.size))
  have D1 := hid_of (block_keep C1.out hb2)
  have D2 := hid_of (block_keep C2.out hb2)
  replace hy := hid_of hy
  clear hb2 hfc hgp j0 j1 j2 j3 j4 i1 C0 C1 C2
  obtain ⟨t0, t1, t2, t3, t4, tf⟩ := row_cells D1.out
  have tf0 := tf 0; have tf1 := tf 1; have tf2 := tf 2; have tf3 := tf 3; have tf4 := tf 4
  clear tf
  go_wp2_with fail
  rw [← put5_def]
  have hr := put5_at D1.out (.int .i64 k2) (.int .i64 x2) (.string s2) (.slice an2 ln2 cn2) (.slice ai2 li2 ci2)
  have hr2 := (put5_far (w := W2) (g := w.heap.size + 1) (.int .i64 k2) (.int .i64 x2) (.string s2) (.slice an2 ln2 cn2) (.slice ai2 li2 ci2) (show w.heap.size + 1 + 1 ≠ w.heap.size + 1 by omega)).trans D2.out
  have hB4 := hid_of (HB2.out.trans (put5_below (w := W2) (g := w.heap.size + 1) (by omega) (.int .i64 k2) (.int .i64 x2) (.string s2) (.slice an2 ln2 cn2) (.slice ai2 li2 ci2)))
  have hfin := hid_of (hy.out.agree (W' := put5 W2 (w.heap.size + 1) (.int .i64 k2) (.int .i64 x2) (.string s2) (.slice an2 ln2 cn2) (.slice ai2 li2 ci2)) ⟨Nat.le_of_eq (put5_size _ _ _ _ _ _ _).symm, fun p u hp hc => (World.cell?_of_block (w := W2) (put5_far (.int .i64 k2) (.int .i64 x2) (.string s2) (.slice an2 ln2 cn2) (.slice ai2 li2 ci2) (show p.block ≠ w.heap.size + 1 from fun e => by
    have hp' : S0 p.block ∨ W1.heap.size ≤ p.block := hp
    have hp2 := hSw0 p.block
    rcases hp' with h | h
    · have := hp2 h; omega
    · omega))).trans hc⟩)
  clear t0 t1 t2 t3 t4 tf0 tf1 tf2 tf3 tf4 D1 D2 HB2 hy
  generalize put5 W2 (w.heap.size + 1) (.int .i64 k2) (.int .i64 x2) (.string s2) (.slice an2 ln2 cn2) (.slice ai2 li2 ci2) = W3 at hr hr2 hB4 hfin ⊢
  obtain ⟨q0, q1, q2, q3, q4, -⟩ := row_cells hr
  obtain ⟨t0, t1, t2, t3, t4, tf⟩ := row_cells hr2
  have tf0 := tf 0; have tf1 := tf 1; have tf2 := tf 2; have tf3 := tf 3; have tf4 := tf 4
  replace hr2 := hid_of hr2; replace hr := hid_of hr
  clear tf
  go_wp2_with fail
  rw [rounds_succ]
  go_wp2_with fail
  rw [← put5_def]
  have hr5 := put5_at hr2.out (.int .i64 k2) (.int .i64 x2) (.string s2) (.slice an2 ln2 cn2) (.slice ai2 li2 ci2)
  have hB5 := hid_of (hB4.out.trans (put5_below (w := W3) (g := w.heap.size + 1 + 1) (by omega) (.int .i64 k2) (.int .i64 x2) (.string s2) (.slice an2 ln2 cn2) (.slice ai2 li2 ci2)))
  have hfin2 := hid_of (Seen.wide (S' := fun k => S0 k ∨ w.heap.size ≤ k) (hfin.out.agree (W' := put5 W3 (w.heap.size + 1 + 1) (.int .i64 k2) (.int .i64 x2) (.string s2) (.slice an2 ln2 cn2) (.slice ai2 li2 ci2)) ⟨Nat.le_of_eq (put5_size _ _ _ _ _ _ _).symm, fun p u hp hc => (World.cell?_of_block (w := W3) (put5_far (.int .i64 k2) (.int .i64 x2) (.string s2) (.slice an2 ln2 cn2) (.slice ai2 li2 ci2) (show p.block ≠ w.heap.size + 1 + 1 from fun e => by
    have hp' : S0 p.block ∨ W1.heap.size ≤ p.block := hp
    have hp2 := hSw0 p.block
    rcases hp' with h | h
    · have := hp2 h; omega
    · omega))).trans hc⟩) (fun k hk => by
      rcases hk with h | h
      · exact .inl h
      · exact .inr (by omega)))
  clear q0 q1 q2 q3 q4 t0 t1 t2 t3 t4 tf0 tf1 tf2 tf3 tf4 hr hr2 hB4 hfin
  generalize put5 W3 (w.heap.size + 1 + 1) (.int .i64 k2) (.int .i64 x2) (.string s2) (.slice an2 ln2 cn2) (.slice ai2 li2 ci2) = w9 at hr5 hB5 hfin2 ⊢
  have q0 : w9.cell? ⟨w.heap.size + 1 + 1, 0, none⟩ = some (.int .i64 k2) := cell_of hr5 0
  have q1 : w9.cell? ⟨w.heap.size + 1 + 1, 1, none⟩ = some (.int .i64 x2) := cell_of hr5 1
  have q2 : w9.cell? ⟨w.heap.size + 1 + 1, 2, none⟩ = some (.string s2) := cell_of hr5 2
  have q3 : w9.cell? ⟨w.heap.size + 1 + 1, 3, none⟩ = some (.slice an2 ln2 cn2) := cell_of hr5 3
  have q4 : w9.cell? ⟨w.heap.size + 1 + 1, 4, none⟩ = some (.slice ai2 li2 ci2) := cell_of hr5 4
  refine bodyPost_ret (v := .tuple #[.agg #[.int .i64 k2, .int .i64 x2, .string s2, .slice an2 ln2 cn2, .slice ai2 li2 ci2], .nilIface]) (by simp [results, Tryz.results60, go_sem, q0, q1, q2, q3, q4]) rfl ?_
  exact ⟨hB5.out, ⟨k2, x2, s2, an2, ln2, cn2, ai2, li2, ci2⟩, rfl, hfin2.out⟩
end Go.Proofs.YthgnkhpomhcdkaaGreatDoor
