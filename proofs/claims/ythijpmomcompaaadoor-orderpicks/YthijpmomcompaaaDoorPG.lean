import Derived.Test.YthijpmomcompaaaDoorPF
/-! OrderPicks. -/
namespace Go.Proofs.YthijpmomcompaaaDoor
open Go Go.RowKit Go.Stab

/-- All that was there is as it was, but for the block b. -/
structure Oth (b : Nat) (w w' : World) : Prop where
  os : w'.os = w.os
  tape : w'.tape = w.tape
  output : w'.output = w.output
  size : w.heap.size ≤ w'.heap.size
  block : ∀ k, k < w.heap.size → k ≠ b → w'.heap[k]? = w.heap[k]?
theorem Oth.refl (b : Nat) (w : World) : Oth b w w := ⟨rfl, rfl, rfl, Nat.le_refl _, fun _ _ _ => rfl⟩
theorem Oth.trans {b : Nat} {x y z : World} (h : Oth b x y) (k : Oth b y z) : Oth b x z :=
  ⟨k.os.trans h.os, k.tape.trans h.tape, k.output.trans h.output, Nat.le_trans h.size k.size, fun i hi hb => (k.block i (Nat.lt_of_lt_of_le hi h.size) hb).trans (h.block i hi hb)⟩
theorem Oth.of_below {b : Nat} {w w' : World} (h : Below w.heap.size w w') : Oth b w w' := ⟨h.os, h.tape, h.output, h.size, fun k hk _ => h.block k hk⟩
theorem Oth.of_but {b : Nat} {w w' : World} (h : Sorted.But b w w') : Oth b w w' := ⟨h.os, h.tape, h.output, h.size, h.block⟩
theorem Oth.grown {b : Nat} {w X Y : World} {row : Option Nat} (h : Oth b w X) (hg : X.grownBy Y row) (hr : ∀ g, row = some g → g = b ∨ w.heap.size ≤ g) : Oth b w Y :=
  ⟨hg.os.trans h.os, hg.tape.trans h.tape, hg.output.trans h.output, Nat.le_trans h.size hg.size, fun k hk hb => (hg.block k (Nat.lt_of_lt_of_le hk h.size) (fun e => by rcases hr k e.symm with h1 | h1 <;> omega)).trans (h.block k hk hb)⟩
theorem Oth.below {b B : Nat} {w0 w w' : World} (h0 : Below B w0 w) (h : Oth b w w') (hB : B ≤ b) (hw : B ≤ w.heap.size) : Below B w0 w' :=
  ⟨h.os.trans h0.os, h.tape.trans h0.tape, h.output.trans h0.output, Nat.le_trans h0.size h.size, fun k hk => (h.block k (by omega) (by omega)).trans (h0.block k hk)⟩
/-- A sorted list lies as it lay, whatever a block of another list holds. -/
theorem LAt.off {base : Nat} {w : World} {v : Value} {es : List El} (h : LAt base w v es) {b : Nat} {w' : World} (hb : b < base) (ho : Oth b w w') : LAt base w' v es := by
  refine ⟨ownsRow_keep h.row (fun g hg => ho.block g (ownsRow_ge h.row hg).2 (by have := (ownsRow_ge h.row hg).1; omega)), h.fives, fun e he W' hW => h.seen e he W' ⟨Nat.le_trans ho.size hW.1, fun p u hp hc => hW.2 p u hp ?_⟩⟩
  exact (World.cell?_of_block (w := w) (a := p) (ho.block _ (lt_of_cell hc) (by have := hp.1; omega))).trans hc
/-- A list whose items are those of another. -/
theorem LAt.other {base b2 : Nat} {w X : World} {v : Value} {es es2 : List El} {g n c : Nat} (h : LAt base w v es) (hs : LAt b2 X (.slice (some ⟨g, 0, none⟩) n c) es2) (hm : ∀ e ∈ es2, e ∈ es) {W' : World} (hW : Below w.heap.size w W') (hg : W'.heap[g]? = X.heap[g]?) : ListAt W' (some ⟨g, 0, none⟩) c (treesE es2) := by
  have hv : ∀ e ∈ es2, VRep W' e.t e.cs := fun e he => h.seen e (hm e he) W' ⟨hW.size, fun p u _ hc => stay hW hc⟩
  have hl : (treesE es2).length = es2.length := by simp [treesE]
  have hr := hs.row
  rcases hr.2 with ⟨e, h0⟩ | ⟨g', cap, cur, e, hg', hh, hc, hm', hs', ht⟩
  · cases e
  · obtain ⟨rfl, -, rfl⟩ : g = g' ∧ n = es2.length ∧ c = cap := by simpa using e
    refine ⟨⟨by rw [hl]; exact hc, by unfold maxLen at hm'; omega⟩, .inr ⟨g, 0, rfl, ?_, vrepL_of es2 hs.fives 0 hv (fun j u hj => ?_)⟩⟩
    · exact (Array.getElem?_eq_some_iff.1 (hg.trans hh)).1
    · rw [Nat.zero_add]
      have := hr
      have h1 : X.cell? ⟨g, j, none⟩ = some u := row_cell (by rw [show n = es2.length by have := e; simp at this; exact this] at hr; exact hr) j u hj
      exact (World.cell?_of_block (w := X) hg).trans h1
def eight : El := ⟨five 8 0 ⟨#[]⟩ (.slice none 0 0) (.slice none 0 0), .node 8 0 ⟨#[]⟩ [] []⟩
theorem eight_rep (W : World) : VRep W eight.t eight.cs := flat_rep 8 0 W
theorem eqT_self (t : Tr) : eqT t t = true := eqT_true rfl
set_option maxHeartbeats 8000000 in
set_option maxRecDepth 100000 in
theorem picks_true (a : Option Addr) (c n : Nat) (its : List Tr) (w : World) (hn : its.length = n) (hnn : n * 80 ≤ 140737488351232) (hV : ListAt w a c its) (hS : SmallL its) :
    Calls Tryd.prog 3 #[.slice a n c] w fun e w' => e = .returned (.bool true) ∧ Below w.heap.size w w' := by
  obtain ⟨i0, hi, hz0, hz1, hz2⟩ := info_parts AV
  have n0 : (0 : Int) ≤ (n : Int) := by omega
  have n1 : (n : Int) ≤ 1759218604441 := by omega
  have hsn := hid_e (small_node hS (by rw [hn]; exact hnn))
  have call1 := hid_e (many_any a c n its w hn hV)
  replace hn := hid_e hn
  replace hV := hid_e hV
  replace hS := hid_e hS
  obtain ⟨Z, hZ⟩ : ∃ Z, Hid (decide (0 < n) = Z) := ⟨_, rfl⟩
  obtain ⟨I, hI⟩ : ∃ I : Nat, Hid (bestT (1) its n = I) := ⟨_, rfl⟩
  obtain ⟨J, hJ⟩ : ∃ J : Nat, Hid (bestT (-1) its n = J) := ⟨_, rfl⟩
  go_enter Tryd.func3, Tryd.ntmps3
  go_wp2_with fail
  refine call1.out.mono ?_
  rintro e w1 ⟨⟨z, rfl⟩, hb1⟩
  replace hb1 := hid_e hb1
  clear call1
  cases z with
  | true =>
    go_wp2_with fail
    go_ret
    exact ⟨rfl, hb1.out⟩
  | false =>
    have call2 := hid_e (copied_any a c n its w1 hn.out hnn (hV.out.keep hb1.out) hS.out)
    go_wp2_with fail
    refine call2.out.mono ?_
    rintro e w2 ⟨v2, es, rfl, hL2, ht2, hb2⟩
    obtain ⟨ac, cc, e2⟩ := hL2.slice
    have hel : Hid (es.length = n) := by have h := congrArg List.length ht2; rw [hn.out] at h; unfold treesE at h; rw [List.length_map] at h; exact h
    rw [hel.out] at e2
    subst e2
    have hB2 := hid_e (hb1.out.trans (hb2.mono hb1.out.size))
    replace hL2 := hid_e hL2
    replace ht2 := hid_e ht2
    have hbs := hid_e hb2.size
    clear call2 hb2
    have hc2 : Hid (∀ W, Below w2.heap.size w2 W → ListAt W ac cc its) := by intro W hW; have h := hL2.out.list.keep hW; rw [ht2.out] at h; exact h
    have hl2 : Hid (∀ W, Below w2.heap.size w2 W → ListAt W a c its) := fun W hW => hV.out.keep (hB2.out.trans (hW.mono hB2.out.size))
    have call3 := hid_e (oleast_any ac cc n its w2 hn.out (by omega) (hc2.out w2 (Below.refl _ _)) hS.out)
    rw [hI.out, hZ.out] at call3
    go_wp2_with fail
    refine call3.out.mono ?_
    rintro e w3 ⟨rfl, hb3⟩
    replace hb3 := hid_e hb3
    clear call3
    have call4 := hid_e (ogreatest_any ac cc n its w3 hn.out (by omega) (hc2.out w3 hb3.out) hS.out)
    rw [hJ.out, hZ.out] at call4
    go_wp2_with fail
    refine call4.out.mono ?_
    rintro e w4 ⟨rfl, hb4'⟩
    have hb4 := hid_e (hb3.out.trans (hb4'.mono hb3.out.size))
    clear call4 hb4' hb3
    have call5 := hid_e (rleast_any a c n its w4 hn.out (by omega) (hl2.out w4 hb4.out) hS.out)
    rw [hI.out, hZ.out] at call5
    go_wp2_with fail
    refine call5.out.mono ?_
    rintro e w5 ⟨rfl, hb5'⟩
    have hb5 := hid_e (hb4.out.trans (hb5'.mono hb4.out.size))
    clear call5 hb5' hb4
    have call6 := hid_e (rgreatest_any a c n its w5 hn.out (by omega) (hl2.out w5 hb5.out) hS.out)
    rw [hJ.out, hZ.out] at call6
    go_wp2_with fail
    refine call6.out.mono ?_
    rintro e w6 ⟨rfl, hb6'⟩
    have hb6 := hid_e (hb5.out.trans (hb6'.mono hb5.out.size))
    clear call6 hb6' hb5
    have hsE : Hid (∀ e ∈ es, SmallT e.t) := by
      intro e he
      have h1 : e.t ∈ treesE es := List.mem_map_of_mem he
      rw [ht2.out] at h1
      obtain ⟨j, hj⟩ := List.mem_iff_getElem?.1 h1
      exact SmallL.at hS.out hj
    obtain ⟨gs, hgs⟩ : ∃ gs, Hid (w6.heap.size = gs) := ⟨_, rfl⟩
    have call7 := hid_e (osort_any w1.heap.size ac cc n es w6 hel.out hnn (hL2.out.keep hb6.out) hsE.out (Nat.le_trans hbs.out hb6.out.size))
    rw [hgs.out] at call7
    go_wp2_with fail
    refine call7.out.mono ?_
    rintro e w7 ⟨rfl, hLs, hb7'⟩
    rw [← hgs.out] at hb7'
    have hb7 := hid_e (hb6.out.trans (hb7'.mono hb6.out.size))
    replace hLs := hid_e hLs
    clear call7 hb7' 
    obtain ⟨gt, hgt⟩ : ∃ gt, Hid (w7.heap.size = gt) := ⟨_, rfl⟩
    have call8 := hid_e (osort_any w1.heap.size ac cc n es w7 hel.out hnn (hL2.out.keep hb7.out) hsE.out (Nat.le_trans hbs.out hb7.out.size))
    rw [hgt.out] at call8
    go_wp2_with fail
    refine call8.out.mono ?_
    rintro e w8 ⟨rfl, hLt, hb8'⟩
    rw [← hgt.out] at hb8'
    have hb8 := hid_e (hb7.out.trans (hb8'.mono hb7.out.size))
    have hLs8 := hid_e (hLs.out.keep hb8')
    replace hLt := hid_e hLt
    have hgst : Hid (gs < gt) := by have := (ownsRow_ge hLs.out.row (g := gs) rfl).2; rw [← hgt.out]; exact this
    have hg2 : Hid (w2.heap.size ≤ gs) := by rw [← hgs.out]; exact hb6.out.size
    clear call8 hb8' hLs hb7 hb6
    have call9 := hid_e (rsort_any a c n its w8 hn.out hnn (hl2.out w8 hb8.out) hS.out)
    go_wp2_with fail
    refine call9.out.mono ?_
    rintro e w9 ⟨v9, es9, rfl, hL9, ht9, hb9'⟩
    obtain ⟨a9, c9, e9⟩ := hL9.slice
    have hel9 : Hid (es9.length = n) := by have h := congrArg List.length ht9; rw [isort_length, hn.out] at h; unfold treesE at h; rw [List.length_map] at h; exact h
    rw [hel9.out] at e9
    subst e9
    have hb9 := hid_e (hb8.out.trans (hb9'.mono hb8.out.size))
    have hLs9 := hid_e (hLs8.out.keep hb9')
    have hLt9 := hid_e (hLt.out.keep hb9')
    have hg8 : Hid (gt < w8.heap.size) := (ownsRow_ge hLt.out.row (g := gt) rfl).2
    replace hL9 := hid_e hL9
    replace ht9 := hid_e ht9
    have hgt9 : Hid (gt < w9.heap.size) := Nat.lt_of_lt_of_le hg8.out hb9'.size
    clear call9 hb9' hLs8 hLt hb8
    have hsl : Hid ((sortE es).length = n) := by rw [← hel.out]; exact isort_length _ _
    have hst : Hid (treesE (sortE es) = isort ltT its) := by show _ = _; rw [sortE_trees, ht2.out]
    have hsi : Hid (SmallT (nodeL (isort ltT its))) := small_node (by
      have hall : ∀ t ∈ isort ltT its, SmallT t := fun t ht => by
        rw [(isort_perm ltT its).mem_iff] at ht
        obtain ⟨j, hj⟩ := List.mem_iff_getElem?.1 ht
        exact SmallL.at hS.out hj
      generalize isort ltT its = L at hall
      induction L with
      | nil => unfold SmallL; trivial
      | cons t ts ih => unfold SmallL; exact ⟨hall t (by simp), ih (fun u hu => hall u (by simp [hu]))⟩) (by rw [isort_length, hn.out]; exact hnn)
    have hil : Hid ((isort ltT its).length = n) := by show _ = _; rw [isort_length, hn.out]
    -- whatever the block gs holds
    have after : Hid (∀ W, Oth gs w9 W → ListAt W (some ⟨gt, 0, none⟩) n (isort ltT its) ∧ ListAt W a9 c9 (isort ltT its) ∧ ListAt W ac cc its ∧ ListAt W a c its ∧ Below w.heap.size w W) := by
      intro W hW
      have hbW : Below w2.heap.size w2 W := hW.below hb9.out hg2.out hb9.out.size
      have h1 := hL2.out.other hLt9.out (fun e he => mem_sortE he) hbW (hW.block gt hgt9.out (by have := hgst.out; omega))
      rw [hst.out] at h1
      have h2 := (hL9.out.off (b := gs) (by have := hgst.out; have := hg8.out; omega) hW).list
      rw [ht9.out] at h2
      exact ⟨h1, h2, hc2.out W hbW, hl2.out W hbW, hB2.out.trans (hbW.mono hB2.out.size)⟩
    have hs9 : Hid (ListAt w9 (some ⟨gs, 0, none⟩) n (isort ltT its)) := by have h := hLs9.out.list; rw [hst.out] at h; exact h
    have same1 := hid_e (fun W (hW : Below w9.heap.size w9 W) => same_any (some ⟨gs, 0, none⟩) a9 n c9 n n _ _ W hil.out hil.out (hs9.out.keep hW) (after.out W (Oth.of_below hW)).2.1 hsi.out)
    have same2 := hid_e (fun W (hW : Oth gs w9 W) => same_any (some ⟨gt, 0, none⟩) a9 n c9 n n _ _ W hil.out hil.out (after.out W hW).1 (after.out W hW).2.1 hsi.out)
    have same3 := hid_e (fun W (hW : Oth gs w9 W) => same_any ac a cc c n n _ _ W hn.out hn.out (after.out W hW).2.2.1 (after.out W hW).2.2.2.1 hsn.out)
    simp only [eqT_self] at same1 same2 same3
    clear hc2 hl2 hL2 hL9 ht9 hst hsi hil hs9 hLt9 hsE hel9 hsl
    go_wp2_with fail
    refine (same1.out w9 (Below.refl _ _)).mono ?_
    rintro e w10 ⟨rfl, hb10⟩
    replace hb10 := hid_e hb10
    go_wp2_with fail
    refine (same2.out w10 (Oth.of_below hb10.out)).mono ?_
    rintro e w11 ⟨rfl, hb11'⟩
    have hb11 := hid_e (hb10.out.trans (hb11'.mono hb10.out.size))
    clear hb11' hb10 same1
    go_wp2_with fail
    refine (same3.out w11 (Oth.of_below hb11.out)).mono ?_
    rintro e w12 ⟨rfl, hb12'⟩
    have hb12 := hid_e (hb11.out.trans (hb12'.mono hb11.out.size))
    clear hb12' hb11
    have hL0 : Hid (LAt w1.heap.size w12 (.slice (some ⟨gs, 0, none⟩) n n) (sortE es)) := hLs9.out.keep hb12.out
    have hsl : Hid ((sortE es).length = n) := by rw [← hel.out]; exact isort_length _ _
    go_wp2_with fail
    go_loopw [15] (fun kv wr => ∃ (q : Nat) (E : List El), kv = .int .i64 q ∧ q ≤ n ∧ Hid (E.length = n) ∧ Hid (LAt w1.heap.size wr (.slice (some ⟨gs, 0, none⟩) n n) E) ∧ Hid (Oth gs w9 wr)) (fun kv _ => n - (intOf kv).toNat)
    case atStart => exact ⟨0, _, rfl, Nat.zero_le _, hsl, hL0, Oth.of_below hb12.out⟩
    case round =>
      clear hL0 hLs9
      obtain ⟨q, E, rfl, hq, hE, hL, ho⟩ := hrel
      by_cases hlt : q < n
      · have q1 : (q : Int) < (n : Int) := by omega
        have q0 : (0 : Int) ≤ (q : Int) := by omega
        obtain ⟨d, hd⟩ : ∃ d, Hid (E[q]? = some d) := ⟨E[q]'(by rw [hE.out]; omega), List.getElem?_eq_getElem (by rw [hE.out]; omega)⟩
        obtain ⟨dc0, dfz⟩ := hL.out.at hd.out
        obtain ⟨dk, dx, ds, da1, dl1, dc1, da2, dl2, dc2, ed⟩ := hL.out.fives d (List.mem_of_getElem? hd.out)
        rw [ed] at dc0
        obtain ⟨f0, f1, f2, f3, f4⟩ := cells5 dc0
        have g0 := dfz (q * 5)
        have g1 := dfz (q * 5 + 1)
        have g2 := dfz (q * 5 + 2)
        have g3 := dfz (q * 5 + 3)
        have g4 := dfz (q * 5 + 4)
        have hset := hid_e (hL.out.set (k := q) (by rw [hE.out]; omega) (e' := eight) ⟨_, _, _, _, _, _, _, _, _, rfl⟩ (fun W' _ => eight_rep W'))
        have ho' := hid_e (ho.out.trans (Oth.of_but hset.out.2))
        clear dfz dc0 hL ho
        go_wp2_with fail
        exact ⟨⟨q + 1, E.set q eight, by go_num, by omega, by show _ = _; rw [List.length_set]; exact hE.out, hset.out.1, ho'⟩, by simp [intOf]; omega⟩
      · obtain rfl : q = n := by omega
        have q1 : ¬ (q : Int) < (q : Int) := by omega
        have hrow0 : Hid (wr.ownsRow w1.heap.size 31 5 (.slice (some ⟨gs, 0, none⟩) q q) q (cellsE E)) := by have h := hL.out.row; rw [hE.out] at h; exact h
        clear hL hE hlt
        go_wp2_with fail
        go_loopw [12, 16] (fun sv kv wr => ∃ (p m : Nat) (ao : Option Addr) (co : Nat) (xs : List Value), sv = .slice ao m co ∧ kv = .int .i64 p ∧ p ≤ 16 ∧ Hid (m = q + p) ∧ Hid (wr.ownsRow w1.heap.size 31 5 (.slice ao m co) m xs) ∧ Hid (∀ g, (Value.slice ao m co).ownBlock = some g → g = gs ∨ w9.heap.size ≤ g) ∧ Hid (Oth gs w9 wr)) (fun _ kv _ => 16 - (intOf kv).toNat)
        case atStart => exact ⟨0, q, _, _, _, rfl, rfl, by omega, rfl, hrow0, (fun g hg => .inl (by simpa [Value.ownBlock] using hg.symm)), ho⟩
        case round =>
          clear hrow0 ho
          obtain ⟨p, m, ao, co, xs, rfl, rfl, hp, hm, hrow, hown, ho⟩ := hrel
          by_cases hlt : p < 16
          · have p1 : (p : Int) < 16 := by omega
            have p0 : (0 : Int) ≤ (p : Int) := by omega
            have hrow2 : Hid ((wr.alloc (.cells #[.int .i64 7, .int .i64 0, .string ⟨#[]⟩, .slice none 0 0, .slice none 0 0] 31)).ownsRow w1.heap.size 31 5 (.slice ao m co) m xs) := hrow.out.alloc _
            have hbb : Hid (w1.heap.size ≤ (wr.alloc (.cells #[.int .i64 7, .int .i64 0, .string ⟨#[]⟩, .slice none 0 0, .slice none 0 0] 31)).heap.size) := by rw [World.size_alloc]; show _ ≤ _; have := ho.out.size; have := hb9.out.size; have := hbs.out; omega
            have hmb : (m + 1) * 80 ≤ 140737488355328 := by have := hm.out; omega
            go_wp2_with (at_builtin; refine wpList_append_lies _ rfl _ _ 22 rfl w1.heap.size 31 i0 _ 5 80 Tryd.underlying22 hi hz0 hz1 hz2 rfl (by decide) _ m xs rfl hrow2.out _ 1 1 [.int .i64 7, .int .i64 0, .string ⟨#[]⟩, .slice none 0 0, .slice none 0 0] rfl rfl (World.news_of_block (heap_alloc_new wr _)) (five_one _ _ _ _ _ _ _ _ _) (by decide) (by unfold maxLen; omega) (by omega) hbb.out _ rfl ?_; intro g4 cap4 w3' hown3 hgrow3 hat3 hlt3; replace hown3 := hid_e hown3; replace hgrow3 := hid_e hgrow3; replace hat3 := hid_e hat3; clear hlt3)
            have hsz9 := hid_e ho.out.size
            have ho' : Hid (Oth gs w9 w3') := (ho.out.trans (Oth.of_below ((Below.refl _ wr).alloc (Nat.le_refl _) _))).grown hgrow3.out hown.out
            have hown' : Hid (∀ g, (Value.slice (some ⟨g4, 0, none⟩) (m + 1) cap4).ownBlock = some g → g = gs ∨ w9.heap.size ≤ g) := by
              intro g hg
              have e4 : g4 = g := by simpa [Value.ownBlock] using hg
              rcases hat3.out with h | h
              · exact hown.out g (by rw [← e4]; exact h)
              · rw [World.size_alloc] at h; have := hsz9.out; right; omega
            exact ⟨⟨p + 1, m + 1, _, _, _, rfl, by go_num, by omega, by show _ = _; have := hm.out; omega, hown3, hown', ho'⟩, by simp [intOf]; omega⟩
          · have p1 : ¬ (p : Int) < 16 := by omega
            clear hrow hown hm
            go_wp2_with fail
            refine (same2.out wr ho.out).mono ?_
            rintro e w13 ⟨rfl, hb13⟩
            have ho13 := hid_e (ho.out.trans (Oth.of_below hb13))
            clear hb13 ho same2
            go_wp2_with fail
            refine (same3.out w13 ho13.out).mono ?_
            rintro e w14 ⟨rfl, hb14⟩
            have ho14 := hid_e (ho13.out.trans (Oth.of_below hb14))
            clear hb14 ho13 same3
            go_wp2_with fail
            refine (live_true w14).mono ?_
            rintro e w15 ⟨rfl, hb15⟩
            have hfin := hid_e ((after.out w14 ho14.out).2.2.2.2)
            replace hb15 := hid_e hb15
            clear ho14 after
            go_wp2_with fail
            go_ret
            exact ⟨rfl, hfin.out.trans (hb15.out.mono hfin.out.size)⟩
end Go.Proofs.YthijpmomcompaaaDoor
