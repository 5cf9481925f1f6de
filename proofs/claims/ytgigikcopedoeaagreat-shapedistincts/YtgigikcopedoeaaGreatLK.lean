import Derived.Test.YtgigikcopedoeaaGreatLJ
/-! A path more in an order. -/
namespace Go.Proofs.YtgigikcopedoeaaGreat.Tree
open Go Go.RowKit

theorem own_reads' {W W' : World} {lo : Nat} {S : Nat → Prop} {a : Option Addr} {c : Nat} {l : List ByteArray} (h : W.ownsRow lo 9 1 (.slice a l.length c) l.length (strs l)) (hS : ∀ g, (Value.slice a l.length c).ownBlock = some g → S g) (ha : Agree S W W') : Reads W' (.slice a l.length c) l := by
  rcases h.2 with ⟨e, h0⟩ | ⟨g, cap, cur, e, _⟩
  · obtain ⟨rfl, -, rfl⟩ : a = none ∧ l.length = 0 ∧ c = 0 := by simpa using e
    exact ⟨none, 0, rfl, ⟨by omega, by omega⟩, .inl (List.eq_nil_of_length_eq_zero h0)⟩
  · obtain ⟨rfl, -, rfl⟩ : a = some ⟨g, 0, none⟩ ∧ l.length = l.length ∧ c = cap := by simpa using e
    exact own_reads h (hS g rfl) ha
def addS (ts : List Turn) (T : ByteArray) (k x : Int) : Int × List Turn :=
  if (parseR T 0 []).2.1 ≠ 0 then (((parseR T 0 []).2.1 : Int), ts)
  else if ¬ (k = 3 ∧ (x = -1 ∨ x = 1)) then (60, ts)
  else if hasP ts (parseR T 0 []).1 = true then (60, ts) else (0, ts ++ [((parseR T 0 []).1, decide (x = -1))])
/-- An order in memory. -/
def SortSt (w : World) (sb : Nat) (ts : List Turn) : Prop := ∃ ao co xs, w.heap[sb]? = some (.cells #[.slice ao ts.length co] 69 (0, 0)) ∧ w.ownsRow (sb + 1) 66 2 (.slice ao ts.length co) ts.length xs ∧ (∀ W', Agree (fun j => sb < j ∧ (Value.slice ao ts.length co).ownBlock ≠ some j) w W' → KeysRep .bool W' ts xs)
theorem Agree.of_below {S : Nat → Prop} {W W' : World} (h : Below W.heap.size W W') : Agree S W W' := ⟨h.size, fun _ _ _ hc => stay h hc⟩
theorem SortSt.keep {w w' : World} {sb : Nat} {ts : List Turn} (h : SortSt w sb ts) (hb : Below w.heap.size w w') : SortSt w' sb ts := by
  obtain ⟨ao, co, xs, h1, h2, h3⟩ := h
  exact ⟨ao, co, xs, block_keep h1 hb, ownsRow_below h2 hb, fun W' hW => h3 W' ⟨Nat.le_trans hb.size hW.1, fun p u hp hc => hW.2 p u hp (stay hb hc)⟩⟩
/-- Behind add. -/
def AddPost (w : World) (sb : Nat) (r : Int × List Turn) (e : Ending) (w' : World) : Prop := e = .returned (.int .i64 r.1) ∧ (r.1 = 0 → SortSt w' sb r.2) ∧ Below sb w w'
theorem turn_info' : (Tryz.prog.info? 66).map (fun i => (i.zero, i.size, i.bytes)) = some (some (.agg #[.slice none 0 0, .bool false]), 2, 32) := by kernel_rfl
theorem add_end {w X W w4 : World} {sb g c4 : Nat} {ts : List Turn} {l : List ByteArray} {fl : Bool} {ao : Option Addr} {co : Nat} {xs : List Value} {pa : Option Addr} {pc : Nat} {lo : Nat} {v : Value}
    (hsb : sb < w.heap.size) (hB : Below w.heap.size w X) (hW : Below X.heap.size X W)
    (hrow : X.ownsRow (sb + 1) 66 2 (.slice ao ts.length co) ts.length xs)
    (hK : ∀ W', Agree (fun j => sb < j ∧ (Value.slice ao ts.length co).ownBlock ≠ some j) X W' → KeysRep .bool W' ts xs)
    (hP : X.ownsRow lo 9 1 (.slice pa l.length pc) l.length (strs l)) (hlo : w.heap.size ≤ lo) (hne : ∀ g, (Value.slice pa l.length pc).ownBlock = some g → (Value.slice ao ts.length co).ownBlock ≠ some g)
    (hg : W.grownBy w4 (Value.slice ao ts.length co).ownBlock)
    (hown : w4.ownsRow (sb + 1) 66 2 (.slice (some ⟨g, 0, none⟩) (ts.length + 1) c4) (ts.length + 1) (xs ++ [.slice pa l.length pc, .bool fl]))
    (hgn : ∀ j, j < W.heap.size → (Value.slice ao ts.length co).ownBlock ≠ some j → j ≠ g)
    (u4 : w4.heap[sb]? = some (.cells #[v] 69 (0, 0))) :
    SortSt (w4.setCell ⟨sb, 0, none⟩ (.slice (some ⟨g, 0, none⟩) (ts.length + 1) c4)) sb (ts ++ [(l, fl)]) ∧ Below sb w (w4.setCell ⟨sb, 0, none⟩ (.slice (some ⟨g, 0, none⟩) (ts.length + 1) c4)) := by
  have hlen : (ts ++ [(l, fl)]).length = ts.length + 1 := by simp
  have hfar : ∀ j, j ≠ sb → (w4.setCell ⟨sb, 0, none⟩ (.slice (some ⟨g, 0, none⟩) (ts.length + 1) c4)).heap[j]? = w4.heap[j]? := fun j hj => Below.heap_setCell _ _ _ _ hj
  have hgg := (ownsRow_ge hown (g := g) rfl).1
  have hsz4 : W.heap.size ≤ w4.heap.size := hg.size
  have hszs : (w4.setCell ⟨sb, 0, none⟩ (.slice (some ⟨g, 0, none⟩) (ts.length + 1) c4)).heap.size = w4.heap.size := by simp [World.setCell]
  refine ⟨⟨some ⟨g, 0, none⟩, c4, xs ++ [.slice pa l.length pc, .bool fl], ?_, ?_, fun W' hW' => ?_⟩, ?_⟩
  · rw [hlen]
    simp [World.setCell, Array.getElem?_modify, u4]
  · rw [hlen]
    refine ownsRow_keep hown (fun g' hg' => ?_)
    cases hg'
    exact hfar g (by omega)
  · rw [hlen] at hW'
    have hA : Agree (fun j => sb < j ∧ (Value.slice ao ts.length co).ownBlock ≠ some j) X W' := ⟨by have := hW.size; have := hW'.1; rw [hszs] at this; omega, fun p u hp hc => by
      have hlt := lt_of_cell hc
      have h1 := stay hW hc
      have h2 : w4.cell? p = some u := (World.cell?_of_block (hg.block _ (lt_of_cell h1) (fun e => hp.2 e.symm))).trans h1
      refine hW'.2 p u ⟨hp.1, ?_⟩ ((World.cell?_of_block (hfar p.block (by have := hp.1; omega))).trans h2)
      intro e
      have e : g = p.block := by simpa [Value.ownBlock] using e
      exact hgn p.block (lt_of_cell h1) hp.2 e.symm⟩
    exact KeysRep.snoc (own_reads' hP (fun j hj => ⟨by have := (ownsRow_ge hP hj).1; omega, hne j hj⟩) hA) (hK W' hA)
  · have hB4 : Below sb w w4 := ((hB.mono (by omega)).trans (hW.mono (by have := hB.size; omega))).trans (grown_below hg (by have := hB.size; have := hW.size; omega) (fun j hj => by have := (ownsRow_ge hrow hj).1; omega))
    exact ⟨hB4.os, hB4.tape, hB4.output, by rw [hszs]; exact hB4.size, fun j hj => (hfar j (by omega)).trans (hB4.block j hj)⟩

set_option maxHeartbeats 1600000 in
set_option maxRecDepth 100000 in
theorem add_any (sb : Nat) (T : ByteArray) (k x : Int) (s : ByteArray) (an : Option Addr) (ln cn : Nat) (ai : Option Addr) (li ci : Nat) (ts : List Turn) (w : World) (hS : SortSt w sb ts) (hts : ts.length ≤ 100) (hT : T.size ≤ 140737488355328) :
    Calls Tryz.prog 40 #[.pointer (some ⟨sb, 0, none⟩), .string T, .agg #[.int .i64 k, .int .i64 x, .string s, .slice an ln cn, .slice ai li ci]] w (AddPost w sb (addS ts T k x)) := by
  obtain ⟨ao, co, xs, hs1, hrow, hK⟩ := hS
  obtain ⟨m, hm⟩ : ∃ m, Hid (ts.length = m) := ⟨_, rfl⟩
  rw [hm.out] at hs1 hrow hK hts
  obtain ⟨⟨l, ec, at0⟩, hp⟩ : ∃ p, Hid (parseR T 0 [] = p) := ⟨_, rfl⟩
  have hsl := (Array.getElem?_eq_some_iff.1 hs1).1
  obtain ⟨i69, hi69, hz0, hz1, hz2⟩ := info_parts turn_info'
  obtain ⟨X0, hX⟩ : ∃ X0, Hid (w.alloc (.cells #[.int .i64 k, .int .i64 x, .string s, .slice an ln cn, .slice ai li ci] 25) = X0) := ⟨_, rfl⟩
  have HB : Hid (Below w.heap.size w X0) := by rw [← hX.out]; exact (Below.refl _ w).alloc (Nat.le_refl _) _
  have n0 : Hid (X0.heap[w.heap.size]? = some (.cells #[.int .i64 k, .int .i64 x, .string s, .slice an ln cn, .slice ai li ci] 25)) := by rw [← hX.out]; exact heap_alloc_new _ _
  have hpar := hid_e (parse_any T hT X0)
  rw [hp.out] at hpar
  obtain ⟨R, hR⟩ : ∃ R, Hid (addS ts T k x = R) := ⟨_, rfl⟩
  rw [hR.out]
  have s0 := hid_e (block_keep hs1 HB.out)
  have row0 := hid_e (ownsRow_below hrow HB.out)
  have K0 := hid_e (fun W' (h : Agree (fun j => sb < j ∧ (Value.slice ao m co).ownBlock ≠ some j) X0 W') => hK W' ⟨Nat.le_trans HB.out.size h.1, fun p u hp hc => h.2 p u hp (stay HB.out hc)⟩)
  replace hsl := hid_e hsl
  clear hs1 hrow hK
  go_enter Tryz.func40, Tryz.ntmps40
  go_upto_region 1 with fail
  rw [hX.out]
  go_wp2_with fail
  refine hpar.out.mono ?_
  rintro e X1 ⟨sl, rfl, hown, hb1⟩
  obtain ⟨pa, pc, rfl⟩ := ownsRow_slice hown
  have HB1 := hid_e (HB.out.trans (hb1.mono HB.out.size))
  have n1 := hid_e (block_keep n0.out hb1)
  have s1 := hid_e (block_keep s0.out hb1)
  have row1 := hid_e (ownsRow_below row0.out hb1)
  have K1 := hid_e (fun W' (h : Agree (fun j => sb < j ∧ (Value.slice ao m co).ownBlock ≠ some j) X1 W') => K0.out W' ⟨Nat.le_trans hb1.size h.1, fun p u hp hc => h.2 p u hp (stay hb1 hc)⟩)
  have hne : Hid (∀ g, (Value.slice pa l.length pc).ownBlock = some g → (Value.slice ao m co).ownBlock ≠ some g) := fun g hg h => by
    have h1 := (ownsRow_ge hown hg).1
    have h2 := (ownsRow_ge row0.out h).2
    omega
  replace hown := hid_e hown
  have hloX := hid_e HB.out.size
  obtain ⟨lm, hlm⟩ : ∃ lm, Hid (l.length = lm) := ⟨_, rfl⟩
  simp only [hlm.out]
  clear hb1 n0 s0 row0 K0 hpar hX
  by_cases he : ec = 0
  · subst he
    go_upto_region 4 with fail
    obtain ⟨pbx, hpbx⟩ : ∃ pbx, Hid (X1.heap.size = pbx) := ⟨_, rfl⟩
    obtain ⟨X2, hX2⟩ : ∃ X2, Hid (X1.alloc (.cells #[.slice pa lm pc] 22) = X2) := ⟨_, rfl⟩
    have B12 : Hid (Below X1.heap.size X1 X2) := by rw [← hX2.out]; exact (Below.refl _ X1).alloc (Nat.le_refl _) _
    have q2 : Hid (X2.cell? ⟨pbx, 0, none⟩ = some (.slice pa lm pc)) := by rw [← hX2.out, ← hpbx.out]; exact hid_e (by unfold World.cell?; rw [heap_alloc_new X1]; rfl)
    rw [hX2.out, hpbx.out]
    have n2 := hid_e (block_keep n1.out B12.out)
    have s2 := hid_e (block_keep s1.out B12.out)
    have row2 := hid_e (ownsRow_below row1.out B12.out)
    have K2 := hid_e (fun W' (h : Agree (fun j => sb < j ∧ (Value.slice ao m co).ownBlock ≠ some j) X2 W') => K1.out W' ⟨Nat.le_trans B12.out.size h.1, fun p u hp hc => h.2 p u hp (stay B12.out hc)⟩)
    have own2 := hid_e (ownsRow_below hown.out B12.out)
    have HB2 := hid_e (HB1.out.trans (B12.out.mono HB1.out.size))
    obtain ⟨y0, y1, y2, y3, y4, -⟩ := row_cells n2.out
    clear n1 s1 row1 K1 hown HB1 hX2 hpbx B12
    by_cases h1 : k = 3 ∧ x = -1
    · obtain ⟨rfl, rfl⟩ := h1
      have is1 := hid_e (isnum_any 3 (-1) s an ln cn ai li ci (-1) X2)
      rw [decide_eq_true (show (3 : Int) = 3 ∧ (-1 : Int) = -1 from ⟨rfl, rfl⟩)] at is1
      go_upto_region 5 with (go_at_call 51; refine is1.out.mono ?_; rintro e X3 ⟨rfl, hb3⟩; have BX3 := hid_e hb3; clear hb3 is1 y0 y1 y2 y3 y4)
      go_upto_region 7 with fail
      have sY := hid_e (block_keep s2.out BX3.out)
      have rowY := hid_e (ownsRow_below row2.out BX3.out)
      have KY := hid_e (fun W' (h : Agree (fun j => sb < j ∧ (Value.slice ao m co).ownBlock ≠ some j) X3 W') => K2.out W' ⟨Nat.le_trans BX3.out.size h.1, fun p u hp hc => h.2 p u hp (stay BX3.out hc)⟩)
      have ownY := hid_e (ownsRow_below own2.out BX3.out)
      have readY := hid_e (own_reads' (S := fun _ => True) ownY.out (fun _ _ => trivial) (Agree.of_below (Below.refl _ _)))
      have keysY := hid_e (row_keys rowY.out (KY.out _ (Agree.of_below (Below.refl _ _))))
      have q3 := stay BX3.out q2.out
      have t3 : X3.cell? ⟨sb, 0, none⟩ = some (.slice ao m co) := by simp [World.cell?, sY.out]
      have HBY := hid_e (HB2.out.trans (BX3.out.mono HB2.out.size))
      have con := hid_e (tcontains_any ts l ao co m pbx pa pc X3 hm.out (by omega) keysY.out (by rw [hlm.out]; exact q3) readY.out)
      obtain ⟨Z, hZ⟩ : ∃ Z, Hid (hasP ts l = Z) := ⟨_, rfl⟩
      rw [hZ.out] at con
      cases Z with
      | true =>
        go_wp2_with (go_at_call 63; refine con.out.mono ?_; rintro e X5 ⟨rfl, hb5⟩; replace hb5 := hid_e hb5; clear con)
        have s5 := hid_e (block_keep sY.out hb5.out)
        have row5 := hid_e (ownsRow_below rowY.out hb5.out)
        have K5 := hid_e (fun W' (h : Agree (fun j => sb < j ∧ (Value.slice ao m co).ownBlock ≠ some j) X5 W') => KY.out W' ⟨Nat.le_trans hb5.out.size h.1, fun p u hp hc => h.2 p u hp (stay hb5.out hc)⟩)
        have own5 := hid_e (ownsRow_below ownY.out hb5.out)
        have HB5 := hid_e (HBY.out.trans (hb5.out.mono HBY.out.size))
        have q5 := stay hb5.out q3
        have t5 : X5.cell? ⟨sb, 0, none⟩ = some (.slice ao m co) := by simp [World.cell?, s5.out]
        have hsb5 : Hid (sb < X5.heap.size) := hid_e (Array.getElem?_eq_some_iff.1 s5.out).1
        have hq5 : Hid (pbx < X5.heap.size) := hid_e (lt_of_cell q5)
        clear hb5 q3 t3 sY rowY KY ownY readY keysY HBY s2 row2 K2 own2 q2 BX3 HB2
        go_ret
        have e0 : R = (60, ts) := by rw [← hR.out]; unfold addS; rw [hp.out]; simp [hZ.out]
        rw [e0]
        exact ⟨rfl, fun h => absurd (show (60 : Int) = 0 from h) (by decide), HB5.out.mono (by have := hsl.out; omega)⟩
      | false =>
        go_upto_region 9 with (go_at_call 63; refine con.out.mono ?_; rintro e X5 ⟨rfl, hb5⟩; replace hb5 := hid_e hb5; clear con)
        have s5 := hid_e (block_keep sY.out hb5.out)
        have row5 := hid_e (ownsRow_below rowY.out hb5.out)
        have K5 := hid_e (fun W' (h : Agree (fun j => sb < j ∧ (Value.slice ao m co).ownBlock ≠ some j) X5 W') => KY.out W' ⟨Nat.le_trans hb5.out.size h.1, fun p u hp hc => h.2 p u hp (stay hb5.out hc)⟩)
        have own5 := hid_e (ownsRow_below ownY.out hb5.out)
        have HB5 := hid_e (HBY.out.trans (hb5.out.mono HBY.out.size))
        have q5 := stay hb5.out q3
        have t5 : X5.cell? ⟨sb, 0, none⟩ = some (.slice ao m co) := by simp [World.cell?, s5.out]
        have hsb5 : Hid (sb < X5.heap.size) := hid_e (Array.getElem?_eq_some_iff.1 s5.out).1
        have hq5 : Hid (pbx < X5.heap.size) := hid_e (lt_of_cell q5)
        clear hb5 q3 t3 sY rowY KY ownY readY keysY HBY s2 row2 K2 own2 q2 BX3 HB2
        have e0 : Hid (R = (0, ts ++ [(l, true)])) := by rw [← hR.out]; unfold addS; rw [hp.out]; exact hid_e (by simp [hZ.out])
        have s5' := fun o => hid_e ((Below.heap_alloc X5 o sb hsb5.out).trans s5.out)
        have t5' := fun o => cell_alloc' (W := X5) t5 o
        have q5' := fun o => cell_alloc' (W := X5) q5 o
        go_region_law (refine step_append_lies _ rfl _ _ 67 rfl (sb + 1) 66 i69 _ 2 32 Tryz.underlying67 hi69 hz0 hz1 hz2 rfl (by decide) (.slice ao m co) m xs rfl (row5.out.alloc _) _ 1 1 [.slice pa lm pc, .bool true] rfl rfl (World.news_of_block (heap_new' (by simp))) (by simp [Value.oneCell']) (by decide) (by unfold maxLen; omega) (by omega) (by have := hsb5.out; simp; omega) _ rfl ?_; intro g cg w4 hown4 hgrow4 hat4 hlt4; have u4 := hid_e ((hgrow4.block sb (by have := hsb5.out; simp; omega) (fun e => by have := (ownsRow_ge row5.out e.symm).1; omega)).trans (s5' _).out); have u5 : w4.cell? ⟨sb, 0, none⟩ = some (.slice ao m co) := (by simp [World.cell?, u4.out]); have u6 : w4.frozen? ⟨sb, 0, none⟩ = false := (by simp [World.frozen?, u4.out]); replace hown4 := hid_e hown4; replace hgrow4 := hid_e hgrow4; replace hat4 := hid_e hat4; clear hlt4)
        all_goals
          go_wp2_with fail
          go_ret
          have hm' := hm.out
          subst hm'
          have hl' := hlm.out
          subst hl'
          have fin := add_end (w := w) (X := X5) (ts := ts) (l := l) (fl := true) hsl.out HB5.out (by first | exact below_drew ((Below.refl _ _).alloc (Nat.le_refl _) _) | exact (below_drew (Below.refl _ _)).alloc (Nat.le_refl _) _) row5.out K5.out own5.out hloX.out hne.out hgrow4.out hown4.out (fun j hj hn e => by rcases hat4.out with h | h; exact hn (by rw [e]; exact h); rw [e, h] at hj; exact absurd hj (Nat.lt_irrefl _)) u4.out
          rw [e0.out]
          exact ⟨rfl, fun _ => fin.1, fin.2⟩
    · have is1 := hid_e (isnum_any k x s an ln cn ai li ci (-1) X2)
      rw [decide_eq_false h1] at is1
      by_cases h2 : k = 3 ∧ x = 1
      · obtain ⟨rfl, rfl⟩ := h2
        clear h1
        go_upto_region 5 with (go_at_call 51; refine is1.out.mono ?_; rintro e X3 ⟨rfl, hb3⟩; have BX3 := hid_e hb3; have z0 := stay hb3 y0; have z1 := stay hb3 y1; have z2 := stay hb3 y2; have z3 := stay hb3 y3; have z4 := stay hb3 y4; clear hb3 is1 y0 y1 y2 y3 y4)
        have is2 := hid_e (isnum_any 3 1 s an ln cn ai li ci 1 X3)
        rw [decide_eq_true (show (3 : Int) = 3 ∧ (1 : Int) = 1 from ⟨rfl, rfl⟩)] at is2
        go_upto_region 7 with (go_at_call 51; refine is2.out.mono ?_; rintro e X4 ⟨rfl, hb4⟩; have BX4 := hid_e (BX3.out.trans (hb4.mono BX3.out.size)); clear hb4 is2 z0 z1 z2 z3 z4 BX3)
        have sY := hid_e (block_keep s2.out BX4.out)
        have rowY := hid_e (ownsRow_below row2.out BX4.out)
        have KY := hid_e (fun W' (h : Agree (fun j => sb < j ∧ (Value.slice ao m co).ownBlock ≠ some j) X4 W') => K2.out W' ⟨Nat.le_trans BX4.out.size h.1, fun p u hp hc => h.2 p u hp (stay BX4.out hc)⟩)
        have ownY := hid_e (ownsRow_below own2.out BX4.out)
        have readY := hid_e (own_reads' (S := fun _ => True) ownY.out (fun _ _ => trivial) (Agree.of_below (Below.refl _ _)))
        have keysY := hid_e (row_keys rowY.out (KY.out _ (Agree.of_below (Below.refl _ _))))
        have q3 := stay BX4.out q2.out
        have t3 : X4.cell? ⟨sb, 0, none⟩ = some (.slice ao m co) := by simp [World.cell?, sY.out]
        have HBY := hid_e (HB2.out.trans (BX4.out.mono HB2.out.size))
        have con := hid_e (tcontains_any ts l ao co m pbx pa pc X4 hm.out (by omega) keysY.out (by rw [hlm.out]; exact q3) readY.out)
        obtain ⟨Z, hZ⟩ : ∃ Z, Hid (hasP ts l = Z) := ⟨_, rfl⟩
        rw [hZ.out] at con
        cases Z with
        | true =>
          go_wp2_with (go_at_call 63; refine con.out.mono ?_; rintro e X5 ⟨rfl, hb5⟩; replace hb5 := hid_e hb5; clear con)
          have s5 := hid_e (block_keep sY.out hb5.out)
          have row5 := hid_e (ownsRow_below rowY.out hb5.out)
          have K5 := hid_e (fun W' (h : Agree (fun j => sb < j ∧ (Value.slice ao m co).ownBlock ≠ some j) X5 W') => KY.out W' ⟨Nat.le_trans hb5.out.size h.1, fun p u hp hc => h.2 p u hp (stay hb5.out hc)⟩)
          have own5 := hid_e (ownsRow_below ownY.out hb5.out)
          have HB5 := hid_e (HBY.out.trans (hb5.out.mono HBY.out.size))
          have q5 := stay hb5.out q3
          have t5 : X5.cell? ⟨sb, 0, none⟩ = some (.slice ao m co) := by simp [World.cell?, s5.out]
          have hsb5 : Hid (sb < X5.heap.size) := hid_e (Array.getElem?_eq_some_iff.1 s5.out).1
          have hq5 : Hid (pbx < X5.heap.size) := hid_e (lt_of_cell q5)
          clear hb5 q3 t3 sY rowY KY ownY readY keysY HBY s2 row2 K2 own2 q2 BX4 HB2
          go_ret
          have e0 : R = (60, ts) := by rw [← hR.out]; unfold addS; rw [hp.out]; simp [hZ.out]
          rw [e0]
          exact ⟨rfl, fun h => absurd (show (60 : Int) = 0 from h) (by decide), HB5.out.mono (by have := hsl.out; omega)⟩
        | false =>
          go_upto_region 9 with (go_at_call 63; refine con.out.mono ?_; rintro e X5 ⟨rfl, hb5⟩; replace hb5 := hid_e hb5; clear con)
          have s5 := hid_e (block_keep sY.out hb5.out)
          have row5 := hid_e (ownsRow_below rowY.out hb5.out)
          have K5 := hid_e (fun W' (h : Agree (fun j => sb < j ∧ (Value.slice ao m co).ownBlock ≠ some j) X5 W') => KY.out W' ⟨Nat.le_trans hb5.out.size h.1, fun p u hp hc => h.2 p u hp (stay hb5.out hc)⟩)
          have own5 := hid_e (ownsRow_below ownY.out hb5.out)
          have HB5 := hid_e (HBY.out.trans (hb5.out.mono HBY.out.size))
          have q5 := stay hb5.out q3
          have t5 : X5.cell? ⟨sb, 0, none⟩ = some (.slice ao m co) := by simp [World.cell?, s5.out]
          have hsb5 : Hid (sb < X5.heap.size) := hid_e (Array.getElem?_eq_some_iff.1 s5.out).1
          have hq5 : Hid (pbx < X5.heap.size) := hid_e (lt_of_cell q5)
          clear hb5 q3 t3 sY rowY KY ownY readY keysY HBY s2 row2 K2 own2 q2 BX4 HB2
          have e0 : Hid (R = (0, ts ++ [(l, false)])) := by rw [← hR.out]; unfold addS; rw [hp.out]; exact hid_e (by simp [hZ.out])
          have s5' := fun o => hid_e ((Below.heap_alloc X5 o sb hsb5.out).trans s5.out)
          have t5' := fun o => cell_alloc' (W := X5) t5 o
          have q5' := fun o => cell_alloc' (W := X5) q5 o
          go_region_law (refine step_append_lies _ rfl _ _ 67 rfl (sb + 1) 66 i69 _ 2 32 Tryz.underlying67 hi69 hz0 hz1 hz2 rfl (by decide) (.slice ao m co) m xs rfl (row5.out.alloc _) _ 1 1 [.slice pa lm pc, .bool false] rfl rfl (World.news_of_block (heap_new' (by simp))) (by simp [Value.oneCell']) (by decide) (by unfold maxLen; omega) (by omega) (by have := hsb5.out; simp; omega) _ rfl ?_; intro g cg w4 hown4 hgrow4 hat4 hlt4; have u4 := hid_e ((hgrow4.block sb (by have := hsb5.out; simp; omega) (fun e => by have := (ownsRow_ge row5.out e.symm).1; omega)).trans (s5' _).out); have u5 : w4.cell? ⟨sb, 0, none⟩ = some (.slice ao m co) := (by simp [World.cell?, u4.out]); have u6 : w4.frozen? ⟨sb, 0, none⟩ = false := (by simp [World.frozen?, u4.out]); replace hown4 := hid_e hown4; replace hgrow4 := hid_e hgrow4; replace hat4 := hid_e hat4; clear hlt4)
          all_goals
            go_wp2_with fail
            go_ret
            have hm' := hm.out
            subst hm'
            have hl' := hlm.out
            subst hl'
            have fin := add_end (w := w) (X := X5) (ts := ts) (l := l) (fl := false) hsl.out HB5.out (by first | exact below_drew ((Below.refl _ _).alloc (Nat.le_refl _) _) | exact (below_drew (Below.refl _ _)).alloc (Nat.le_refl _) _) row5.out K5.out own5.out hloX.out hne.out hgrow4.out hown4.out (fun j hj hn e => by rcases hat4.out with h | h; exact hn (by rw [e]; exact h); rw [e, h] at hj; exact absurd hj (Nat.lt_irrefl _)) u4.out
            rw [e0.out]
            exact ⟨rfl, fun _ => fin.1, fin.2⟩
      · have e0 : Hid (R = (60, ts)) := by rw [← hR.out]; unfold addS; rw [hp.out]; exact hid_e (by rw [if_neg (by simp), if_pos (fun h => h.2.elim (fun e => h1 ⟨h.1, e⟩) (fun e => h2 ⟨h.1, e⟩))])
        replace h1 := hid_e h1
        replace h2 := hid_e h2
        go_upto_region 5 with (go_at_call 51; refine is1.out.mono ?_; rintro e X3 ⟨rfl, hb3⟩; have BX3 := hid_e hb3; have z0 := stay hb3 y0; have z1 := stay hb3 y1; have z2 := stay hb3 y2; have z3 := stay hb3 y3; have z4 := stay hb3 y4; clear hb3 is1 y0 y1 y2 y3 y4)
        have is2 := hid_e (isnum_any k x s an ln cn ai li ci 1 X3)
        rw [decide_eq_false h2.out] at is2
        go_wp2_with (go_at_call 51; refine is2.out.mono ?_; rintro e X4 ⟨rfl, hb4⟩; have BX4 := hid_e (BX3.out.trans (hb4.mono BX3.out.size)); clear hb4 is2 z0 z1 z2 z3 z4 BX3)
        go_ret
        rw [e0.out]
        exact ⟨rfl, fun h => absurd (show (60 : Int) = 0 from h) (by decide), (HB2.out.trans (BX4.out.mono HB2.out.size)).mono (by have := hsl.out; omega)⟩
  · have he' : ¬ (ec : Int) = 0 := by omega
    go_wp2_with fail
    go_ret
    have e0 : R = ((ec : Int), ts) := by rw [← hR.out]; unfold addS; rw [hp.out]; simp [he]
    rw [e0]
    exact ⟨rfl, fun h => absurd h he', ((HB1.out.alloc HB1.out.size _)).mono (by have := hsl.out; omega)⟩

end Go.Proofs.YtgigikcopedoeaaGreat.Tree
