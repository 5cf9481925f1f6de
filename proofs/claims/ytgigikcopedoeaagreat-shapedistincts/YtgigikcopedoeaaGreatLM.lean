import Derived.Test.YtgigikcopedoeaaGreatLL
/-! The document's ParseSort. -/
namespace Go.Proofs.YtgigikcopedoeaaGreat.Tree
open Go Go.RowKit

def wayE (fl : Bool) : Value := .int .i64 (sgB fl)
theorem parseF_code (T : ByteArray) : (f n : Nat) → (l : List ByteArray) → (parseF T f n l).2.1 = 0 ∨ (parseF T f n l).2.1 = 20
  | 0, n, l => .inr rfl
  | f + 1, n, l => by
    rw [parseF]
    split
    · exact .inr rfl
    · split
      · exact parseF_code T f _ _
      · exact .inl rfl
/-- The document's keys in memory, in a row of their own beyond block B. -/
def RSt (B : Nat) (w : World) (ao : Option Addr) (m co : Nat) (ts : List Turn) : Prop := ts.length = m ∧ ∃ xs, w.ownsRow (B + 1) 83 2 (.slice ao m co) m xs ∧ (∀ W', Agree (fun j => B < j ∧ (Value.slice ao m co).ownBlock ≠ some j) w W' → KeysRep wayE W' ts xs)
theorem RSt.keep {B : Nat} {w w' : World} {ao : Option Addr} {m co : Nat} {ts : List Turn} (h : RSt B w ao m co ts) (hb : Below w.heap.size w w') : RSt B w' ao m co ts := by
  obtain ⟨h0, xs, h2, h3⟩ := h
  exact ⟨h0, xs, ownsRow_below h2 hb, fun W' hW => h3 W' ⟨Nat.le_trans hb.size hW.1, fun p u hp hc => hW.2 p u hp (stay hb hc)⟩⟩
theorem RSt.keys {B : Nat} {w : World} {ao : Option Addr} {m co : Nat} {ts : List Turn} (h : RSt B w ao m co ts) : KeysAt wayE w ao ts := by
  obtain ⟨h0, xs, h2, h3⟩ := h
  exact row_keys h2 (h3 _ (Agree.of_below (Below.refl _ _)))
theorem rst_snoc {B m co g c4 lo : Nat} {X w4 : World} {ao : Option Addr} {ts : List Turn} {l : List ByteArray} {fl : Bool} {xs : List Value} {pa : Option Addr} {pc : Nat} (h0 : ts.length = m)
    (hK : ∀ W', Agree (fun j => B < j ∧ (Value.slice ao m co).ownBlock ≠ some j) X W' → KeysRep wayE W' ts xs)
    (hP : X.ownsRow lo 9 1 (.slice pa l.length pc) l.length (strs l)) (hlo : B < lo) (hne : ∀ g, (Value.slice pa l.length pc).ownBlock = some g → (Value.slice ao m co).ownBlock ≠ some g)
    (hg : X.grownBy w4 (Value.slice ao m co).ownBlock)
    (hown : w4.ownsRow (B + 1) 83 2 (.slice (some ⟨g, 0, none⟩) (m + 1) c4) (m + 1) (xs ++ [.slice pa l.length pc, wayE fl]))
    (hat : (Value.slice ao m co).ownBlock = some g ∨ g = X.heap.size) : RSt B w4 (some ⟨g, 0, none⟩) (m + 1) c4 (ts ++ [(l, fl)]) := by
  refine ⟨by simp [h0], _, hown, fun W' hW' => ?_⟩
  have hA : Agree (fun j => B < j ∧ (Value.slice ao m co).ownBlock ≠ some j) X W' := ⟨Nat.le_trans hg.size hW'.1, fun p u hp hc => by
    have h2 : w4.cell? p = some u := (World.cell?_of_block (hg.block _ (lt_of_cell hc) (fun e => hp.2 e.symm))).trans hc
    refine hW'.2 p u ⟨hp.1, fun e => ?_⟩ h2
    have e : g = p.block := by simpa [Value.ownBlock] using e
    rcases hat with h | h
    · exact hp.2 (by rw [h, e])
    · have := lt_of_cell hc; omega⟩
  exact KeysRep.snoc (own_reads' hP (fun j hj => ⟨by have := (ownsRow_ge hP hj).1; omega, hne j hj⟩) hA) (hK W' hA)
theorem key_info : (Tryz.prog.info? 83).map (fun i => (i.zero, i.size, i.bytes)) = some (some (.agg #[.slice none 0 0, .int .i64 0]), 2, 32) := by kernel_rfl
def RPPost (w : World) (r : Int × List Turn) (e : Ending) (w' : World) : Prop := Below w.heap.size w w' ∧ ((r.1 = 0 ∧ ∃ a c, e = .returned (.tuple #[.slice a r.2.length c, .int .i64 0]) ∧ KeysAt wayE w' a r.2) ∨ (r.1 ≠ 0 ∧ e = .returned (.tuple #[.slice none 0 0, .int .i64 r.1])))
set_option maxHeartbeats 2000000 in
set_option maxRecDepth 100000 in
theorem rpsort_any (x : Int) (s : ByteArray) (ns : List ByteArray) (its : List Tr) (k : Int) (an : Option Addr) (ln cn : Nat) (ai : Option Addr) (li ci : Nat) (w : World) (hV : VRep w (.node k x s ns its) (five k x s (.slice an ln cn) (.slice ai li ci))) (hT : SmallT (.node k x s ns its)) :
    Calls Tryz.prog 18 #[.agg #[.int .i64 k, .int .i64 x, .string s, .slice an ln cn, .slice ai li ci]] w (RPPost w (parseS (.node k x s ns its))) := by
  unfold VRep at hV
  obtain ⟨nm, a, c, e, hR, hc, hI⟩ := hV
  unfold five at e
  obtain ⟨rfl, rfl, rfl, rfl⟩ : nm = .slice an ln cn ∧ a = ai ∧ its.length = li ∧ c = ci := by simp at e; obtain ⟨h1, h2, h3, h4⟩ := e; exact ⟨h1.symm, h2.symm, h3.symm, h4.symm⟩
  have hln : ns.length = ln := by obtain ⟨a', c', e', -⟩ := hR; simp at e'; exact e'.2.1.symm
  subst hln
  unfold SmallT at hT
  obtain ⟨n, hn⟩ : ∃ n, Hid (min ns.length its.length = n) := ⟨_, rfl⟩
  obtain ⟨z, hz⟩ : ∃ z, Hid (ns.zip its = z) := ⟨_, rfl⟩
  have hzl : Hid (z.length = n) := by rw [← hz.out, List.length_zip]; exact hn
  obtain ⟨R, hRR⟩ : ∃ R, Hid (parseS (.node k x s ns its) = R) := ⟨_, rfl⟩
  rw [hRR.out]
  have hP : Hid (R = if k ≠ 6 then (60, []) else if 8 < n then (43, []) else foldS z []) := by rw [← hRR.out, ← hn.out, ← hz.out]; exact hid_e rfl
  have hitem : Hid (∀ q, q < n → ∃ T u gn on gi oi k1 x1 s1 an1 ln1 cn1 ai1 li1 ci1, z[q]? = some (T, u) ∧ T.size ≤ 140737488355328 ∧ u.kind = k1 ∧ u.int = x1 ∧ an = some ⟨gn, on, none⟩ ∧ w.cell? ⟨gn, on + q, none⟩ = some (.string T) ∧ a = some ⟨gi, oi, none⟩ ∧ CellsAt w gi (oi + q * 5) (five k1 x1 s1 (.slice an1 ln1 cn1) (.slice ai1 li1 ci1))) := fun q hq => by
    have h1 : q < ns.length := by have := hn.out; omega
    have h2 : q < its.length := by have := hn.out; omega
    obtain ⟨gn, on, e1, c1⟩ := reads_at hR h1
    obtain ⟨gi, oi, e2, -, hL⟩ := hI.resolve_left (by intro e; rw [e] at h2; simp at h2)
    obtain ⟨cs, hcs, hv⟩ := VRepL.at its oi q its[q] hL (List.getElem?_eq_getElem h2)
    obtain ⟨k1, x1, s1, an1, ln1, cn1, ai1, li1, ci1, rfl⟩ := vrep_five hv
    refine ⟨ns[q], its[q], gn, on, gi, oi, k1, x1, s1, an1, ln1, cn1, ai1, li1, ci1, ?_, ?_, (vrep_items hv).1, ?_, e1, c1, e2, hcs⟩
    · rw [← hz.out, List.getElem?_zip_eq_some]
      exact ⟨List.getElem?_eq_getElem h1, List.getElem?_eq_getElem h2⟩
    · have := hT.2.2.1 ns[q] (List.getElem_mem _); omega
    · revert hv
      generalize its[q] = u
      intro hv
      cases u with
      | node k0 x0 s0 ns0 its0 =>
        unfold VRep at hv
        obtain ⟨_, _, _, e, _⟩ := hv
        unfold five at e
        simp at e
        exact e.2.1.symm
  have mem := hid_e (fun W => rmem_any k x s an ns.length cn a its.length c W)
  simp only [hn.out] at mem
  obtain ⟨nl, hnl⟩ : ∃ nl, Hid (ns.length = nl) := ⟨_, rfl⟩
  obtain ⟨il, hil⟩ : ∃ il, Hid (its.length = il) := ⟨_, rfl⟩
  have hnb : Hid (n ≤ nl ∧ n ≤ il) := by rw [← hn.out, ← hnl.out, ← hil.out]; exact hid_e (by omega)
  simp only [hnl.out, hil.out] at mem
  rw [hnl.out, hil.out]
  clear hR hI hT hc hRR
  obtain ⟨i83, hi83, hz0, hz1, hz2⟩ := info_parts key_info
  obtain ⟨X0, hX⟩ : ∃ X0, Hid (w.alloc (.cells #[.int .i64 k, .int .i64 x, .string s, .slice an nl cn, .slice a il c] 25) = X0) := ⟨_, rfl⟩
  have HB : Hid (Below w.heap.size w X0) := by rw [← hX.out]; exact (Below.refl _ w).alloc (Nat.le_refl _) _
  have n0 : Hid (X0.heap[w.heap.size]? = some (.cells #[.int .i64 k, .int .i64 x, .string s, .slice an nl cn, .slice a il c] 25)) := by rw [← hX.out]; exact heap_alloc_new _ _
  obtain ⟨y0, y1, y2, y3, y4, -⟩ := row_cells n0.out
  go_enter Tryz.func18, Tryz.ntmps18
  go_upto_region 1 with fail
  rw [hX.out]
  by_cases h6 : k = 6
  · subst h6
    by_cases h8 : 8 < n
    · have h8' : (8 : Int) < (n : Int) := by omega
      go_wp2_with (go_at_call 41; refine (mem.out _).mono ?_; rintro e X1 ⟨rfl, hb1⟩; replace hb1 := hid_e hb1; clear y0 y1 y2 y3 y4)
      go_ret2
      have e0 : R = (43, []) := by rw [hP.out, if_neg (by simp), if_pos h8]
      rw [e0]
      exact ⟨HB.out.trans (hb1.out.mono HB.out.size), .inr ⟨by decide, rfl⟩⟩
    · have h8' : ¬ (8 : Int) < (n : Int) := by omega
      rw [if_neg (by simp), if_neg h8] at hP
      go_upto_region 6 with (go_at_call 41; refine (mem.out _).mono ?_; rintro e X1 ⟨rfl, hb1⟩; replace hb1 := hid_e hb1; clear y0 y1 y2 y3 y4)
      have n1 := hid_e (block_keep n0.out hb1.out)
      have HB1 := hid_e (HB.out.trans (hb1.out.mono HB.out.size))
      clear n0 HB hb1 hX mem
      have N1 : (n : Int) ≤ 8 := by omega
      have N0 : (0 : Int) ≤ (n : Int) := by omega
      have st0 : Hid (RSt w.heap.size X1 none 0 0 []) := ⟨rfl, [], World.ownsRow_nil _ _ _ _, fun _ _ => rfl⟩
      go_wp2_with fail
      go_loopw [5, 6, 7, 8, 9, 10, 11] (fun lv iv _ _ _ _ _ wr => ∃ (q m co : Nat) (ao : Option Addr) (ts : List Turn), lv = .slice ao m co ∧ iv = .int .i64 q ∧ q ≤ n ∧ m ≤ q ∧ Hid (foldS z [] = foldS (z.drop q) ts) ∧ Hid (RSt w.heap.size wr ao m co ts) ∧ Hid (Below w.heap.size w wr) ∧ Hid (wr.heap[w.heap.size]? = some (.cells #[.int .i64 6, .int .i64 x, .string s, .slice an nl cn, .slice a il c] 25))) (fun _ iv _ _ _ _ _ _ => n - (intOf iv).toNat)
      case atStart => exact ⟨0, 0, 0, none, [], rfl, rfl, Nat.zero_le _, Nat.le_refl _, rfl, st0, HB1, n1⟩
      case round =>
        obtain ⟨q, m, co, ao, ts, rfl, rfl, hq, hmq, hf, hst, hb, hbox⟩ := hrel
        by_cases hlt : q < n
        · have q1 : (q : Int) < (n : Int) := by omega
          have q0 : (0 : Int) ≤ (q : Int) := by omega
          have q3 : (q : Int) < (nl : Int) := by have := hnb.out; omega
          have q4 : (q : Int) < (il : Int) := by have := hnb.out; omega
          obtain ⟨T, u, gn, on, gi, oi, k1, x1, s1, an1, ln1, cn1, ai1, li1, ci1, hzq, hTs, ek, ex, rfl, cT, rfl, hcs⟩ := hitem.out q hlt
          obtain ⟨v0, v1, v2, v3, v4⟩ := cells5 hcs
          have gT := stay hb.out cT
          obtain ⟨y0, y1, y2, y3, y4, -⟩ := row_cells hbox.out
          have hpar := hid_e (rparse_any T hTs wr)
          have hstep := hid_e (fold_step (ts := ts) hzq)
          rw [ek, ex] at hstep
          have hcode := hid_e (parseF_code T (T.size + 1 - 0) 0 [])
          obtain ⟨⟨l, ec, at0⟩, hp⟩ : ∃ p, Hid (parseR T 0 [] = p) := ⟨_, rfl⟩
          rw [show parseF T (T.size + 1 - 0) 0 [] = (l, ec, at0) from hp.out] at hcode
          rw [hp.out] at hpar
          have hadd : Hid (addS ts T k1 x1 = if ec ≠ 0 then ((ec : Int), ts) else if ¬ (k1 = 3 ∧ (x1 = -1 ∨ x1 = 1)) then (60, ts) else if hasP ts l = true then (60, ts) else (0, ts ++ [(l, decide (x1 = -1))])) := by show _ = _; unfold addS; rw [hp.out]
          replace v0 := hid_e v0; replace v1 := hid_e v1; replace v2 := hid_e v2; replace v3 := hid_e v3; replace v4 := hid_e v4
          clear cT hcs hzq ek ex
          go_upto_region 11 with (go_at_call 42; refine hpar.out.mono ?_; rintro e X1p ⟨sl, rfl, hown, hb1⟩; obtain ⟨pa, pc, rfl⟩ := ownsRow_slice hown; replace hown := hid_e hown; replace hb1 := hid_e hb1; clear hpar gT y0 y1 y2 y3 y4)
          have hlo : Hid (w.heap.size < wr.heap.size) := hid_e (Array.getElem?_eq_some_iff.1 hbox.out).1
          have hne : Hid (∀ g, (Value.slice pa l.length pc).ownBlock = some g → (Value.slice ao m co).ownBlock ≠ some g) := fun g hg h => by
            obtain ⟨-, xs, hrow, -⟩ := hst.out
            have h1 := (ownsRow_ge hown.out hg).1
            have h2 := (ownsRow_ge hrow h).2
            omega
          have hb1w := hid_e (hb.out.trans (hb1.out.mono hb.out.size))
          have st1 := hid_e (hst.out.keep hb1.out)
          have box1 := hid_e (block_keep hbox.out hb1.out)
          obtain ⟨lm, hlm⟩ : ∃ lm, Hid (l.length = lm) := ⟨_, rfl⟩
          simp only [hlm.out]
          have w0 := stay hb1w.out v0.out; have w1 := stay hb1w.out v1.out; have w2 := stay hb1w.out v2.out; have w3 := stay hb1w.out v3.out; have w4 := stay hb1w.out v4.out
          obtain ⟨b0, b1, b2, b3, b4, -⟩ := row_cells box1.out
          clear v0 v1 v2 v3 v4 hst hbox
          by_cases he : ec = 0
          · subst he
            rw [if_neg (by simp)] at hadd
            obtain ⟨X2, hX2⟩ : ∃ X2, Hid (X1p.alloc (.cells #[.int .i64 k1, .int .i64 x1, .string s1, .slice an1 ln1 cn1, .slice ai1 li1 ci1] 25) = X2) := ⟨_, rfl⟩
            obtain ⟨bx, hbx⟩ : ∃ bx, Hid (X1p.heap.size = bx) := ⟨_, rfl⟩
            have B12 : Hid (Below X1p.heap.size X1p X2) := by rw [← hX2.out]; exact (Below.refl _ X1p).alloc (Nat.le_refl _) _
            have nx2 : Hid (X2.heap[bx]? = some (.cells #[.int .i64 k1, .int .i64 x1, .string s1, .slice an1 ln1 cn1, .slice ai1 li1 ci1] 25)) := by rw [← hX2.out, ← hbx.out]; exact heap_alloc_new X1p _
            go_upto_region 14 with fail
            rw [hX2.out, hbx.out]
            have st2 := hid_e (st1.out.keep B12.out)
            have box2 := hid_e (block_keep box1.out B12.out)
            have own2 := hid_e (ownsRow_below hown.out B12.out)
            have hb2w := hid_e (hb1w.out.trans (B12.out.mono hb1w.out.size))
            clear w0 w1 w2 w3 w4 b0 b1 b2 b3 b4 st1 box1 hown hb1w hb1 B12 hX2 hbx
            by_cases h3 : k1 = 3
            · subst h3
              by_cases hm1 : x1 = -1
              · subst hm1
                rw [if_neg (by simp)] at hadd
                obtain ⟨z0, z1, z2, z3, z4, -⟩ := row_cells nx2.out
                go_upto_region 16 with fail
                clear z0 z1 z2 z3 z4
                obtain ⟨hml, xs, hrow, hK⟩ := st2.out
                have hml := hid_e hml
                have hrow := hid_e hrow
                have hK := hid_e hK
                have keys2 := hid_e st2.out.keys
                have read2 := hid_e (own_reads' (S := fun _ => True) own2.out (fun _ _ => trivial) (Agree.of_below (Below.refl _ _)))
                have m0 : (0 : Int) ≤ (m : Int) := by omega
                have m8 : (m : Int) ≤ 8 := by omega
                go_wp2_with fail
                go_loopw [11] (fun kv wr => ∃ p : Nat, kv = .int .i64 p ∧ p ≤ m ∧ Hid (hasP (ts.take p) l = false) ∧ Hid (Below X2.heap.size X2 wr)) (fun kv _ => m - (intOf kv).toNat)
                case atStart => exact ⟨0, rfl, Nat.zero_le _, rfl, Below.refl _ _⟩
                case round =>
                  obtain ⟨p, rfl, hpm, hno, hbi⟩ := hrel
                  have hbiw := hid_e (hb2w.out.trans (hbi.out.mono hb2w.out.size))
                  by_cases hpl : p < m
                  · have p1 : (p : Int) < (m : Int) := by omega
                    have p0 : (0 : Int) ≤ (p : Int) := by omega
                    obtain ⟨⟨A, fl⟩, hu⟩ : ∃ u, Hid (ts[p]? = some u) := ⟨ts[p]'(by rw [hml.out]; omega), List.getElem?_eq_getElem (by rw [hml.out]; omega)⟩
                    obtain ⟨g, o, ka, kc, ea, c0, c1, hr⟩ := keys2.out p A fl hu.out
                    subst ea
                    have x0 := stay hbi.out c0
                    have call := hid_e (texts_any ka kc pa pc A l wr (hr.keep hbi.out) (read2.out.keep hbi.out))
                    have hstp : Hid (hasP (ts.take (p + 1)) l = decide (A = l)) := by
                      show _ = _
                      have h := hno.out
                      unfold hasP at h ⊢
                      rw [List.take_add_one, hu.out, List.any_append, h]
                      simp
                    have hall : Hid (decide (A = l) = true → hasP ts l = true) := by
                      intro h
                      unfold hasP
                      exact List.any_eq_true.2 ⟨(A, fl), List.mem_of_getElem? hu.out, h⟩
                    obtain ⟨am, ham⟩ : ∃ am, Hid (A.length = am) := ⟨_, rfl⟩
                    obtain ⟨Z, hZ⟩ : ∃ Z, Hid (decide (A = l) = Z) := ⟨_, rfl⟩
                    rw [hZ.out] at call hstp hall
                    rw [ham.out, hlm.out] at call
                    rw [ham.out] at x0
                    clear c0 c1 hr hZ
                    cases Z with
                    | true =>
                      have e0 : Hid (R = (60, [])) := by
                        have hA : addS ts T 3 (-1) = (60, ts) := by rw [hadd.out, if_pos (hall.out (by trivial))]
                        have h := hstep.out
                        rw [hA] at h
                        rw [hP.out, hf.out, h]; exact hid_e (if_neg (show ¬ (60 : Int) = 0 by decide))
                      go_wp2_with (go_at_call 43; refine call.out.mono ?_; rintro e w6 ⟨rfl, hb6⟩; replace hb6 := hid_e hb6; clear call x0)
                      go_ret2
                      rw [e0.out]
                      exact ⟨hbiw.out.trans (hb6.out.mono hbiw.out.size), .inr ⟨by decide, rfl⟩⟩
                    | false =>
                      go_wp2_with (go_at_call 43; refine call.out.mono ?_; rintro e w6 ⟨rfl, hb6⟩; replace hb6 := hid_e hb6; clear call x0)
                      exact ⟨⟨p + 1, by go_num, by omega, hstp, hbi.out.trans (hb6.out.mono hbi.out.size)⟩, by simp [intOf]; omega⟩
                  · obtain rfl : p = m := by omega
                    have p1 : ¬ (p : Int) < (p : Int) := by omega
                    rw [List.take_of_length_le (by rw [hml.out]; omega)] at hno
                    obtain ⟨z0, z1, z2, z3, z4, -⟩ := row_cells (block_keep nx2.out hbi.out)
                    have rowW := hid_e ((ownsRow_below hrow.out hbi.out).alloc (.cells #[.slice pa lm pc, .int .i64 (-1)] 83))
                    have hWB : Hid (Below X2.heap.size X2 (wr.alloc (.cells #[.slice pa lm pc, .int .i64 (-1)] 83))) := hbi.out.alloc hbi.out.size _
                    have hWw : Hid (Below w.heap.size w (wr.alloc (.cells #[.slice pa lm pc, .int .i64 (-1)] 83))) := hbiw.out.alloc hbiw.out.size _
                    have hnews : Hid (∀ j u, ([.slice pa lm pc, .int .i64 (-1)] : List Value)[j]? = some u → (wr.alloc (.cells #[.slice pa lm pc, .int .i64 (-1)] 83)).cell? ((⟨wr.heap.size, 0, none⟩ : Addr).add j) = some u) := World.news_of_block (heap_alloc_new wr _)
                    have hboxW := hid_e (block_keep box2.out hWB.out)
                    have hbase : Hid (w.heap.size + 1 ≤ (wr.alloc (.cells #[.slice pa lm pc, .int .i64 (-1)] 83)).heap.size) := hid_e (Array.getElem?_eq_some_iff.1 hboxW.out).1
                    have hfin : Hid (∀ g4 c4 w4', w4'.ownsRow (w.heap.size + 1) 83 2 (.slice (some ⟨g4, 0, none⟩) (p + 1) c4) (p + 1) (xs ++ [.slice pa lm pc, .int .i64 (-1)]) → (wr.alloc (.cells #[.slice pa lm pc, .int .i64 (-1)] 83)).grownBy w4' (Value.slice ao p co).ownBlock → ((Value.slice ao p co).ownBlock = some g4 ∨ g4 = (wr.alloc (.cells #[.slice pa lm pc, .int .i64 (-1)] 83)).heap.size) → RSt w.heap.size w4' (some ⟨g4, 0, none⟩) (p + 1) c4 (ts ++ [(l, true)]) ∧ Below w.heap.size w w4' ∧ w4'.heap[w.heap.size]? = some (.cells #[.int .i64 6, .int .i64 x, .string s, .slice (some ⟨gn, on, none⟩) nl cn, .slice (some ⟨gi, oi, none⟩) il c] 25)) := fun g4 c4 w4' h1 h2 h3 => by
                      have hl' := hlm.out
                      subst hl'
                      refine ⟨rst_snoc (X := wr.alloc (.cells #[.slice pa l.length pc, .int .i64 (-1)] 83)) hml.out (fun W' hW' => hK.out W' ⟨Nat.le_trans hWB.out.size hW'.1, fun p u hp hc => hW'.2 p u hp (stay hWB.out hc)⟩) (ownsRow_below own2.out hWB.out) hlo.out hne.out h2 h1 h3, hWw.out.trans (grown_below h2 (by have := hbase.out; omega) (fun j hj => by have := (ownsRow_ge rowW.out hj).1; omega)), ?_⟩
                      exact (h2.block w.heap.size (by have := hbase.out; omega) (fun e => by have := (ownsRow_ge rowW.out e.symm).1; omega)).trans hboxW.out
                    have hf' : Hid (foldS z [] = foldS (z.drop (q + 1)) (ts ++ [(l, true)])) := by
                      have hA : addS ts T 3 (-1) = (0, ts ++ [(l, true)]) := by rw [hadd.out, if_neg (by rw [hno.out]; simp)]; rfl
                      have h := hstep.out
                      rw [hA] at h
                      exact hf.out.trans (h.trans (if_pos rfl))
                    clear hstep hadd keys2 read2
                    go_wp2_with (at_builtin; refine wpList_append_lies _ rfl _ _ 42 rfl (w.heap.size + 1) 83 i83 _ 2 32 Tryz.underlying42 hi83 hz0 hz1 hz2 rfl (by decide) (.slice ao p co) p xs rfl rowW.out _ 1 1 [.slice pa lm pc, .int .i64 (-1)] rfl rfl hnews.out (by simp [Value.oneCell']) (by decide) (by unfold maxLen; omega) (by omega) hbase.out _ rfl ?_; intro g4 c4 w4 hown4 hgrow4 hat4 hlt4; have fin4 := hid_e (hfin.out g4 c4 w4 hown4 hgrow4 hat4); clear hown4 hgrow4 hat4 hlt4)
                    exact ⟨⟨q + 1, p + 1, c4, _, _, rfl, by go_num, by omega, by omega, hf', fin4.out.1, fin4.out.2.1, fin4.out.2.2⟩, by simp [intOf]; omega⟩
              · by_cases h1 : x1 = 1
                · subst h1
                  rw [if_neg (by simp)] at hadd
                  obtain ⟨z0, z1, z2, z3, z4, -⟩ := row_cells nx2.out
                  go_upto_region 16 with fail
                  clear z0 z1 z2 z3 z4
                  obtain ⟨hml, xs, hrow, hK⟩ := st2.out
                  have hml := hid_e hml
                  have hrow := hid_e hrow
                  have hK := hid_e hK
                  have keys2 := hid_e st2.out.keys
                  have read2 := hid_e (own_reads' (S := fun _ => True) own2.out (fun _ _ => trivial) (Agree.of_below (Below.refl _ _)))
                  have m0 : (0 : Int) ≤ (m : Int) := by omega
                  have m8 : (m : Int) ≤ 8 := by omega
                  go_wp2_with fail
                  go_loopw [11] (fun kv wr => ∃ p : Nat, kv = .int .i64 p ∧ p ≤ m ∧ Hid (hasP (ts.take p) l = false) ∧ Hid (Below X2.heap.size X2 wr)) (fun kv _ => m - (intOf kv).toNat)
                  case atStart => exact ⟨0, rfl, Nat.zero_le _, rfl, Below.refl _ _⟩
                  case round =>
                    obtain ⟨p, rfl, hpm, hno, hbi⟩ := hrel
                    have hbiw := hid_e (hb2w.out.trans (hbi.out.mono hb2w.out.size))
                    by_cases hpl : p < m
                    · have p1 : (p : Int) < (m : Int) := by omega
                      have p0 : (0 : Int) ≤ (p : Int) := by omega
                      obtain ⟨⟨A, fl⟩, hu⟩ : ∃ u, Hid (ts[p]? = some u) := ⟨ts[p]'(by rw [hml.out]; omega), List.getElem?_eq_getElem (by rw [hml.out]; omega)⟩
                      obtain ⟨g, o, ka, kc, ea, c0, c1, hr⟩ := keys2.out p A fl hu.out
                      subst ea
                      have x0 := stay hbi.out c0
                      have call := hid_e (texts_any ka kc pa pc A l wr (hr.keep hbi.out) (read2.out.keep hbi.out))
                      have hstp : Hid (hasP (ts.take (p + 1)) l = decide (A = l)) := by
                        show _ = _
                        have h := hno.out
                        unfold hasP at h ⊢
                        rw [List.take_add_one, hu.out, List.any_append, h]
                        simp
                      have hall : Hid (decide (A = l) = true → hasP ts l = true) := by
                        intro h
                        unfold hasP
                        exact List.any_eq_true.2 ⟨(A, fl), List.mem_of_getElem? hu.out, h⟩
                      obtain ⟨am, ham⟩ : ∃ am, Hid (A.length = am) := ⟨_, rfl⟩
                      obtain ⟨Z, hZ⟩ : ∃ Z, Hid (decide (A = l) = Z) := ⟨_, rfl⟩
                      rw [hZ.out] at call hstp hall
                      rw [ham.out, hlm.out] at call
                      rw [ham.out] at x0
                      clear c0 c1 hr hZ
                      cases Z with
                      | true =>
                        have e0 : Hid (R = (60, [])) := by
                          have hA : addS ts T 3 1 = (60, ts) := by rw [hadd.out, if_pos (hall.out (by trivial))]
                          have h := hstep.out
                          rw [hA] at h
                          rw [hP.out, hf.out, h]; exact hid_e (if_neg (show ¬ (60 : Int) = 0 by decide))
                        go_wp2_with (go_at_call 43; refine call.out.mono ?_; rintro e w6 ⟨rfl, hb6⟩; replace hb6 := hid_e hb6; clear call x0)
                        go_ret2
                        rw [e0.out]
                        exact ⟨hbiw.out.trans (hb6.out.mono hbiw.out.size), .inr ⟨by decide, rfl⟩⟩
                      | false =>
                        go_wp2_with (go_at_call 43; refine call.out.mono ?_; rintro e w6 ⟨rfl, hb6⟩; replace hb6 := hid_e hb6; clear call x0)
                        exact ⟨⟨p + 1, by go_num, by omega, hstp, hbi.out.trans (hb6.out.mono hbi.out.size)⟩, by simp [intOf]; omega⟩
                    · obtain rfl : p = m := by omega
                      have p1 : ¬ (p : Int) < (p : Int) := by omega
                      rw [List.take_of_length_le (by rw [hml.out]; omega)] at hno
                      obtain ⟨z0, z1, z2, z3, z4, -⟩ := row_cells (block_keep nx2.out hbi.out)
                      have rowW := hid_e ((ownsRow_below hrow.out hbi.out).alloc (.cells #[.slice pa lm pc, .int .i64 (1)] 83))
                      have hWB : Hid (Below X2.heap.size X2 (wr.alloc (.cells #[.slice pa lm pc, .int .i64 (1)] 83))) := hbi.out.alloc hbi.out.size _
                      have hWw : Hid (Below w.heap.size w (wr.alloc (.cells #[.slice pa lm pc, .int .i64 (1)] 83))) := hbiw.out.alloc hbiw.out.size _
                      have hnews : Hid (∀ j u, ([.slice pa lm pc, .int .i64 (1)] : List Value)[j]? = some u → (wr.alloc (.cells #[.slice pa lm pc, .int .i64 (1)] 83)).cell? ((⟨wr.heap.size, 0, none⟩ : Addr).add j) = some u) := World.news_of_block (heap_alloc_new wr _)
                      have hboxW := hid_e (block_keep box2.out hWB.out)
                      have hbase : Hid (w.heap.size + 1 ≤ (wr.alloc (.cells #[.slice pa lm pc, .int .i64 (1)] 83)).heap.size) := hid_e (Array.getElem?_eq_some_iff.1 hboxW.out).1
                      have hfin : Hid (∀ g4 c4 w4', w4'.ownsRow (w.heap.size + 1) 83 2 (.slice (some ⟨g4, 0, none⟩) (p + 1) c4) (p + 1) (xs ++ [.slice pa lm pc, .int .i64 (1)]) → (wr.alloc (.cells #[.slice pa lm pc, .int .i64 (1)] 83)).grownBy w4' (Value.slice ao p co).ownBlock → ((Value.slice ao p co).ownBlock = some g4 ∨ g4 = (wr.alloc (.cells #[.slice pa lm pc, .int .i64 (1)] 83)).heap.size) → RSt w.heap.size w4' (some ⟨g4, 0, none⟩) (p + 1) c4 (ts ++ [(l, false)]) ∧ Below w.heap.size w w4' ∧ w4'.heap[w.heap.size]? = some (.cells #[.int .i64 6, .int .i64 x, .string s, .slice (some ⟨gn, on, none⟩) nl cn, .slice (some ⟨gi, oi, none⟩) il c] 25)) := fun g4 c4 w4' h1 h2 h3 => by
                        have hl' := hlm.out
                        subst hl'
                        refine ⟨rst_snoc (X := wr.alloc (.cells #[.slice pa l.length pc, .int .i64 (1)] 83)) hml.out (fun W' hW' => hK.out W' ⟨Nat.le_trans hWB.out.size hW'.1, fun p u hp hc => hW'.2 p u hp (stay hWB.out hc)⟩) (ownsRow_below own2.out hWB.out) hlo.out hne.out h2 h1 h3, hWw.out.trans (grown_below h2 (by have := hbase.out; omega) (fun j hj => by have := (ownsRow_ge rowW.out hj).1; omega)), ?_⟩
                        exact (h2.block w.heap.size (by have := hbase.out; omega) (fun e => by have := (ownsRow_ge rowW.out e.symm).1; omega)).trans hboxW.out
                      have hf' : Hid (foldS z [] = foldS (z.drop (q + 1)) (ts ++ [(l, false)])) := by
                        have hA : addS ts T 3 1 = (0, ts ++ [(l, false)]) := by rw [hadd.out, if_neg (by rw [hno.out]; simp)]; rfl
                        have h := hstep.out
                        rw [hA] at h
                        exact hf.out.trans (h.trans (if_pos rfl))
                      clear hstep hadd keys2 read2
                      go_wp2_with (at_builtin; refine wpList_append_lies _ rfl _ _ 42 rfl (w.heap.size + 1) 83 i83 _ 2 32 Tryz.underlying42 hi83 hz0 hz1 hz2 rfl (by decide) (.slice ao p co) p xs rfl rowW.out _ 1 1 [.slice pa lm pc, .int .i64 (1)] rfl rfl hnews.out (by simp [Value.oneCell']) (by decide) (by unfold maxLen; omega) (by omega) hbase.out _ rfl ?_; intro g4 c4 w4 hown4 hgrow4 hat4 hlt4; have fin4 := hid_e (hfin.out g4 c4 w4 hown4 hgrow4 hat4); clear hown4 hgrow4 hat4 hlt4)
                      exact ⟨⟨q + 1, p + 1, c4, _, _, rfl, by go_num, by omega, by omega, hf', fin4.out.1, fin4.out.2.1, fin4.out.2.2⟩, by simp [intOf]; omega⟩
                · have e0 : Hid (R = (60, [])) := by
                    have hA : addS ts T 3 x1 = (60, ts) := by rw [hadd.out, if_pos (fun h => h.2.elim hm1 h1)]
                    have h := hstep.out
                    rw [hA] at h
                    rw [hP.out, hf.out, h]; exact hid_e (if_neg (show ¬ (60 : Int) = 0 by decide))
                  obtain ⟨z0, z1, z2, z3, z4, -⟩ := row_cells nx2.out
                  have h1' : (x1 != 1) = true := by simpa using h1
                  have hm1' : (x1 != -1) = true := by simpa using hm1
                  clear hadd hstep
                  go_wp2_with fail
                  go_ret2
                  rw [e0.out]
                  exact ⟨hb2w.out, .inr ⟨by decide, rfl⟩⟩
            · have e0 : Hid (R = (60, [])) := by
                have hA : addS ts T k1 x1 = (60, ts) := by rw [hadd.out, if_pos (fun h => h3 h.1)]
                have h := hstep.out
                rw [hA] at h
                rw [hP.out, hf.out, h]; exact hid_e (if_neg (show ¬ (60 : Int) = 0 by decide))
              obtain ⟨z0, z1, z2, z3, z4, -⟩ := row_cells nx2.out
              clear hadd hstep
              go_wp2_with fail
              go_ret2
              rw [e0.out]
              exact ⟨hb2w.out, .inr ⟨by decide, rfl⟩⟩
          · obtain rfl : ec = 20 := hcode.out.resolve_left he
            have e0 : Hid (R = (20, [])) := by
              have hA : addS ts T k1 x1 = (20, ts) := by rw [hadd.out, if_pos (by simp)]; rfl
              have h := hstep.out
              rw [hA] at h
              rw [hP.out, hf.out, h]; exact hid_e (if_neg (show ¬ (20 : Int) = 0 by decide))
            clear hadd hstep w0 w1 w2 w3 w4 b0 b1 b2 b3 b4
            go_wp2_with fail
            go_ret2
            rw [e0.out]
            exact ⟨hb1w.out, .inr ⟨by decide, rfl⟩⟩
        · obtain rfl : q = n := by omega
          have q1 : ¬ (q : Int) < (q : Int) := by omega
          have e0 : Hid (R = (0, ts)) := by rw [hP.out, hf.out, List.drop_eq_nil_of_le (by rw [hzl.out]; exact Nat.le_refl _)]; exact hid_e rfl
          clear hf hbox
          go_wp2_with fail
          go_ret2
          rw [e0.out]
          exact ⟨hb.out, .inl ⟨rfl, ao, co, by show _ = Ending.returned (.tuple #[.slice ao ts.length co, _]); rw [hst.out.1]; rfl, hst.out.keys⟩⟩
  · go_wp2_with fail
    go_ret2
    have e0 : R = (60, []) := by rw [hP.out, if_pos h6]
    rw [e0]
    exact ⟨HB.out, .inr ⟨by decide, rfl⟩⟩

end Go.Proofs.YtgigikcopedoeaaGreat.Tree
