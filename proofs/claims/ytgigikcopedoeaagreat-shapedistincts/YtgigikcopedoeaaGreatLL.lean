import Derived.Test.YtgigikcopedoeaaGreatLK
/-! ParseSort of every Value. -/
namespace Go.Proofs.YtgigikcopedoeaaGreat.Tree
open Go Go.RowKit

def foldS : List (ByteArray × Tr) → List Turn → Int × List Turn
  | [], ts => (0, ts)
  | (T, u) :: r, ts => if (addS ts T u.kind u.int).1 = 0 then foldS r (addS ts T u.kind u.int).2 else ((addS ts T u.kind u.int).1, [])
def parseS (t : Tr) : Int × List Turn :=
  if t.kind ≠ 6 then (60, []) else if 8 < min t.names.length t.items.length then (43, []) else foldS (t.names.zip t.items) []
def PSPost (w : World) (r : Int × List Turn) (e : Ending) (w' : World) : Prop := Below w.heap.size w w' ∧ ((r.1 = 0 ∧ ∃ sb, e = .returned (.tuple #[.pointer (some ⟨sb, 0, none⟩), .int .i64 0]) ∧ SortSt w' sb r.2) ∨ (r.1 ≠ 0 ∧ e = .returned (.tuple #[.pointer none, .int .i64 r.1])))
theorem fold_step {z : List (ByteArray × Tr)} {q : Nat} {T : ByteArray} {u : Tr} {ts : List Turn} (h : z[q]? = some (T, u)) : foldS (z.drop q) ts = if (addS ts T u.kind u.int).1 = 0 then foldS (z.drop (q + 1)) (addS ts T u.kind u.int).2 else ((addS ts T u.kind u.int).1, []) := by
  obtain ⟨hlt, e⟩ := List.getElem?_eq_some_iff.1 h
  rw [List.drop_eq_getElem_cons hlt, e, foldS]
theorem addS_len (ts : List Turn) (T : ByteArray) (k x : Int) : (addS ts T k x).2.length ≤ ts.length + 1 := by
  unfold addS
  split
  · simp
  · split
    · simp
    · split <;> simp
theorem sort_new {w : World} {sb : Nat} (h : w.heap[sb]? = some (.cells #[.slice none 0 0] 69 (0, 0))) : SortSt w sb [] := ⟨none, 0, [], h, World.ownsRow_nil _ _ _ _, fun _ _ => rfl⟩
theorem stayB {B : Nat} {w w' : World} (h : Below B w w') {p : Addr} {v : Value} (hp : p.block < B) (hc : w.cell? p = some v) : w'.cell? p = some v := (World.cell?_of_block (h.block _ hp)).trans hc
set_option maxHeartbeats 2000000 in
set_option maxRecDepth 100000 in
theorem psort_any (x : Int) (s : ByteArray) (ns : List ByteArray) (its : List Tr) (k : Int) (an : Option Addr) (ln cn : Nat) (ai : Option Addr) (li ci : Nat) (w : World) (hV : VRep w (.node k x s ns its) (five k x s (.slice an ln cn) (.slice ai li ci))) (hT : SmallT (.node k x s ns its)) :
    Calls Tryz.prog 17 #[.agg #[.int .i64 k, .int .i64 x, .string s, .slice an ln cn, .slice ai li ci]] w (PSPost w (parseS (.node k x s ns its))) := by
  unfold VRep at hV
  obtain ⟨nm, a, c, e, hR, hc, hI⟩ := hV
  unfold five at e
  obtain ⟨rfl, rfl, rfl, rfl⟩ : nm = .slice an ln cn ∧ a = ai ∧ its.length = li ∧ c = ci := by simp at e; obtain ⟨h1, h2, h3, h4⟩ := e; exact ⟨h1.symm, h2.symm, h3.symm, h4.symm⟩
  have hln : ns.length = ln := by obtain ⟨a', c', e', -⟩ := hR; simp at e'; exact e'.2.1.symm
  subst hln
  unfold SmallT at hT
  obtain ⟨n, hn⟩ : ∃ n, Hid (min ns.length its.length = n) := ⟨_, rfl⟩
  obtain ⟨z, hz⟩ : ∃ z, Hid (ns.zip its = z) := ⟨_, rfl⟩
  have hzl : Hid (z.length = n) := by rw [← hz.out, List.length_zip]; exact hn
  obtain ⟨R, hRR⟩ : ∃ R, Hid (parseS (.node k x s ns its) = R) := ⟨_, rfl⟩
  rw [hRR.out]
  have hP : Hid (R = if k ≠ 6 then (60, []) else if 8 < n then (43, []) else foldS z []) := by rw [← hRR.out, ← hn.out, ← hz.out]; exact hid_e rfl
  have hitem : Hid (∀ q, q < n → ∃ T u gn on gi oi k1 x1 s1 an1 ln1 cn1 ai1 li1 ci1, z[q]? = some (T, u) ∧ T.size ≤ 140737488355328 ∧ u.kind = k1 ∧ u.int = x1 ∧ an = some ⟨gn, on, none⟩ ∧ w.cell? ⟨gn, on + q, none⟩ = some (.string T) ∧ a = some ⟨gi, oi, none⟩ ∧ CellsAt w gi (oi + q * 5) (five k1 x1 s1 (.slice an1 ln1 cn1) (.slice ai1 li1 ci1))) := fun q hq => by
    have h1 : q < ns.length := by have := hn.out; omega
    have h2 : q < its.length := by have := hn.out; omega
    obtain ⟨gn, on, e1, c1⟩ := reads_at hR h1
    obtain ⟨gi, oi, e2, -, hL⟩ := hI.resolve_left (by intro e; rw [e] at h2; simp at h2)
    obtain ⟨cs, hcs, hv⟩ := VRepL.at its oi q its[q] hL (List.getElem?_eq_getElem h2)
    obtain ⟨k1, x1, s1, an1, ln1, cn1, ai1, li1, ci1, rfl⟩ := vrep_five hv
    refine ⟨ns[q], its[q], gn, on, gi, oi, k1, x1, s1, an1, ln1, cn1, ai1, li1, ci1, ?_, ?_, (vrep_items hv).1, ?_, e1, c1, e2, hcs⟩
    · rw [← hz.out, List.getElem?_zip_eq_some]
      exact ⟨List.getElem?_eq_getElem h1, List.getElem?_eq_getElem h2⟩
    · have := hT.2.2.1 ns[q] (List.getElem_mem _); omega
    · revert hv
      generalize its[q] = u
      intro hv
      cases u with
      | node k0 x0 s0 ns0 its0 =>
        unfold VRep at hv
        obtain ⟨_, _, _, e, _⟩ := hv
        unfold five at e
        simp at e
        exact e.2.1.symm
  have mem := hid_e (fun W => mem_any k x s an ns.length cn a its.length c W)
  simp only [hn.out] at mem
  obtain ⟨nl, hnl⟩ : ∃ nl, Hid (ns.length = nl) := ⟨_, rfl⟩
  obtain ⟨il, hil⟩ : ∃ il, Hid (its.length = il) := ⟨_, rfl⟩
  have hnb : Hid (n ≤ nl ∧ n ≤ il) := by rw [← hn.out, ← hnl.out, ← hil.out]; exact hid_e (by omega)
  simp only [hnl.out, hil.out] at mem
  rw [hnl.out, hil.out]
  clear hR hI hT hc hRR
  obtain ⟨X0, hX⟩ : ∃ X0, Hid (w.alloc (.cells #[.int .i64 k, .int .i64 x, .string s, .slice an nl cn, .slice a il c] 25) = X0) := ⟨_, rfl⟩
  have HB : Hid (Below w.heap.size w X0) := by rw [← hX.out]; exact (Below.refl _ w).alloc (Nat.le_refl _) _
  have n0 : Hid (X0.heap[w.heap.size]? = some (.cells #[.int .i64 k, .int .i64 x, .string s, .slice an nl cn, .slice a il c] 25)) := by rw [← hX.out]; exact heap_alloc_new _ _
  obtain ⟨y0, y1, y2, y3, y4, -⟩ := row_cells n0.out
  go_enter Tryz.func17, Tryz.ntmps17
  go_upto_region 1 with fail
  rw [hX.out]
  by_cases h6 : k = 6
  · subst h6
    by_cases h8 : 8 < n
    · have h8' : (8 : Int) < (n : Int) := by omega
      go_wp2_with (go_at_call 39; refine (mem.out _).mono ?_; rintro e X1 ⟨rfl, hb1⟩; replace hb1 := hid_e hb1; clear y0 y1 y2 y3 y4)
      go_ret2
      have e0 : R = (43, []) := by rw [hP.out, if_neg (by simp), if_pos h8]
      rw [e0]
      exact ⟨HB.out.trans (hb1.out.mono HB.out.size), .inr ⟨by decide, rfl⟩⟩
    · have h8' : ¬ (8 : Int) < (n : Int) := by omega
      rw [if_neg (by simp), if_neg h8] at hP
      go_upto_region 5 with (go_at_call 39; refine (mem.out _).mono ?_; rintro e X1 ⟨rfl, hb1⟩; replace hb1 := hid_e hb1; clear y0 y1 y2 y3 y4)
      have n1 := hid_e (block_keep n0.out hb1.out)
      have HB1 := hid_e (HB.out.trans (hb1.out.mono HB.out.size))
      have hlo1 : Hid (w.heap.size < X1.heap.size) := hid_e (Array.getElem?_eq_some_iff.1 n1.out).1
      clear n0 HB hb1 hX
      go_upto_region 6 with fail
      obtain ⟨sb, hsb⟩ : ∃ sb, Hid (X1.heap.size = sb) := ⟨_, rfl⟩
      obtain ⟨X2, hX2⟩ : ∃ X2, Hid (X1.alloc (.cells #[.slice none 0 0] 69) = X2) := ⟨_, rfl⟩
      have B12 : Hid (Below X1.heap.size X1 X2) := by rw [← hX2.out]; exact (Below.refl _ X1).alloc (Nat.le_refl _) _
      have st2 : Hid (X2.heap[sb]? = some (.cells #[.slice none 0 0] 69 (0, 0))) := by rw [← hX2.out, ← hsb.out]; exact heap_alloc_new X1 _
      rw [hX2.out, hsb.out]
      rw [hsb.out] at hlo1
      have n2 := hid_e (block_keep n1.out B12.out)
      have HB2 := hid_e (HB1.out.trans (B12.out.mono HB1.out.size))
      obtain ⟨y0, y1, y2, y3, y4, -⟩ := row_cells n2.out
      clear n1 HB1 hX2 hsb B12
      go_upto_region 7 with (go_at_call 39; refine (mem.out _).mono ?_; rintro e X3 ⟨rfl, hb3⟩; replace hb3 := hid_e hb3; clear y0 y1 y2 y3 y4)
      have st3 := hid_e (sort_new (block_keep st2.out hb3.out))
      have n3 := hid_e (block_keep n2.out hb3.out)
      have HB3 := hid_e (HB2.out.trans (hb3.out.mono HB2.out.size))
      clear st2 n2 HB2 hb3 mem
      have N1 : (n : Int) ≤ 8 := by omega
      have N0 : (0 : Int) ≤ (n : Int) := by omega
      go_wp2_with fail
      go_loopw [5, 6, 17] (fun _ _ iv wr => ∃ (q : Nat) (ts : List Turn), iv = .int .i64 q ∧ q ≤ n ∧ Hid (ts.length ≤ q) ∧ Hid (foldS z [] = foldS (z.drop q) ts) ∧ Hid (SortSt wr sb ts) ∧ Hid (Below w.heap.size w wr) ∧ Hid (wr.heap[w.heap.size]? = some (.cells #[.int .i64 6, .int .i64 x, .string s, .slice an nl cn, .slice a il c] 25))) (fun _ _ iv _ => n - (intOf iv).toNat)
      case atStart => exact ⟨0, [], rfl, Nat.zero_le _, Nat.zero_le _, rfl, st3, HB3, n3⟩
      case round =>
        obtain ⟨q, ts, rfl, hq, htl, hf, hst, hb, hbox⟩ := hrel
        by_cases hlt : q < n
        · have q1 : (q : Int) < (n : Int) := by omega
          have q0 : (0 : Int) ≤ (q : Int) := by omega
          have q3 : (q : Int) < (nl : Int) := by have := hnb.out; omega
          have q4 : (q : Int) < (il : Int) := by have := hnb.out; omega
          obtain ⟨T, u, gn, on, gi, oi, k1, x1, s1, an1, ln1, cn1, ai1, li1, ci1, hzq, hTs, rfl, rfl, rfl, cT, rfl, hcs⟩ := hitem.out q hlt
          obtain ⟨v0, v1, v2, v3, v4⟩ := cells5 hcs
          have gT := stay hb.out cT
          have w0 := stay hb.out v0
          have w1 := stay hb.out v1
          have w2 := stay hb.out v2
          have w3 := stay hb.out v3
          have w4 := stay hb.out v4
          obtain ⟨y0, y1, y2, y3, y4, -⟩ := row_cells hbox.out
          have hadd := hid_e (add_any sb T u.kind u.int s1 an1 ln1 cn1 ai1 li1 ci1 ts wr.drew (hst.out.keep (below_drew (Below.refl _ _))) (by have := htl.out; omega) hTs)
          have hstep := hid_e (fold_step (ts := ts) hzq)
          obtain ⟨⟨er, ts2⟩, hA⟩ : ∃ A, Hid (addS ts T u.kind u.int = A) := ⟨_, rfl⟩
          rw [hA.out] at hadd hstep
          have hal := hid_e (addS_len ts T u.kind u.int)
          rw [hA.out] at hal
          obtain ⟨kk, hkk⟩ : ∃ kk, Hid (u.kind = kk) := ⟨_, rfl⟩
          obtain ⟨xx, hxx⟩ : ∃ xx, Hid (u.int = xx) := ⟨_, rfl⟩
          rw [hkk.out] at w0
          rw [hxx.out] at w1
          rw [hkk.out, hxx.out] at hadd
          clear cT hcs v0 v1 v2 v3 v4 hzq
          go_upto_region 9 with fail
          go_region_with (go_at_call 40; refine hadd.out.mono ?_; rintro e X5 ⟨rfl, hs5, hb5⟩; replace hs5 := hid_e hs5; replace hb5 := hid_e hb5; clear hadd w0 w1 w2 w3 w4 gT y0 y1 y2 y3 y4)
          all_goals
            have hbB := hid_e (hb.out.trans ((below_drew (Below.refl _ wr)).trans (hb5.out.mono (Nat.le_of_lt hlo1.out))))
            by_cases her : er = 0
            · subst her
              have hf' : Hid (foldS z [] = foldS (z.drop (q + 1)) ts2) := by have h := hstep.out; rw [if_pos rfl] at h; exact hf.out.trans h
              have hs' := hid_e (hs5.out rfl)
              have hbox' : Hid (X5.heap[w.heap.size]? = some (.cells #[.int .i64 6, .int .i64 x, .string s, .slice (some ⟨gn, on, none⟩) nl cn, .slice (some ⟨gi, oi, none⟩) il c] 25)) := (hb5.out.block w.heap.size hlo1.out).trans hbox.out
              have hal' : Hid (ts2.length ≤ q + 1) := hid_e (by have h1 : ts2.length ≤ ts.length + 1 := hal.out; have := htl.out; omega)
              clear hstep hs5 hb5 hal hbox hf hst
              go_wp2_with fail
              exact ⟨⟨q + 1, ts2, by go_num, by omega, hal', hf', hs', hbB, hbox'⟩, by simp [intOf]; omega⟩
            · have e0 : Hid (R = (er, [])) := by have h := hstep.out; rw [if_neg her] at h; rw [hP.out, hf.out, h]; exact hid_e rfl
              clear hstep hs5 hb5 hal hbox hf hst
              go_wp2_with fail
              go_ret2
              rw [e0.out]
              exact ⟨hbB.out, .inr ⟨her, rfl⟩⟩
        · obtain rfl : q = n := by omega
          have q1 : ¬ (q : Int) < (q : Int) := by omega
          have e0 : Hid (R = (0, ts)) := by rw [hP.out, hf.out, List.drop_eq_nil_of_le (by rw [hzl.out]; exact Nat.le_refl _)]; exact hid_e rfl
          clear hf hbox
          go_wp2_with fail
          go_ret2
          rw [e0.out]
          exact ⟨hb.out, .inl ⟨rfl, sb, rfl, hst.out⟩⟩
  · go_wp2_with fail
    go_ret2
    have e0 : R = (60, []) := by rw [hP.out, if_pos h6]
    rw [e0]
    exact ⟨HB.out, .inr ⟨by decide, rfl⟩⟩
end Go.Proofs.YtgigikcopedoeaaGreat.Tree
