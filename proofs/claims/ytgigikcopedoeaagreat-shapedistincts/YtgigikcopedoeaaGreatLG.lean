import Derived.Test.YtgigikcopedoeaaGreatLF
/-! The document's candidates. -/
namespace Go.Proofs.YtgigikcopedoeaaGreat.Tree
open Go Go.RowKit

set_option maxHeartbeats 4000000 in
set_option maxRecDepth 100000 in
theorem rcand_any (t : Tr) (k x : Int) (s : ByteArray) (an : Option Addr) (ln cn : Nat) (ai : Option Addr) (li ci : Nat) (pa : Option Addr) (pc : Nat) (l : List ByteArray) (W0 w : World) (hW0 : Below W0.heap.size W0 w) (hV : VRep W0 t (five k x s (.slice an ln cn) (.slice ai li ci))) (hP : Reads W0 (.slice pa l.length pc) l) (hS : ∀ s ∈ l, s.size ≤ 9223372036854775806) (hl : l.length ≤ 9223372036854775806) (hb : partsT t ≤ 1000000) :
    Calls Tryz.prog 44 #[.agg #[.int .i64 k, .int .i64 x, .string s, .slice an ln cn, .slice ai li ci], .slice pa l.length pc] w fun e w' => ∃ a' c', e = .returned (.slice a' (candL (allF (SizeOf.sizeOf t) t l)).length c') ∧ ListIn W0 w' a' c' (candL (allF (SizeOf.sizeOf t) t l)) ∧ Below w.heap.size w w' := by
  obtain ⟨vs, hF⟩ : ∃ vs, Hid (allF (SizeOf.sizeOf t) t l = vs) := ⟨_, rfl⟩
  obtain ⟨n, hn⟩ : ∃ n, Hid (vs.length = n) := ⟨_, rfl⟩
  obtain ⟨M, hM⟩ : ∃ M, Hid (l.length = M) := ⟨_, rfl⟩
  have hB : Hid ((candL vs).length ≤ 1000000) := by rw [← hF.out]; have h1 := candL_len (allF (SizeOf.sizeOf t) t l); have h2 := allF_parts (SizeOf.sizeOf t) l t; exact hid_e (by omega)
  have hA : Hid (∀ W1, Below W0.heap.size W0 W1 → Calls Tryz.prog 68 #[.agg #[.int .i64 k, .int .i64 x, .string s, .slice an ln cn, .slice ai li ci], .slice pa M pc] W1 (GPost W0 W1.heap.size W1 0 [] vs)) := fun W1 h => by rw [← hF.out, ← hM.out]; exact rall_ok _ W0 t (five k x s (.slice an ln cn) (.slice ai li ci)) _ l W1 (Nat.le_refl _) h hV hP hS hl hb
  rw [hF.out, hM.out]
  clear hV hP hS hl hb hM hF
  obtain ⟨i5, hi, hz0, hz1, hz2⟩ := info_parts F25
  have hcl : ∀ q, (candL (vs.take q)).length ≤ 1000000 := fun q => by
    have : (candL vs).length = (candL (vs.take q)).length + (candL (vs.drop q)).length := by
      unfold candL
      rw [← List.length_append, ← List.flatMap_append, List.take_append_drop]
    have := hB.out
    omega
  replace hcl := hid_e hcl
  obtain ⟨X, hX⟩ : ∃ X, Hid (w.alloc (.cells #[.int .i64 k, .int .i64 x, .string s, .slice an ln cn, .slice ai li ci] 25) = X) := ⟨_, rfl⟩
  have HB0 : Hid (Below W0.heap.size W0 X) := by rw [← hX.out]; exact hW0.alloc hW0.size _
  have HB : Hid (Below w.heap.size w X) := by rw [← hX.out]; exact (Below.refl _ w).alloc (Nat.le_refl _) _
  have n1 : Hid (X.heap[w.heap.size]? = some (.cells #[.int .i64 k, .int .i64 x, .string s, .slice an ln cn, .slice ai li ci] 25)) := by rw [← hX.out]; exact heap_alloc_new _ _
  obtain ⟨d0, d1, d2, d3, d4, -⟩ := row_cells n1.out
  go_enter Tryz.func44, Tryz.ntmps44
  go_upto_region 2 with fail
  rw [hX.out]
  go_upto_region 3 with (go_at_call 68; refine (hA.out _ HB0.out).mono ?_; rintro e w1 ⟨fv, ys, rfl, h1, h2, h3⟩; obtain ⟨a, c, rfl⟩ := ownsRow_slice h1; rw [Nat.zero_add] at h1; rw [List.nil_append] at h2; have hW := hid_e (HB0.out.trans (h3.mono HB0.out.size)); have hWw := hid_e (HB.out.trans (h3.mono HB.out.size)); have hV := hid_e (row_in h1 h2 rfl); rw [hn.out]; clear h1 h2 h3 hA d0 d1 d2 d3 d4 n1)
  have n1 : n ≤ 9223372036854775807 := by have := hV.out.1.1; have := hV.out.1.2; have := hn.out; omega
  have n0 : (0 : Int) ≤ (n : Int) := by omega
  go_wp2_with fail
  go_loopw [5, 7] (fun fv iv wr => ∃ (q m : Nat) (ao : Option Addr) (co : Nat) (xs : List Value), fv = .slice ao m co ∧ iv = .int .i64 q ∧ q ≤ n ∧ Hid ((candL (vs.take q)).length = m) ∧ Hid (wr.ownsRow w1.heap.size 25 5 (.slice ao m co) m xs) ∧ Hid (ItemsRep W0 (candL (vs.take q)) xs) ∧ Hid (Below w1.heap.size w1 wr)) (fun _ iv _ => n - (intOf iv).toNat)
  case atStart => exact ⟨0, 0, none, 0, [], rfl, rfl, Nat.zero_le _, rfl, World.ownsRow_nil _ _ _ _, (by show ItemsRep W0 [] []; unfold ItemsRep; rfl), Below.refl _ _⟩
  case round =>
    obtain ⟨q, m, ao, co, xs, rfl, rfl, hq, hm, hrow, hI, hb⟩ := hrel
    by_cases hlt : q < n
    · have q1 : (q : Int) < (n : Int) := by omega
      have q0 : (0 : Int) ≤ (q : Int) := by omega
      have q2 : (q : Int) + 1 ≤ 9223372036854775807 := by omega
      obtain ⟨u, hu⟩ : ∃ u, Hid (vs[q]? = some u) := ⟨vs[q]'(by rw [hn.out]; omega), List.getElem?_eq_getElem (by rw [hn.out]; omega)⟩
      obtain ⟨b, o, k1, x1, s1, an1, ln1, cn1, ai1, li1, ci1, ea, hlb, hc1, hv1⟩ := hV.out.item hu.out
      subst ea
      obtain ⟨v0, v1, v2, v3, v4⟩ := cells5 hc1
      have x10 := stay hb.out v0
      have x11 := stay hb.out v1
      have x12 := stay hb.out v2
      have x13 := stay hb.out v3
      have x14 := stay hb.out v4
      obtain ⟨hk, hli, hits⟩ := vrep_items hv1
      have hst := hid_e (candL_step hu.out)
      have hmx : Hid ((candL (vs.take q)).length + (candT u).length ≤ 1000000) := by rw [← List.length_append, ← hst.out]; exact hcl.out _
      replace hv1 := hid_e hv1
      have hbs : Hid (w1.heap.size ≤ wr.heap.size) := hb.out.size
      clear v0 v1 v2 v3 v4 hc1 hlb
      by_cases hcase : k1 = 5 ∧ 0 < li1
      · obtain ⟨rfl, hl0⟩ := hcase
        have hl0' : (0 : Int) < (li1 : Int) := by omega
        have hne : u.items ≠ [] := fun e => by rw [e] at hli; simp at hli; omega
        obtain ⟨bi, oi, rfl, hbi, hvl⟩ := hits.resolve_left hne
        obtain ⟨zs, z1, z2, z3, z4⟩ := VRepL.flat _ _ hvl
        rw [hli] at z2
        have ec : Hid (candT u = u.items) := candT_list hk hne
        rw [ec.out, hli, hm.out] at hmx
        have hz3 : Hid (∀ j u, zs[j]? = some u → wr.cell? ((⟨bi, oi, none⟩ : Addr).add j) = some u) := fun j u hj => by rw [add_off]; exact stay hb.out (stay hW.out (z3 j u hj))
        have hmb : m + li1 ≤ 1000000 := hmx.out
        replace z1 := hid_e z1
        replace z2 := hid_e z2
        replace z4 := hid_e z4
        replace hli := hid_e hli
        clear hits hvl z3 hk
        go_wp2_with (at_builtin; refine wpList_append_lies _ rfl _ _ 23 rfl w1.heap.size 25 i5 _ 5 80 Tryz.underlying23 hi hz0 hz1 hz2 rfl (by decide) (.slice ao m co) m xs rfl hrow.out ⟨bi, oi, none⟩ li1 _ zs rfl z2.out hz3.out z4.out hl0 (by unfold maxLen; omega) (by omega) hbs.out _ rfl ?_; intro g4 c4 w4 hown4 hgrow4 hat4 hlt4; replace hown4 := hid_e hown4; replace hgrow4 := hid_e hgrow4; clear hat4 hlt4)
        have hI' : Hid (ItemsRep W0 (candL (vs.take (q + 1))) (xs ++ zs)) := by rw [hst.out, ec.out]; exact ItemsRep.app hI.out z1.out
        have hb' : Hid (Below w1.heap.size w1 w4) := hb.out.trans (grown_below hgrow4.out hbs.out (fun g hg => (ownsRow_ge hrow.out hg).1))
        exact ⟨⟨q + 1, m + li1, _, _, _, rfl, by go_num, by omega, by show _ = _; rw [hst.out, List.length_append, ec.out, hli.out, hm.out], hown4, hI', hb'⟩, by simp [intOf]; omega⟩
      · have ec : Hid (candT u = [u]) := candT_self (fun h => hcase ⟨by rw [← hk]; exact h.1, by rw [← hli]; exact List.length_pos_iff.2 h.2⟩)
        rw [ec.out, hm.out, List.length_singleton] at hmx
        have hmb : m + 1 ≤ 1000000 := hmx.out
        have hrow2 : Hid ((wr.alloc (.cells #[.int .i64 k1, .int .i64 x1, .string s1, .slice an1 ln1 cn1, .slice ai1 li1 ci1] 25)).ownsRow w1.heap.size 25 5 (.slice ao m co) m xs) := hrow.out.alloc _
        have hbB2 : Hid (Below w1.heap.size w1 (wr.alloc (.cells #[.int .i64 k1, .int .i64 x1, .string s1, .slice an1 ln1 cn1, .slice ai1 li1 ci1] 25))) := hb.out.alloc hb.out.size _
        have hI' : Hid (ItemsRep W0 (candL (vs.take (q + 1))) (xs ++ five k1 x1 s1 (.slice an1 ln1 cn1) (.slice ai1 li1 ci1))) := by rw [hst.out, ec.out]; exact ItemsRep.snoc rfl hv1.out hI.out
        have fin : Hid (∀ g4 c4 w4, w4.ownsRow w1.heap.size 25 5 (.slice (some ⟨g4, 0, none⟩) (m + 1) c4) (m + 1) (xs ++ [.int .i64 k1, .int .i64 x1, .string s1, .slice an1 ln1 cn1, .slice ai1 li1 ci1]) → (wr.alloc (.cells #[.int .i64 k1, .int .i64 x1, .string s1, .slice an1 ln1 cn1, .slice ai1 li1 ci1] 25)).grownBy w4 (Value.slice ao m co).ownBlock → Below w1.heap.size w1 w4) := fun g4 c4 w4 _ hg => hbB2.out.trans (grown_below hg hbB2.out.size (fun g hg => (ownsRow_ge hrow.out hg).1))
        have hnew : Hid (w1.heap.size ≤ (wr.alloc (.cells #[.int .i64 k1, .int .i64 x1, .string s1, .slice an1 ln1 cn1, .slice ai1 li1 ci1] 25)).heap.size) := hbB2.out.size
        have hnews : Hid (∀ j u, ([.int .i64 k1, .int .i64 x1, .string s1, .slice an1 ln1 cn1, .slice ai1 li1 ci1] : List Value)[j]? = some u → (wr.alloc (.cells #[.int .i64 k1, .int .i64 x1, .string s1, .slice an1 ln1 cn1, .slice ai1 li1 ci1] 25)).cell? ((⟨wr.heap.size, 0, none⟩ : Addr).add j) = some u) := World.news_of_block (heap_alloc_new wr _)
        have hones : Hid (∀ u ∈ ([.int .i64 k1, .int .i64 x1, .string s1, .slice an1 ln1 cn1, .slice ai1 li1 ci1] : List Value), u.oneCell' = true) := five_one _ _ _ _ _ _ _ _ _
        have hlen : Hid ((candL (vs.take (q + 1))).length = m + 1) := by show _ = _; rw [hst.out, List.length_append, ec.out, hm.out]; rfl
        clear hits hst
        by_cases h5 : k1 = 5
        · subst h5
          obtain rfl : li1 = 0 := by rcases Nat.eq_zero_or_pos li1 with h | h; exact h; exact absurd ⟨rfl, h⟩ hcase
          clear hcase hli
          go_wp2_with (at_builtin; refine wpList_append_lies _ rfl _ _ 23 rfl w1.heap.size 25 i5 _ 5 80 Tryz.underlying23 hi hz0 hz1 hz2 rfl (by decide) (.slice ao m co) m xs rfl hrow2.out _ 1 1 [.int .i64 5, .int .i64 x1, .string s1, .slice an1 ln1 cn1, .slice ai1 0 ci1] rfl rfl hnews.out hones.out (by decide) (by unfold maxLen; omega) (by omega) hnew.out _ rfl ?_; intro g4 c4 w4 hown4 hgrow4 hat4 hlt4; have hb4 := hid_e (fin.out g4 c4 w4 hown4 hgrow4); replace hown4 := hid_e hown4; clear hgrow4 hat4 hlt4)
          exact ⟨⟨q + 1, m + 1, _, _, _, rfl, by go_num, by omega, hlen, hown4, hI', hb4⟩, by simp [intOf]; omega⟩
        · clear hcase hli hk
          go_wp2_with (at_builtin; refine wpList_append_lies _ rfl _ _ 23 rfl w1.heap.size 25 i5 _ 5 80 Tryz.underlying23 hi hz0 hz1 hz2 rfl (by decide) (.slice ao m co) m xs rfl hrow2.out _ 1 1 [.int .i64 k1, .int .i64 x1, .string s1, .slice an1 ln1 cn1, .slice ai1 li1 ci1] rfl rfl hnews.out hones.out (by decide) (by unfold maxLen; omega) (by omega) hnew.out _ rfl ?_; intro g4 c4 w4 hown4 hgrow4 hat4 hlt4; have hb4 := hid_e (fin.out g4 c4 w4 hown4 hgrow4); replace hown4 := hid_e hown4; clear hgrow4 hat4 hlt4)
          exact ⟨⟨q + 1, m + 1, _, _, _, rfl, by go_num, by omega, hlen, hown4, hI', hb4⟩, by simp [intOf]; omega⟩
    · obtain rfl : q = n := by omega
      have q1 : ¬ (q : Int) < (q : Int) := by omega
      rw [List.take_of_length_le (by rw [hn.out]; omega)] at hm hI
      have hfin : Hid (ListIn W0 wr ao co (candL vs)) := row_in hrow.out hI.out hm.out
      have hbf := hid_e (hWw.out.trans (hb.out.mono hWw.out.size))
      have hm' := hm.out
      subst hm'
      go_wp2_with fail
      go_ret
      exact ⟨ao, co, rfl, hfin.out, hbf.out⟩
end Go.Proofs.YtgigikcopedoeaaGreat.Tree
