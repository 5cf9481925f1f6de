import Derived.Test.YtgigikcopedoeaaGreatLM
/-! A key by its number: the code's and the document's. -/
namespace Go.Proofs.YtgigikcopedoeaaGreat.Tree
open Go Go.RowKit

theorem count_any (sb m co : Nat) (ao : Option Addr) (w : World) (hc : w.cell? ⟨sb, 0, none⟩ = some (.slice ao m co)) : Calls Tryz.prog 33 #[.pointer (some ⟨sb, 0, none⟩)] w fun e w' => e = .returned (.int .i64 m) ∧ w' = w := by
  go_enter Tryz.func33, Tryz.ntmps33
  go_wp2
  go_ret
  exact ⟨rfl, rfl⟩
/-- The key at a number: null where there is none. -/
noncomputable def keyAt (ts : List Turn) (t : Tr) (i : Int) : Tr := if i < 0 then nullT else match ts[i.toNat]? with | some (l, fl) => keyT (sgB fl) t l | none => nullT
set_option maxHeartbeats 4000000 in
set_option maxRecDepth 100000 in
theorem skey_any (ts : List Turn) (i : Int) (sb m co : Nat) (ao : Option Addr) (t : Tr) (k x : Int) (s : ByteArray) (an : Option Addr) (ln cn : Nat) (ai : Option Addr) (li ci : Nat) (w : World) (hm : ts.length = m) (hc : w.cell? ⟨sb, 0, none⟩ = some (.slice ao m co)) (hK : KeysAt .bool w ao ts) (hS : ∀ p ∈ ts, p.1.length ≤ 1000 ∧ ∀ s ∈ p.1, s.size ≤ 9223372036854775806) (hV : VRep w t (five k x s (.slice an ln cn) (.slice ai li ci))) (hb : partsT t ≤ 1000000) (hT : SmallT t) :
    Calls Tryz.prog 12 #[.pointer (some ⟨sb, 0, none⟩), .agg #[.int .i64 k, .int .i64 x, .string s, .slice an ln cn, .slice ai li ci], .int .i64 i] w fun e w' => ∃ k' x' s' an' ln' cn' ai' li' ci', e = .returned (.agg #[.int .i64 k', .int .i64 x', .string s', .slice an' ln' cn', .slice ai' li' ci']) ∧ VRep w' (keyAt ts t i) (five k' x' s' (.slice an' ln' cn') (.slice ai' li' ci')) ∧ Below w.heap.size w w' := by
  obtain ⟨X, hX⟩ : ∃ X, Hid ((w.alloc (.cells #[.int .i64 k, .int .i64 x, .string s, .slice an ln cn, .slice ai li ci] 25)).alloc (.cells #[.int .i64 0, .int .i64 0, .string ⟨#[]⟩, .slice none 0 0, .slice none 0 0] 25) = X) := ⟨_, rfl⟩
  have HB : Hid (Below w.heap.size w X) := by rw [← hX.out]; exact ((Below.refl _ w).alloc (Nat.le_refl _) _).alloc (by simp) _
  have n2 : Hid (X.heap[w.heap.size + 1]? = some (.cells #[.int .i64 0, .int .i64 0, .string ⟨#[]⟩, .slice none 0 0, .slice none 0 0] 25)) := by rw [← hX.out]; exact new2 _ _ _
  have n1 : Hid (X.heap[w.heap.size]? = some (.cells #[.int .i64 k, .int .i64 x, .string s, .slice an ln cn, .slice ai li ci] 25)) := by have h := ((Below.refl _ (w.alloc (.cells #[.int .i64 k, .int .i64 x, .string s, .slice an ln cn, .slice ai li ci] 25))).alloc (Nat.le_refl _) (.cells #[.int .i64 0, .int .i64 0, .string ⟨#[]⟩, .slice none 0 0, .slice none 0 0] 25)).block w.heap.size (by simp); rw [hX.out, heap_alloc_new] at h; exact h
  have c1 := stay HB.out hc
  have cnt := hid_e (count_any sb m co ao X c1)
  have hXd : Hid (Below X.heap.size X X.drew) := below_drew (Below.refl _ _)
  have HBd : Hid (Below w.heap.size w X.drew) := below_drew HB.out
  by_cases hin : 0 ≤ i ∧ i < (m : Int)
  · obtain ⟨p, rfl⟩ : ∃ p : Nat, i = (p : Int) := ⟨i.toNat, by omega⟩
    have hpm : p < m := by omega
    obtain ⟨⟨l, fl⟩, hu⟩ : ∃ u, Hid (ts[p]? = some u) := ⟨ts[p]'(by rw [hm]; omega), List.getElem?_eq_getElem (by rw [hm]; omega)⟩
    obtain ⟨g, o, pa, pc, ea, k0, k1, hr⟩ := hK p l fl hu.out
    subst ea
    have hsl := hS (l, fl) (List.mem_of_getElem? hu.out)
    have call := hid_e (turn_key fl t k x s an ln cn ai li ci pa pc l w X.drew HBd.out hV hr hsl.2 (Nat.le_trans (show l.length ≤ 1000 from hsl.1) (by decide)) hb hT)
    have hkey : Hid (keyAt ts t (p : Int) = keyT (sgB fl) t l) := by show _ = _; unfold keyAt; rw [if_neg (by omega), Int.toNat_natCast, hu.out]
    rw [hkey.out]
    have x0 := stay HB.out k0
    have x1 := stay HB.out k1
    obtain ⟨lm, hlm⟩ : ∃ lm, Hid (l.length = lm) := ⟨_, rfl⟩
    obtain ⟨KK, hKK⟩ : ∃ KK, Hid (keyT (sgB fl) t l = KK) := ⟨_, rfl⟩
    rw [hKK.out] at call ⊢
    rw [hlm.out] at call x0
    obtain ⟨y0, y1, y2, y3, y4, -⟩ := row_cells n1.out
    have p0 : ¬ (p : Int) < 0 := by omega
    have p1 : (p : Int) < (m : Int) := by omega
    have p2 : (0 : Int) ≤ (p : Int) := by omega
    have p3 : ¬ (m : Int) ≤ (p : Int) := by omega
    clear hin hV hT hS hK hr hsl k0 k1 hc n1 hb
    go_enter Tryz.func12, Tryz.ntmps12
    go_upto_region 1 with fail
    rw [hX.out]
    go_upto_region 3 with (go_at_call 33; refine cnt.out.mono ?_; rintro e X1 ⟨rfl, rfl⟩)
    go_region_with (go_at_call 34; refine call.out.mono ?_; rintro e Z2 ⟨k2, x2, s2, an2, ln2, cn2, ai2, li2, ci2, rfl, hv2, hb'⟩; have hb2 := hid_e (hXd.out.trans (hb'.mono hXd.out.size)); replace hv2 := hid_e hv2; clear hb' call; have nZ2 := hid_e (block_keep n2.out hb2.out); obtain ⟨r0, r1, r2, r3, r4, rf⟩ := row_cells nZ2.out; have rf0 := rf 0; have rf1 := rf 1; have rf2 := rf 2; have rf3 := rf 3; have rf4 := rf 4; clear rf)
    all_goals
      go_wp2_with fail
      have hr := put5_cells nZ2.out (.int .i64 k2) (.int .i64 x2) (.string s2) (.slice an2 ln2 cn2) (.slice ai2 li2 ci2)
      have q0 := hr 0; have q1 := hr 1; have q2 := hr 2; have q3 := hr 3; have q4 := hr 4
      clear hr
      refine bodyPost_ret (v := .agg #[.int .i64 k2, .int .i64 x2, .string s2, .slice an2 ln2 cn2, .slice ai2 li2 ci2]) (by simp [results, Tryz.results12, go_sem, q0, q1, q2, q3, q4]) rfl ?_
      have hBf := (HB.out.trans (hb2.out.mono HB.out.size)).trans (put5_below (w := Z2) (g := w.heap.size + 1) (B := w.heap.size) (by omega) (.int .i64 k2) (.int .i64 x2) (.string s2) (.slice an2 ln2 cn2) (.slice ai2 li2 ci2))
      exact ⟨k2, x2, s2, an2, ln2, cn2, ai2, li2, ci2, rfl, VRep.keep hBf _ _ hv2.out, hBf⟩
  · have hkey : keyAt ts t i = nullT := by
      unfold keyAt
      split
      · rfl
      · rw [List.getElem?_eq_none (by omega)]
    rw [hkey]
    obtain ⟨z0, z1, z2, z3, z4, zf⟩ := row_cells n2.out
    have zf0 := zf 0; have zf1 := zf 1; have zf2 := zf 2; have zf3 := zf 3; have zf4 := zf 4
    have hr5 := put5_cells n2.out (.int .i64 0) (.int .i64 0) (.string ⟨#[]⟩) (.slice none 0 0) (.slice none 0 0)
    have r0 := hid_e (hr5 0); have r1 := hid_e (hr5 1); have r2 := hid_e (hr5 2); have r3 := hid_e (hr5 3); have r4 := hid_e (hr5 4)
    clear hr5 zf hV hT hS hK hc n1 hb
    go_enter Tryz.func12, Tryz.ntmps12
    go_upto_region 1 with fail
    rw [hX.out]
    by_cases hi0 : i < 0
    · clear hin
      go_wp2_with fail
      have r0 := r0.out; have r1 := r1.out; have r2 := r2.out; have r3 := r3.out; have r4 := r4.out
      refine bodyPost_ret (v := .agg #[.int .i64 0, .int .i64 0, .string ⟨#[]⟩, .slice none 0 0, .slice none 0 0]) (by simp [results, Tryz.results12, go_sem, r0, r1, r2, r3, r4]) rfl ?_
      exact ⟨0, 0, ⟨#[]⟩, none, 0, 0, none, 0, 0, rfl, null_rep _, HB.out.trans (put5_below (by omega) _ _ _ _ _)⟩
    · have hge : (m : Int) ≤ i := by omega
      clear hin
      go_wp2_with (go_at_call 33; refine cnt.out.mono ?_; rintro e X1 ⟨rfl, rfl⟩)
      have r0 := r0.out; have r1 := r1.out; have r2 := r2.out; have r3 := r3.out; have r4 := r4.out
      refine bodyPost_ret (v := .agg #[.int .i64 0, .int .i64 0, .string ⟨#[]⟩, .slice none 0 0, .slice none 0 0]) (by simp [results, Tryz.results12, go_sem, r0, r1, r2, r3, r4]) rfl ?_
      exact ⟨0, 0, ⟨#[]⟩, none, 0, 0, none, 0, 0, rfl, null_rep _, HB.out.trans (put5_below (by omega) _ _ _ _ _)⟩
set_option maxHeartbeats 4000000 in
set_option maxRecDepth 100000 in
theorem rof_out (i : Int) (m co : Nat) (ao : Option Addr) (k x : Int) (s : ByteArray) (an : Option Addr) (ln cn : Nat) (ai : Option Addr) (li ci : Nat) (w : World) (hin : ¬ (0 ≤ i ∧ i < (m : Int))) :
    Calls Tryz.prog 20 #[.slice ao m co, .agg #[.int .i64 k, .int .i64 x, .string s, .slice an ln cn, .slice ai li ci], .int .i64 i] w fun e w' => ∃ k' x' s' an' ln' cn' ai' li' ci', e = .returned (.agg #[.int .i64 k', .int .i64 x', .string s', .slice an' ln' cn', .slice ai' li' ci']) ∧ VRep w' nullT (five k' x' s' (.slice an' ln' cn') (.slice ai' li' ci')) ∧ Below w.heap.size w w' := by
  obtain ⟨X, hX⟩ : ∃ X, Hid ((w.alloc (.cells #[.int .i64 k, .int .i64 x, .string s, .slice an ln cn, .slice ai li ci] 25)).alloc (.cells #[.int .i64 0, .int .i64 0, .string ⟨#[]⟩, .slice none 0 0, .slice none 0 0] 25) = X) := ⟨_, rfl⟩
  have HB : Hid (Below w.heap.size w X) := by rw [← hX.out]; exact ((Below.refl _ w).alloc (Nat.le_refl _) _).alloc (by simp) _
  have n2 : Hid (X.heap[w.heap.size + 1]? = some (.cells #[.int .i64 0, .int .i64 0, .string ⟨#[]⟩, .slice none 0 0, .slice none 0 0] 25)) := by rw [← hX.out]; exact new2 _ _ _
  obtain ⟨z0, z1, z2, z3, z4, zf⟩ := row_cells n2.out
  have zf0 := zf 0; have zf1 := zf 1; have zf2 := zf 2; have zf3 := zf 3; have zf4 := zf 4
  have hr5 := put5_cells n2.out (.int .i64 0) (.int .i64 0) (.string ⟨#[]⟩) (.slice none 0 0) (.slice none 0 0)
  have r0 := hid_e (hr5 0); have r1 := hid_e (hr5 1); have r2 := hid_e (hr5 2); have r3 := hid_e (hr5 3); have r4 := hid_e (hr5 4)
  clear hr5 zf
  go_enter Tryz.func20, Tryz.ntmps20
  go_upto_region 1 with fail
  rw [hX.out]
  by_cases hi0 : i < 0
  · clear hin
    go_wp2_with fail
    have r0 := r0.out; have r1 := r1.out; have r2 := r2.out; have r3 := r3.out; have r4 := r4.out
    refine bodyPost_ret (v := .agg #[.int .i64 0, .int .i64 0, .string ⟨#[]⟩, .slice none 0 0, .slice none 0 0]) (by simp [results, Tryz.results20, go_sem, r0, r1, r2, r3, r4]) rfl ?_
    exact ⟨0, 0, ⟨#[]⟩, none, 0, 0, none, 0, 0, rfl, null_rep _, HB.out.trans (put5_below (by omega) _ _ _ _ _)⟩
  · have hge : (m : Int) ≤ i := by omega
    clear hin
    go_wp2_with fail
    have r0 := r0.out; have r1 := r1.out; have r2 := r2.out; have r3 := r3.out; have r4 := r4.out
    refine bodyPost_ret (v := .agg #[.int .i64 0, .int .i64 0, .string ⟨#[]⟩, .slice none 0 0, .slice none 0 0]) (by simp [results, Tryz.results20, go_sem, r0, r1, r2, r3, r4]) rfl ?_
    exact ⟨0, 0, ⟨#[]⟩, none, 0, 0, none, 0, 0, rfl, null_rep _, HB.out.trans (put5_below (by omega) _ _ _ _ _)⟩
/-- The document's key by its number. -/
theorem rof_any (ts : List Turn) (i : Int) (m co : Nat) (ao : Option Addr) (t : Tr) (k x : Int) (s : ByteArray) (an : Option Addr) (ln cn : Nat) (ai : Option Addr) (li ci : Nat) (w : World) (hm : ts.length = m) (hK : KeysAt wayE w ao ts) (hS : ∀ p ∈ ts, p.1.length ≤ 1000 ∧ ∀ s ∈ p.1, s.size ≤ 9223372036854775806) (hV : VRep w t (five k x s (.slice an ln cn) (.slice ai li ci))) (hb : partsT t ≤ 1000000) (hT : SmallT t) :
    Calls Tryz.prog 20 #[.slice ao m co, .agg #[.int .i64 k, .int .i64 x, .string s, .slice an ln cn, .slice ai li ci], .int .i64 i] w fun e w' => ∃ k' x' s' an' ln' cn' ai' li' ci', e = .returned (.agg #[.int .i64 k', .int .i64 x', .string s', .slice an' ln' cn', .slice ai' li' ci']) ∧ VRep w' (keyAt ts t i) (five k' x' s' (.slice an' ln' cn') (.slice ai' li' ci')) ∧ Below w.heap.size w w' := by
  by_cases hin : 0 ≤ i ∧ i < (m : Int)
  · obtain ⟨p, rfl⟩ : ∃ p : Nat, i = (p : Int) := ⟨i.toNat, by omega⟩
    have hpm : p < m := by omega
    obtain ⟨⟨l, fl⟩, hu⟩ : ∃ u, ts[p]? = some u := ⟨ts[p]'(by rw [hm]; omega), List.getElem?_eq_getElem (by rw [hm]; omega)⟩
    obtain ⟨g, o, pa, pc, ea, k0, k1, hr⟩ := hK p l fl hu
    subst ea
    have hsl := hS (l, fl) (List.mem_of_getElem? hu)
    have hkey : keyAt ts t (p : Int) = keyT (sgB fl) t l := by unfold keyAt; rw [if_neg (by omega), Int.toNat_natCast, hu]
    rw [hkey]
    exact rof_in fl t k x s an ln cn ai li ci pa pc l g o m co p w hpm k0 k1 hV hr hsl.2 (Nat.le_trans (show l.length ≤ 1000 from hsl.1) (by decide)) hb hT
  · have hkey : keyAt ts t i = nullT := by
      unfold keyAt
      split
      · rfl
      · rw [List.getElem?_eq_none (by omega)]
    rw [hkey]
    exact rof_out i m co ao k x s an ln cn ai li ci w hin
end Go.Proofs.YtgigikcopedoeaaGreat.Tree
