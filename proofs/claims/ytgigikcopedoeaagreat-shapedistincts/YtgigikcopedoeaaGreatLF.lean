import Derived.Test.YtgigikcopedoeaaGreatLE
import Derived.Test.YtgigikcopedoeaaGreatXA
/-! A key of a document: the least (or the greatest) of the candidates. -/
namespace Go.Proofs.YtgigikcopedoeaaGreat.Tree
open Go Go.RowKit

theorem partsL_app : (l m : List Tr) → partsL (l ++ m) = partsL l + partsL m
  | [], m => by simp [partsL]
  | t :: ts, m => by simp [partsL, partsL_app ts m, Nat.add_assoc]
theorem each_parts {n : Nat} {l : List ByteArray} (h : ∀ u, partsL (allF n u l) ≤ partsT u) : (its : List Tr) → partsL (eachF n its l) ≤ partsL its
  | [] => by simp [eachF, partsL]
  | t :: ts => by
    have ih := each_parts h ts
    unfold eachF at ih ⊢
    rw [List.flatMap_cons, partsL_app, partsL]
    have h1 := h t
    by_cases h6 : t.kind = 6
    · rw [if_pos h6]; omega
    · rw [if_neg h6, partsL]; omega
theorem allF_parts : (n : Nat) → (l : List ByteArray) → (t : Tr) → partsL (allF n t l) ≤ partsT t
  | n, [], t => by rw [allF_nil]; simp [partsL]
  | 0, _ :: _, t => by simp [allF, partsL]
  | n + 1, s :: r, t => by
    have ht := partsT_items t
    cases hb : placeB t.kind t.names t.items.length s
    · rw [allF_none hb]
      split
      · have := each_parts (allF_parts n (s :: r)) t.items; omega
      · simp [partsL]
    · obtain ⟨i, hi, him⟩ := placeB_true hb
      obtain ⟨u, hu⟩ : ∃ u, t.items[i]? = some u := ⟨_, List.getElem?_eq_getElem him⟩
      rw [allF_some hb hi hu]
      have h1 := allF_parts n r u
      have h2 := partsL_mem hu
      omega
theorem partsL_len : (l : List Tr) → l.length ≤ partsL l
  | [] => by simp
  | t :: ts => by have := partsL_len ts; have := parts_pos t; simp [partsL]; omega
theorem candL_len : (l : List Tr) → (candL l).length ≤ partsL l
  | [] => by simp [candL]
  | t :: ts => by
    have ih := candL_len ts
    unfold candL at ih ⊢
    rw [List.flatMap_cons, List.length_append, partsL]
    have h1 := partsT_items t
    have h2 := partsL_len t.items
    have h3 : (candT t).length ≤ partsT t := by
      unfold candT
      split
      · omega
      · rw [List.length_singleton]; omega
    omega
theorem smallL_iff : {l : List Tr} → (SmallL l ↔ ∀ u ∈ l, SmallT u)
  | [] => by simp [SmallL]
  | t :: ts => by unfold SmallL; rw [smallL_iff (l := ts)]; simp
theorem smallT_items {t : Tr} (h : SmallT t) : SmallL t.items := by
  cases t with
  | node k x s ns its => unfold SmallT at h; exact h.2.2.2.2
theorem allF_small : (n : Nat) → (l : List ByteArray) → (t : Tr) → SmallT t → SmallL (allF n t l)
  | n, [], t, h => by rw [allF_nil]; exact ⟨h, trivial⟩
  | 0, _ :: _, t, _ => by simp [allF, SmallL]
  | n + 1, s :: r, t, h => by
    have hi := smallT_items h
    cases hb : placeB t.kind t.names t.items.length s
    · rw [allF_none hb]
      split
      · unfold eachF
        refine smallL_iff.2 (fun u hu => ?_)
        obtain ⟨v, hv, hu⟩ := List.mem_flatMap.1 hu
        by_cases h6 : v.kind = 6
        · rw [if_pos h6] at hu
          exact smallL_iff.1 (allF_small n (s :: r) v (smallL_iff.1 hi v hv)) u hu
        · rw [if_neg h6] at hu; cases hu
      · simp [SmallL]
    · obtain ⟨i, he, him⟩ := placeB_true hb
      obtain ⟨u, hu⟩ : ∃ u, t.items[i]? = some u := ⟨_, List.getElem?_eq_getElem him⟩
      rw [allF_some hb he hu]
      exact allF_small n r u (hi.at hu)
theorem candL_small {l : List Tr} (h : SmallL l) : SmallL (candL l) := by
  refine smallL_iff.2 (fun u hu => ?_)
  obtain ⟨v, hv, hu⟩ := List.mem_flatMap.1 hu
  have hv' := smallL_iff.1 h v hv
  unfold candT at hu
  split at hu
  · exact smallL_iff.1 (smallT_items hv') u hu
  · rw [List.mem_singleton] at hu; subst hu; exact hv'
def nullT : Tr := .node 0 0 ⟨#[]⟩ [] []
theorem null_rep (w : World) : VRep w nullT (five 0 0 ⟨#[]⟩ (.slice none 0 0) (.slice none 0 0)) := by
  unfold nullT VRep
  exact ⟨_, _, _, rfl, ⟨none, 0, rfl, by simp, .inl rfl⟩, by simp, .inl rfl⟩
def sgB (fl : Bool) : Int := if fl then -1 else 1
def keyL (sg : Int) (c : List Tr) : Tr := match c[bestT sg c c.length]? with | some u => u | none => nullT
noncomputable def keyT (sg : Int) (t : Tr) (l : List ByteArray) : Tr := keyL sg (candL (allF (SizeOf.sizeOf t) t l))
set_option maxHeartbeats 4000000 in
set_option maxRecDepth 100000 in
theorem turn_key (fl : Bool) (t : Tr) (k x : Int) (s : ByteArray) (an : Option Addr) (ln cn : Nat) (ai : Option Addr) (li ci : Nat) (pa : Option Addr) (pc : Nat) (l : List ByteArray) (W0 w : World) (hW0 : Below W0.heap.size W0 w) (hV : VRep W0 t (five k x s (.slice an ln cn) (.slice ai li ci))) (hP : Reads W0 (.slice pa l.length pc) l) (hS : ∀ s ∈ l, s.size ≤ 9223372036854775806) (hl : l.length ≤ 9223372036854775806) (hb : partsT t ≤ 1000000) (hT : SmallT t) :
    Calls Tryz.prog 34 #[.agg #[.slice pa l.length pc, .bool fl], .agg #[.int .i64 k, .int .i64 x, .string s, .slice an ln cn, .slice ai li ci]] w fun e w' => ∃ k' x' s' an' ln' cn' ai' li' ci', e = .returned (.agg #[.int .i64 k', .int .i64 x', .string s', .slice an' ln' cn', .slice ai' li' ci']) ∧ VRep W0 (keyT (sgB fl) t l) (five k' x' s' (.slice an' ln' cn') (.slice ai' li' ci')) ∧ Below w.heap.size w w' := by
  obtain ⟨F0, hF⟩ : ∃ F0, Hid (allF (SizeOf.sizeOf t) t l = F0) := ⟨_, rfl⟩
  obtain ⟨C, hC⟩ : ∃ C, Hid (candL F0 = C) := ⟨_, rfl⟩
  obtain ⟨N, hN⟩ : ∃ N, Hid (C.length = N) := ⟨_, rfl⟩
  obtain ⟨M, hM⟩ : ∃ M, Hid (l.length = M) := ⟨_, rfl⟩
  have hCl : Hid (N ≤ 1000000) := by rw [← hN.out, ← hC.out, ← hF.out]; have h1 := candL_len (allF (SizeOf.sizeOf t) t l); have h2 := allF_parts (SizeOf.sizeOf t) l t; exact hid_e (by omega)
  have hCs : Hid (SmallL C) := by rw [← hC.out, ← hF.out]; exact candL_small (allF_small _ _ _ hT)
  have hA : Hid (∀ W1, Below W0.heap.size W0 W1 → Calls Tryz.prog 47 #[.agg #[.int .i64 k, .int .i64 x, .string s, .slice an ln cn, .slice ai li ci], .slice pa M pc] W1 (GPost W0 W1.heap.size W1 0 [] F0)) := fun W1 h => by rw [← hF.out, ← hM.out]; exact all_any _ W0 t k x s an ln cn ai li ci _ l W1 (Nat.le_refl _) h hV hP hS hl hb
  have hK : Hid (keyT (sgB fl) t l = keyL (sgB fl) C) := by unfold keyT; rw [hF.out, hC.out]; exact hid_e rfl
  rw [hK.out, hM.out]
  clear hV hP hS hl hb hT hK hM
  obtain ⟨X, hX⟩ : ∃ X, Hid (((w.alloc (.cells #[.slice pa M pc, .bool fl] 66)).alloc (.cells #[.int .i64 k, .int .i64 x, .string s, .slice an ln cn, .slice ai li ci] 25)).alloc (.cells #[.int .i64 0, .int .i64 0, .string ⟨#[]⟩, .slice none 0 0, .slice none 0 0] 25) = X) := ⟨_, rfl⟩
  have HB : Hid (Below w.heap.size w X) := by rw [← hX.out]; exact (((Below.refl _ w).alloc (Nat.le_refl _) _).alloc (by simp) _).alloc (by simp; omega) _
  replace hW0 := hid_e hW0
  have n2 : Hid (X.heap[w.heap.size + 2]? = some (.cells #[.int .i64 0, .int .i64 0, .string ⟨#[]⟩, .slice none 0 0, .slice none 0 0] 25)) := by have h := new2 (w.alloc (.cells #[.slice pa M pc, .bool fl] 66)) (.cells #[.int .i64 k, .int .i64 x, .string s, .slice an ln cn, .slice ai li ci] 25) (.cells #[.int .i64 0, .int .i64 0, .string ⟨#[]⟩, .slice none 0 0, .slice none 0 0] 25); rw [hX.out, World.size_alloc] at h; exact h
  have n1 : Hid (X.heap[w.heap.size + 1]? = some (.cells #[.int .i64 k, .int .i64 x, .string s, .slice an ln cn, .slice ai li ci] 25)) := by have h := ((Below.refl _ ((w.alloc (.cells #[.slice pa M pc, .bool fl] 66)).alloc (.cells #[.int .i64 k, .int .i64 x, .string s, .slice an ln cn, .slice ai li ci] 25))).alloc (Nat.le_refl _) (.cells #[.int .i64 0, .int .i64 0, .string ⟨#[]⟩, .slice none 0 0, .slice none 0 0] 25)).block (w.heap.size + 1) (by simp); rw [hX.out, new2] at h; exact h
  have n0 : Hid (X.heap[w.heap.size]? = some (.cells #[.slice pa M pc, .bool fl] 66)) := by have h := (((Below.refl _ (w.alloc (.cells #[.slice pa M pc, .bool fl] 66))).alloc (Nat.le_refl _) (.cells #[.int .i64 k, .int .i64 x, .string s, .slice an ln cn, .slice ai li ci] 25)).alloc (by simp) (.cells #[.int .i64 0, .int .i64 0, .string ⟨#[]⟩, .slice none 0 0, .slice none 0 0] 25)).block w.heap.size (by simp); rw [hX.out, heap_alloc_new] at h; exact h
  have hsz : Hid (X.heap.size = w.heap.size + 3) := by rw [← hX.out]; exact hid_e (by simp)
  obtain ⟨d0, d1, d2, d3, d4, -⟩ := row_cells n1.out
  have t0 : X.cell? ⟨w.heap.size, 0, none⟩ = some (.slice pa M pc) := by unfold World.cell?; rw [n0.out]; rfl
  go_enter Tryz.func34, Tryz.ntmps34
  go_upto_region 1 with fail
  rw [hX.out]
  go_upto_region 2 with (first
    | (go_at_call 47; refine (hA.out _ (hW0.out.trans (HB.out.mono hW0.out.size))).mono ?_; rintro e w1 ⟨fv, xs, rfl, h1, h2, h3⟩; obtain ⟨af, cf, rfl⟩ := ownsRow_slice h1; rw [Nat.zero_add] at h1; rw [List.nil_append] at h2; have hb1 := hid_e (HB.out.trans (h3.mono HB.out.size)); have hL1 := hid_e (row_in h1 h2 rfl); replace h3 := hid_e h3; clear h1 h2 hA d0 d1 d2 d3 d4 t0)
    | (go_at_call 46; refine (laid_nil af cf F0.length F0 W0 w1 (hW0.out.trans (hb1.out.mono hW0.out.size)) rfl hL1.out (by rw [hC.out, hN.out]; have := hCl.out; omega)).mono ?_; rintro e w2 ⟨a2, c2, rfl, hL2, hb2⟩; rw [hC.out] at hL2; rw [hC.out, hN.out]; have hB2 := hid_e (hb1.out.trans (hb2.mono hb1.out.size)); have hX2 := hid_e (h3.out.trans (hb2.mono h3.out.size)); replace hL2 := hid_e hL2; clear hb2 hb1 h3 hL1))
  go_upto_region 3 with (go_at_call 56; refine (oleast_any a2 c2 N C _ hN.out (by have := hCl.out; omega) (hL2.out.list (hW0.out.trans (hB2.out.mono hW0.out.size))) hCs.out).mono ?_; rintro e w3 ⟨rfl, hb3⟩; have hX3 := hid_e (hX2.out.trans (hb3.mono hX2.out.size)); have hB3 := hid_e (hB2.out.trans (hb3.mono hB2.out.size)); have hL3 := hid_e (hL2.out.keep hb3); clear hb3 hX2 hB2 hL2)
  have f0 := hid_e (show w3.heap[w.heap.size]? = some (.cells #[.slice pa M pc, .bool fl] 66) from by rw [hX3.out.block _ (by rw [hsz.out]; omega)]; exact n0.out)
  have t1 : w3.cell? ⟨w.heap.size, 1, none⟩ = some (.bool fl) := by unfold World.cell?; rw [f0.out]; rfl
  cases fl with
  | false =>
    have g2 := hid_e (show w3.heap[w.heap.size + 2]? = some (.cells #[.int .i64 0, .int .i64 0, .string ⟨#[]⟩, .slice none 0 0, .slice none 0 0] 25) from by rw [hX3.out.block _ (by rw [hsz.out]; omega)]; exact n2.out)
    obtain ⟨z0, z1, z2, z3, z4, zf⟩ := row_cells g2.out
    have zf0 := zf 0; have zf1 := zf 1; have zf2 := zf 2; have zf3 := zf 3; have zf4 := zf 4
    clear zf
    rcases Nat.eq_zero_or_pos N with hN0 | hN0
    · subst hN0
      obtain rfl : C = [] := List.eq_nil_of_length_eq_zero hN.out
      have hr5 := put5_cells g2.out (.int .i64 0) (.int .i64 0) (.string ⟨#[]⟩) (.slice none 0 0) (.slice none 0 0)
      have r0 := hid_e (hr5 0); have r1 := hid_e (hr5 1); have r2 := hid_e (hr5 2); have r3 := hid_e (hr5 3); have r4 := hid_e (hr5 4)
      clear hr5
      go_wp2_with fail
      have r0 := r0.out; have r1 := r1.out; have r2 := r2.out; have r3 := r3.out; have r4 := r4.out
      refine bodyPost_ret (v := .agg #[.int .i64 0, .int .i64 0, .string ⟨#[]⟩, .slice none 0 0, .slice none 0 0]) (by simp [results, Tryz.results34, go_sem, r0, r1, r2, r3, r4]) rfl ?_
      exact ⟨0, 0, ⟨#[]⟩, none, 0, 0, none, 0, 0, rfl, null_rep _, hB3.out.trans (put5_below (by omega) _ _ _ _ _)⟩
    · have hlt := hid_e (bestT_lt (1) C N (Nat.le_of_eq hN.out.symm) (by rw [hN.out]; exact hN0))
      obtain ⟨j, hj⟩ : ∃ j, Hid (bestT (1) C N = j) := ⟨_, rfl⟩
      obtain ⟨u, hu⟩ : ∃ u, Hid (C[j]? = some u) := ⟨C[j]'(by rw [← hj.out]; exact hlt.out), List.getElem?_eq_getElem _⟩
      have hjN : Hid (j < N) := by have h := hlt; rw [hj.out, hN.out] at h; exact h
      obtain ⟨b, o, k1, x1, s1, an1, ln1, cn1, ai1, li1, ci1, ea, hlb, hc1, hv1⟩ := hL3.out.item hu.out
      subst ea
      obtain ⟨v0, v1, v2, v3, v4⟩ := cells5 hc1
      have hbl := hid_e hlb
      replace hv1 := hid_e hv1
      have hN1 : (0 : Int) < (N : Int) := by omega
      have hj0 : (0 : Int) ≤ (j : Int) := by omega
      have hj1 : (j : Int) < (N : Int) := by have := hjN.out; omega
      have hr5 := put5_cells g2.out (.int .i64 k1) (.int .i64 x1) (.string s1) (.slice an1 ln1 cn1) (.slice ai1 li1 ci1)
      have r0 := hid_e (hr5 0); have r1 := hid_e (hr5 1); have r2 := hid_e (hr5 2); have r3 := hid_e (hr5 3); have r4 := hid_e (hr5 4)
      clear hr5 hc1 hlb
      rw [hj.out]
      go_wp2_with fail
      have r0 := r0.out; have r1 := r1.out; have r2 := r2.out; have r3 := r3.out; have r4 := r4.out
      refine bodyPost_ret (v := .agg #[.int .i64 k1, .int .i64 x1, .string s1, .slice an1 ln1 cn1, .slice ai1 li1 ci1]) (by simp [results, Tryz.results34, go_sem, r0, r1, r2, r3, r4]) rfl ?_
      have hkey : keyL (sgB false) C = u := by unfold keyL; rw [hN.out, show sgB false = 1 from rfl, hj.out, hu.out]
      rw [hkey]
      have hBf := hB3.out.trans (put5_below (w := w3) (g := w.heap.size + 2) (B := w.heap.size) (by omega) (.int .i64 k1) (.int .i64 x1) (.string s1) (.slice an1 ln1 cn1) (.slice ai1 li1 ci1))
      exact ⟨k1, x1, s1, an1, ln1, cn1, ai1, li1, ci1, rfl, hv1.out, hBf⟩
  | true =>
    go_upto_region 5 with (go_at_call 57; refine (ogreatest_any a2 c2 N C _ hN.out (by have := hCl.out; omega) (hL3.out.list (hW0.out.trans (hB3.out.mono hW0.out.size))) hCs.out).mono ?_; rintro e w4 ⟨rfl, hb4⟩; have hX4 := hid_e (hX3.out.trans (hb4.mono hX3.out.size)); have hB4 := hid_e (hB3.out.trans (hb4.mono hB3.out.size)); have hL4 := hid_e (hL3.out.keep hb4); clear hb4 hX3 hB3 hL3 f0 t1)
    have g2 := hid_e (show w4.heap[w.heap.size + 2]? = some (.cells #[.int .i64 0, .int .i64 0, .string ⟨#[]⟩, .slice none 0 0, .slice none 0 0] 25) from by rw [hX4.out.block _ (by rw [hsz.out]; omega)]; exact n2.out)
    obtain ⟨z0, z1, z2, z3, z4, zf⟩ := row_cells g2.out
    have zf0 := zf 0; have zf1 := zf 1; have zf2 := zf 2; have zf3 := zf 3; have zf4 := zf 4
    clear zf
    rcases Nat.eq_zero_or_pos N with hN0 | hN0
    · subst hN0
      obtain rfl : C = [] := List.eq_nil_of_length_eq_zero hN.out
      have hr5 := put5_cells g2.out (.int .i64 0) (.int .i64 0) (.string ⟨#[]⟩) (.slice none 0 0) (.slice none 0 0)
      have r0 := hid_e (hr5 0); have r1 := hid_e (hr5 1); have r2 := hid_e (hr5 2); have r3 := hid_e (hr5 3); have r4 := hid_e (hr5 4)
      clear hr5
      go_wp2_with fail
      have r0 := r0.out; have r1 := r1.out; have r2 := r2.out; have r3 := r3.out; have r4 := r4.out
      refine bodyPost_ret (v := .agg #[.int .i64 0, .int .i64 0, .string ⟨#[]⟩, .slice none 0 0, .slice none 0 0]) (by simp [results, Tryz.results34, go_sem, r0, r1, r2, r3, r4]) rfl ?_
      exact ⟨0, 0, ⟨#[]⟩, none, 0, 0, none, 0, 0, rfl, null_rep _, hB4.out.trans (put5_below (by omega) _ _ _ _ _)⟩
    · have hlt := hid_e (bestT_lt (-1) C N (Nat.le_of_eq hN.out.symm) (by rw [hN.out]; exact hN0))
      obtain ⟨j, hj⟩ : ∃ j, Hid (bestT (-1) C N = j) := ⟨_, rfl⟩
      obtain ⟨u, hu⟩ : ∃ u, Hid (C[j]? = some u) := ⟨C[j]'(by rw [← hj.out]; exact hlt.out), List.getElem?_eq_getElem _⟩
      have hjN : Hid (j < N) := by have h := hlt; rw [hj.out, hN.out] at h; exact h
      obtain ⟨b, o, k1, x1, s1, an1, ln1, cn1, ai1, li1, ci1, ea, hlb, hc1, hv1⟩ := hL4.out.item hu.out
      subst ea
      obtain ⟨v0, v1, v2, v3, v4⟩ := cells5 hc1
      have hbl := hid_e hlb
      replace hv1 := hid_e hv1
      have hN1 : (0 : Int) < (N : Int) := by omega
      have hj0 : (0 : Int) ≤ (j : Int) := by omega
      have hj1 : (j : Int) < (N : Int) := by have := hjN.out; omega
      have hr5 := put5_cells g2.out (.int .i64 k1) (.int .i64 x1) (.string s1) (.slice an1 ln1 cn1) (.slice ai1 li1 ci1)
      have r0 := hid_e (hr5 0); have r1 := hid_e (hr5 1); have r2 := hid_e (hr5 2); have r3 := hid_e (hr5 3); have r4 := hid_e (hr5 4)
      clear hr5 hc1 hlb
      rw [hj.out]
      go_wp2_with fail
      have r0 := r0.out; have r1 := r1.out; have r2 := r2.out; have r3 := r3.out; have r4 := r4.out
      refine bodyPost_ret (v := .agg #[.int .i64 k1, .int .i64 x1, .string s1, .slice an1 ln1 cn1, .slice ai1 li1 ci1]) (by simp [results, Tryz.results34, go_sem, r0, r1, r2, r3, r4]) rfl ?_
      have hkey : keyL (sgB true) C = u := by unfold keyL; rw [hN.out, show sgB true = -1 from rfl, hj.out, hu.out]
      rw [hkey]
      have hBf := hB4.out.trans (put5_below (w := w4) (g := w.heap.size + 2) (B := w.heap.size) (by omega) (.int .i64 k1) (.int .i64 x1) (.string s1) (.slice an1 ln1 cn1) (.slice ai1 li1 ci1))
      exact ⟨k1, x1, s1, an1, ln1, cn1, ai1, li1, ci1, rfl, hv1.out, hBf⟩
end Go.Proofs.YtgigikcopedoeaaGreat.Tree
