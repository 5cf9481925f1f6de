import Derived.Test.YthijpmomcompaaaDoorM3
import Derived.Test.YthijpmomcompaaaDoorT1
import Derived.LoopN
/-! A list of Values copied; the document's least and greatest. -/
namespace Go.Proofs.YthijpmomcompaaaDoor
open Go Go.RowKit

/-- The place of the item over which none is chosen, among the first q. -/
def bestT (sg : Int) (its : List Tr) : Nat → Nat
  | 0 => 0
  | q + 1 => match its[q]?, its[bestT sg its q]? with
    | some u, some v => if sg * cmpT u v < 0 then q else bestT sg its q
    | _, _ => bestT sg its q
theorem bestT_le (sg : Int) (its : List Tr) : ∀ q, bestT sg its q ≤ q
  | 0 => Nat.le_refl _
  | q + 1 => by
    have := bestT_le sg its q
    unfold bestT
    split
    · split <;> omega
    · omega
theorem bestT_lt (sg : Int) (its : List Tr) (q : Nat) (h : q ≤ its.length) (h0 : 0 < its.length) : bestT sg its q < its.length := by
  induction q with
  | zero => exact h0
  | succ q ih =>
    have := ih (by omega)
    unfold bestT
    split
    · split <;> omega
    · omega
theorem bestT_step {sg : Int} {its : List Tr} {q : Nat} {u v : Tr} (hu : its[q]? = some u) (hv : its[bestT sg its q]? = some v) : bestT sg its (q + 1) = if sg * cmpT u v < 0 then q else bestT sg its q := by
  rw [bestT, hu, hv]
/-- An item of a list. -/
theorem ListAt.item {w : World} {a : Option Addr} {c : Nat} {its : List Tr} (h : ListAt w a c its) {q : Nat} {u : Tr} (hu : its[q]? = some u) : ∃ b o k x s an ln cn ai li ci, a = some ⟨b, o, none⟩ ∧ b < w.heap.size ∧ CellsAt w b (o + q * 5) (five k x s (.slice an ln cn) (.slice ai li ci)) ∧ VRep w u (five k x s (.slice an ln cn) (.slice ai li ci)) := by
  rcases h.2 with e | ⟨b, o, e, hl, hv⟩
  · subst e; simp at hu
  · obtain ⟨cs, h1, h2⟩ := VRepL.at its o q u hv hu
    obtain ⟨k, x, s, an, ln, cn, ai, li, ci, rfl⟩ := vrep_five h2
    exact ⟨b, o, k, x, s, an, ln, cn, ai, li, ci, e, hl, h1, h2⟩
theorem cells5 {w : World} {b o : Nat} {c0 c1 c2 c3 c4 : Value} (h : CellsAt w b o [c0, c1, c2, c3, c4]) : w.cell? ⟨b, o, none⟩ = some c0 ∧ w.cell? ⟨b, o + 1, none⟩ = some c1 ∧ w.cell? ⟨b, o + 2, none⟩ = some c2 ∧ w.cell? ⟨b, o + 3, none⟩ = some c3 ∧ w.cell? ⟨b, o + 4, none⟩ = some c4 := ⟨h 0 _ rfl, h 1 _ rfl, h 2 _ rfl, h 3 _ rfl, h 4 _ rfl⟩
set_option maxHeartbeats 4000000 in
set_option maxRecDepth 100000 in
theorem rleast_any (a : Option Addr) (c n : Nat) (its : List Tr) (w : World) (hn : its.length = n) (hnn : n ≤ 4611686018427387904) (hV : ListAt w a c its) (hS : SmallL its) :
    Calls Tryd.prog 8 #[.slice a n c] w fun e w' => e = .returned (.tuple #[.int .i64 (bestT (1) its n), .bool (decide (0 < n))]) ∧ Below w.heap.size w w' := by
  have n0 : (0 : Int) ≤ (n : Int) := by omega
  have n1 : (n : Int) ≤ 4611686018427387904 := by omega
  replace hn := hid_e hn
  replace hV := hid_e hV
  replace hS := hid_e hS
  go_enter Tryd.func8, Tryd.ntmps8
  go_wp2_with fail
  go_loopw [4, 5] (fun bv iv wr => ∃ q m : Nat, bv = .int .i64 m ∧ iv = .int .i64 q ∧ q ≤ n ∧ Hid (bestT (1) its q = m) ∧ Hid (Below w.heap.size w wr)) (fun _ iv _ => n - (intOf iv).toNat)
  case atStart => exact ⟨0, 0, rfl, rfl, Nat.zero_le _, rfl, Below.refl _ _⟩
  case round =>
    obtain ⟨q, m, rfl, rfl, hq, hm, hb⟩ := hrel
    by_cases hlt : q < n
    · have q1 : (q : Int) < (n : Int) := by omega
      have q0 : (0 : Int) ≤ (q : Int) := by omega
      have hml : m < n := by rw [← hm.out, ← hn.out]; exact bestT_lt _ its q (by rw [hn.out]; omega) (by rw [hn.out]; omega)
      have m1 : (m : Int) < (n : Int) := by omega
      have m0 : (0 : Int) ≤ (m : Int) := by omega
      obtain ⟨u, hu⟩ : ∃ u, Hid (its[q]? = some u) := ⟨its[q]'(by rw [hn.out]; omega), List.getElem?_eq_getElem (by rw [hn.out]; omega)⟩
      obtain ⟨v, hv⟩ : ∃ v, Hid (its[m]? = some v) := ⟨its[m]'(by rw [hn.out]; omega), List.getElem?_eq_getElem (by rw [hn.out]; omega)⟩
      have hVr := hV.out.keep hb.out
      obtain ⟨b, o, k1, x1, s1, an1, ln1, cn1, ai1, li1, ci1, ea, hlb, hc1, hv1⟩ := hVr.item hu.out
      obtain ⟨b', o', k2, x2, s2, an2, ln2, cn2, ai2, li2, ci2, ea', -, hc2, hv2⟩ := hVr.item hv.out
      subst ea
      cases ea'
      have call := hid_e (fun W (hW : Below wr.heap.size wr W) => rcompare_any u v _ _ W (VRep.keep hW _ _ hv1) (VRep.keep hW _ _ hv2) (SmallL.at hS.out hu.out) (SmallL.at hS.out hv.out))
      obtain ⟨x10, x11, x12, x13, x14⟩ := cells5 hc1
      obtain ⟨y10, y11, y12, y13, y14⟩ := cells5 hc2
      have hst : Hid (bestT (1) its (q + 1) = if (1) * cmpT u v < 0 then q else m) := by
        show _ = _
        rw [bestT_step hu.out (by rw [hm.out]; exact hv.out), hm.out]
      obtain ⟨C, hC⟩ : ∃ C, Hid (cmpT u v = C) := ⟨_, rfl⟩
      rw [hC.out] at hst
      simp only [hC.out] at call
      clear hVr hc1 hc2 hv1 hv2 hlb
      go_upto_region 5 with fail
      refine wp_region_quiet (C := fun w' => Below wr.heap.size wr w') (by kernel_rfl) (by kernel_rfl) (below_drewN (Below.refl _ _) 1) ?_
      with_reducible refine wpQuiet_step (fun K hK => ?_)
      refine ⟨.slice (some ⟨b, o, none⟩) n c, fun w' hw' => ?_, ?_⟩
      · first | (go_simp; done) | (go_simp; decide) | (go_simp; omega)
      with_reducible refine hK _ ?_
      clear hK K
      simp only [Act.put, List.setIfInBounds_toArray, List.set_cons_zero, List.set_cons_succ]
      with_reducible refine wpQuiet_step (fun K hK => ?_)
      refine ⟨.int .i64 q, fun w' hw' => ?_, ?_⟩
      · first | (go_simp; done) | (go_simp; decide) | (go_simp; omega)
      with_reducible refine hK _ ?_
      clear hK K
      simp only [Act.put, List.setIfInBounds_toArray, List.set_cons_zero, List.set_cons_succ]
      with_reducible refine wpQuiet_step (fun K hK => ?_)
      refine ⟨.pointer (some ⟨b, o + q * 5, none⟩), fun w' hw' => ?_, ?_⟩
      · first | (go_simp; done) | (go_simp; decide) | (go_simp; omega)
      with_reducible refine hK _ ?_
      clear hK K
      simp only [Act.put, List.setIfInBounds_toArray, List.set_cons_zero, List.set_cons_succ]
      with_reducible refine wpQuiet_step (fun K hK => ?_)
      refine ⟨.agg #[.int .i64 k1, .int .i64 x1, .string s1, .slice an1 ln1 cn1, .slice ai1 li1 ci1], fun w' hw' => ?_, ?_⟩
      · have t10 := stay hw' x10
        have t11 := stay hw' x11
        have t12 := stay hw' x12
        have t13 := stay hw' x13
        have t14 := stay hw' x14
        go_simp
      with_reducible refine hK _ ?_
      clear hK K
      simp only [Act.put, List.setIfInBounds_toArray, List.set_cons_zero, List.set_cons_succ]
      with_reducible refine wpQuiet_step (fun K hK => ?_)
      refine ⟨.slice (some ⟨b, o, none⟩) n c, fun w' hw' => ?_, ?_⟩
      · first | (go_simp; done) | (go_simp; decide) | (go_simp; omega)
      with_reducible refine hK _ ?_
      clear hK K
      simp only [Act.put, List.setIfInBounds_toArray, List.set_cons_zero, List.set_cons_succ]
      with_reducible refine wpQuiet_step (fun K hK => ?_)
      refine ⟨.int .i64 m, fun w' hw' => ?_, ?_⟩
      · first | (go_simp; done) | (go_simp; decide) | (go_simp; omega)
      with_reducible refine hK _ ?_
      clear hK K
      simp only [Act.put, List.setIfInBounds_toArray, List.set_cons_zero, List.set_cons_succ]
      with_reducible refine wpQuiet_step (fun K hK => ?_)
      refine ⟨.pointer (some ⟨b, o + m * 5, none⟩), fun w' hw' => ?_, ?_⟩
      · first | (go_simp; done) | (go_simp; decide) | (go_simp; omega)
      with_reducible refine hK _ ?_
      clear hK K
      simp only [Act.put, List.setIfInBounds_toArray, List.set_cons_zero, List.set_cons_succ]
      with_reducible refine wpQuiet_step (fun K hK => ?_)
      refine ⟨.agg #[.int .i64 k2, .int .i64 x2, .string s2, .slice an2 ln2 cn2, .slice ai2 li2 ci2], fun w' hw' => ?_, ?_⟩
      · have t10 := stay hw' y10
        have t11 := stay hw' y11
        have t12 := stay hw' y12
        have t13 := stay hw' y13
        have t14 := stay hw' y14
        go_simp
      with_reducible refine hK _ ?_
      clear hK K
      simp only [Act.put, List.setIfInBounds_toArray, List.set_cons_zero, List.set_cons_succ]
      with_reducible refine wpQuiet_step (fun K hK => ?_)
      refine ⟨.int .i64 C, fun w' hw' => ?_, ?_⟩
      · go_simp
        refine (call.out w' hw').mono ?_
        rintro e w'' ⟨rfl, hb'⟩
        exact ⟨rfl, hw'.trans (hb'.mono hw'.size)⟩
      with_reducible refine hK _ ?_
      clear hK K
      simp only [Act.put, List.setIfInBounds_toArray, List.set_cons_zero, List.set_cons_succ]
      by_cases hz : C < 0
      · with_reducible refine wpQuiet_step (fun K hK => ?_)
        refine ⟨.bool true, fun w' hw' => ?_, ?_⟩
        · first | (go_simp; done) | (go_simp; decide) | (go_simp; omega)
        with_reducible refine hK _ ?_
        clear hK K
        simp only [Act.put, List.setIfInBounds_toArray, List.set_cons_zero, List.set_cons_succ]
        refine wpQuiet_nil ?_
        intro X1 hX1
        have hb' := hid_e (hb.out.trans (hX1.mono hb.out.size))
        rw [if_pos (by omega)] at hst
        clear x10 x11 x12 x13 x14 y10 y11 y12 y13 y14 call hb hX1 hz
        go_wp2_with fail
        exact ⟨⟨q + 1, q, rfl, by go_num, by omega, hst, hb'⟩, by simp [intOf]; omega⟩
      · with_reducible refine wpQuiet_step (fun K hK => ?_)
        refine ⟨.bool false, fun w' hw' => ?_, ?_⟩
        · first | (go_simp; done) | (go_simp; decide) | (go_simp; omega)
        with_reducible refine hK _ ?_
        clear hK K
        simp only [Act.put, List.setIfInBounds_toArray, List.set_cons_zero, List.set_cons_succ]
        refine wpQuiet_nil ?_
        intro X1 hX1
        have hb' := hid_e (hb.out.trans (hX1.mono hb.out.size))
        rw [if_neg (by omega)] at hst
        clear x10 x11 x12 x13 x14 y10 y11 y12 y13 y14 call hb hX1 hz
        go_wp2_with fail
        exact ⟨⟨q + 1, m, rfl, by go_num, by omega, hst, hb'⟩, by simp [intOf]; omega⟩
    · obtain rfl : q = n := by omega
      have q1 : ¬ (q : Int) < (q : Int) := by omega
      have hd : Hid (decide ((0 : Int) < (q : Int)) = decide (0 < q)) := by show decide _ = decide _; congr 1; simp
      clear hlt
      go_wp2_with fail
      go_ret2
      rw [hm.out]
      exact ⟨by first | rfl | (rw [hd.out]), hb.out⟩
set_option maxHeartbeats 4000000 in
set_option maxRecDepth 100000 in
theorem rgreatest_any (a : Option Addr) (c n : Nat) (its : List Tr) (w : World) (hn : its.length = n) (hnn : n ≤ 4611686018427387904) (hV : ListAt w a c its) (hS : SmallL its) :
    Calls Tryd.prog 9 #[.slice a n c] w fun e w' => e = .returned (.tuple #[.int .i64 (bestT (-1) its n), .bool (decide (0 < n))]) ∧ Below w.heap.size w w' := by
  have n0 : (0 : Int) ≤ (n : Int) := by omega
  have n1 : (n : Int) ≤ 4611686018427387904 := by omega
  replace hn := hid_e hn
  replace hV := hid_e hV
  replace hS := hid_e hS
  go_enter Tryd.func9, Tryd.ntmps9
  go_wp2_with fail
  go_loopw [4, 5] (fun bv iv wr => ∃ q m : Nat, bv = .int .i64 m ∧ iv = .int .i64 q ∧ q ≤ n ∧ Hid (bestT (-1) its q = m) ∧ Hid (Below w.heap.size w wr)) (fun _ iv _ => n - (intOf iv).toNat)
  case atStart => exact ⟨0, 0, rfl, rfl, Nat.zero_le _, rfl, Below.refl _ _⟩
  case round =>
    obtain ⟨q, m, rfl, rfl, hq, hm, hb⟩ := hrel
    by_cases hlt : q < n
    · have q1 : (q : Int) < (n : Int) := by omega
      have q0 : (0 : Int) ≤ (q : Int) := by omega
      have hml : m < n := by rw [← hm.out, ← hn.out]; exact bestT_lt _ its q (by rw [hn.out]; omega) (by rw [hn.out]; omega)
      have m1 : (m : Int) < (n : Int) := by omega
      have m0 : (0 : Int) ≤ (m : Int) := by omega
      obtain ⟨u, hu⟩ : ∃ u, Hid (its[q]? = some u) := ⟨its[q]'(by rw [hn.out]; omega), List.getElem?_eq_getElem (by rw [hn.out]; omega)⟩
      obtain ⟨v, hv⟩ : ∃ v, Hid (its[m]? = some v) := ⟨its[m]'(by rw [hn.out]; omega), List.getElem?_eq_getElem (by rw [hn.out]; omega)⟩
      have hVr := hV.out.keep hb.out
      obtain ⟨b, o, k1, x1, s1, an1, ln1, cn1, ai1, li1, ci1, ea, hlb, hc1, hv1⟩ := hVr.item hu.out
      obtain ⟨b', o', k2, x2, s2, an2, ln2, cn2, ai2, li2, ci2, ea', -, hc2, hv2⟩ := hVr.item hv.out
      subst ea
      cases ea'
      have call := hid_e (fun W (hW : Below wr.heap.size wr W) => rcompare_any u v _ _ W (VRep.keep hW _ _ hv1) (VRep.keep hW _ _ hv2) (SmallL.at hS.out hu.out) (SmallL.at hS.out hv.out))
      obtain ⟨x10, x11, x12, x13, x14⟩ := cells5 hc1
      obtain ⟨y10, y11, y12, y13, y14⟩ := cells5 hc2
      have hst : Hid (bestT (-1) its (q + 1) = if (-1) * cmpT u v < 0 then q else m) := by
        show _ = _
        rw [bestT_step hu.out (by rw [hm.out]; exact hv.out), hm.out]
      obtain ⟨C, hC⟩ : ∃ C, Hid (cmpT u v = C) := ⟨_, rfl⟩
      rw [hC.out] at hst
      simp only [hC.out] at call
      clear hVr hc1 hc2 hv1 hv2 hlb
      go_upto_region 5 with fail
      refine wp_region_quiet (C := fun w' => Below wr.heap.size wr w') (by kernel_rfl) (by kernel_rfl) (below_drewN (Below.refl _ _) 1) ?_
      with_reducible refine wpQuiet_step (fun K hK => ?_)
      refine ⟨.slice (some ⟨b, o, none⟩) n c, fun w' hw' => ?_, ?_⟩
      · first | (go_simp; done) | (go_simp; decide) | (go_simp; omega)
      with_reducible refine hK _ ?_
      clear hK K
      simp only [Act.put, List.setIfInBounds_toArray, List.set_cons_zero, List.set_cons_succ]
      with_reducible refine wpQuiet_step (fun K hK => ?_)
      refine ⟨.int .i64 q, fun w' hw' => ?_, ?_⟩
      · first | (go_simp; done) | (go_simp; decide) | (go_simp; omega)
      with_reducible refine hK _ ?_
      clear hK K
      simp only [Act.put, List.setIfInBounds_toArray, List.set_cons_zero, List.set_cons_succ]
      with_reducible refine wpQuiet_step (fun K hK => ?_)
      refine ⟨.pointer (some ⟨b, o + q * 5, none⟩), fun w' hw' => ?_, ?_⟩
      · first | (go_simp; done) | (go_simp; decide) | (go_simp; omega)
      with_reducible refine hK _ ?_
      clear hK K
      simp only [Act.put, List.setIfInBounds_toArray, List.set_cons_zero, List.set_cons_succ]
      with_reducible refine wpQuiet_step (fun K hK => ?_)
      refine ⟨.agg #[.int .i64 k1, .int .i64 x1, .string s1, .slice an1 ln1 cn1, .slice ai1 li1 ci1], fun w' hw' => ?_, ?_⟩
      · have t10 := stay hw' x10
        have t11 := stay hw' x11
        have t12 := stay hw' x12
        have t13 := stay hw' x13
        have t14 := stay hw' x14
        go_simp
      with_reducible refine hK _ ?_
      clear hK K
      simp only [Act.put, List.setIfInBounds_toArray, List.set_cons_zero, List.set_cons_succ]
      with_reducible refine wpQuiet_step (fun K hK => ?_)
      refine ⟨.slice (some ⟨b, o, none⟩) n c, fun w' hw' => ?_, ?_⟩
      · first | (go_simp; done) | (go_simp; decide) | (go_simp; omega)
      with_reducible refine hK _ ?_
      clear hK K
      simp only [Act.put, List.setIfInBounds_toArray, List.set_cons_zero, List.set_cons_succ]
      with_reducible refine wpQuiet_step (fun K hK => ?_)
      refine ⟨.int .i64 m, fun w' hw' => ?_, ?_⟩
      · first | (go_simp; done) | (go_simp; decide) | (go_simp; omega)
      with_reducible refine hK _ ?_
      clear hK K
      simp only [Act.put, List.setIfInBounds_toArray, List.set_cons_zero, List.set_cons_succ]
      with_reducible refine wpQuiet_step (fun K hK => ?_)
      refine ⟨.pointer (some ⟨b, o + m * 5, none⟩), fun w' hw' => ?_, ?_⟩
      · first | (go_simp; done) | (go_simp; decide) | (go_simp; omega)
      with_reducible refine hK _ ?_
      clear hK K
      simp only [Act.put, List.setIfInBounds_toArray, List.set_cons_zero, List.set_cons_succ]
      with_reducible refine wpQuiet_step (fun K hK => ?_)
      refine ⟨.agg #[.int .i64 k2, .int .i64 x2, .string s2, .slice an2 ln2 cn2, .slice ai2 li2 ci2], fun w' hw' => ?_, ?_⟩
      · have t10 := stay hw' y10
        have t11 := stay hw' y11
        have t12 := stay hw' y12
        have t13 := stay hw' y13
        have t14 := stay hw' y14
        go_simp
      with_reducible refine hK _ ?_
      clear hK K
      simp only [Act.put, List.setIfInBounds_toArray, List.set_cons_zero, List.set_cons_succ]
      with_reducible refine wpQuiet_step (fun K hK => ?_)
      refine ⟨.int .i64 C, fun w' hw' => ?_, ?_⟩
      · go_simp
        refine (call.out w' hw').mono ?_
        rintro e w'' ⟨rfl, hb'⟩
        exact ⟨rfl, hw'.trans (hb'.mono hw'.size)⟩
      with_reducible refine hK _ ?_
      clear hK K
      simp only [Act.put, List.setIfInBounds_toArray, List.set_cons_zero, List.set_cons_succ]
      by_cases hz : C > 0
      · with_reducible refine wpQuiet_step (fun K hK => ?_)
        refine ⟨.bool true, fun w' hw' => ?_, ?_⟩
        · first | (go_simp; done) | (go_simp; decide) | (go_simp; omega)
        with_reducible refine hK _ ?_
        clear hK K
        simp only [Act.put, List.setIfInBounds_toArray, List.set_cons_zero, List.set_cons_succ]
        refine wpQuiet_nil ?_
        intro X1 hX1
        have hb' := hid_e (hb.out.trans (hX1.mono hb.out.size))
        rw [if_pos (by omega)] at hst
        clear x10 x11 x12 x13 x14 y10 y11 y12 y13 y14 call hb hX1 hz
        go_wp2_with fail
        exact ⟨⟨q + 1, q, rfl, by go_num, by omega, hst, hb'⟩, by simp [intOf]; omega⟩
      · with_reducible refine wpQuiet_step (fun K hK => ?_)
        refine ⟨.bool false, fun w' hw' => ?_, ?_⟩
        · first | (go_simp; done) | (go_simp; decide) | (go_simp; omega)
        with_reducible refine hK _ ?_
        clear hK K
        simp only [Act.put, List.setIfInBounds_toArray, List.set_cons_zero, List.set_cons_succ]
        refine wpQuiet_nil ?_
        intro X1 hX1
        have hb' := hid_e (hb.out.trans (hX1.mono hb.out.size))
        rw [if_neg (by omega)] at hst
        clear x10 x11 x12 x13 x14 y10 y11 y12 y13 y14 call hb hX1 hz
        go_wp2_with fail
        exact ⟨⟨q + 1, m, rfl, by go_num, by omega, hst, hb'⟩, by simp [intOf]; omega⟩
    · obtain rfl : q = n := by omega
      have q1 : ¬ (q : Int) < (q : Int) := by omega
      have hd : Hid (decide ((0 : Int) < (q : Int)) = decide (0 < q)) := by show decide _ = decide _; congr 1; simp
      clear hlt
      go_wp2_with fail
      go_ret2
      rw [hm.out]
      exact ⟨by first | rfl | (rw [hd.out]), hb.out⟩
end Go.Proofs.YthijpmomcompaaaDoor
