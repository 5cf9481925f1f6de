import Derived.Test.YthgnkhpomhcdkaaGreatDoorEB
import Derived.Test.YthgnkhpomhcdkaaGreatDoorK0
/-! Equal of every two values. -/
namespace Go.Proofs.YthgnkhpomhcdkaaGreatDoor
open Go Go.RowKit

/-- Are two values the same? -/
noncomputable def eqT (t u : Tr) : Bool := @decide (t = u) (Classical.propDecidable _)
theorem itemsAt_keep {w w' : World} {ai : Option Addr} {its : List Tr} (h : ItemsAt' w ai its) (hb : Below w.heap.size w w') : ItemsAt' w' ai its := by
  rcases h with h | ⟨b, o, h1, h2, h3⟩
  · exact .inl h
  · exact .inr ⟨b, o, h1, Nat.lt_of_lt_of_le h2 hb.size, VRepL.keep hb h2 o its h3⟩
theorem eqT_true {t u : Tr} (h : t = u) : eqT t u = true := by unfold eqT; simpa using h
theorem eqT_false {t u : Tr} (h : t ≠ u) : eqT t u = false := by unfold eqT; simpa using h
theorem eqT_iff {t u : Tr} : eqT t u = true ↔ t = u := by unfold eqT; simp
noncomputable def eqL (t u : List Tr) : Bool := @decide (t = u) (Classical.propDecidable _)
theorem eqL_true {t u : List Tr} (h : t = u) : eqL t u = true := by unfold eqL; simpa using h
theorem eqL_false {t u : List Tr} (h : t ≠ u) : eqL t u = false := by unfold eqL; simpa using h

def EqOks (its its' : List Tr) : Prop := ∀ (i : Nat) (u v : Tr), its[i]? = some u → its'[i]? = some v → ∀ cs cs' w', VRep w' u cs → VRep w' v cs' → Calls Tryz.prog 21 #[.agg cs.toArray, .agg cs'.toArray] w' fun e w'' => e = .returned (.bool (eqT u v)) ∧ Below w'.heap.size w' w''
set_option maxHeartbeats 4000000 in
set_option maxRecDepth 100000 in
theorem feq_code (a : Option Addr) (c : Nat) (its : List Tr) (a' : Option Addr) (c' : Nat) (its' : List Tr) (w : World) (hm : its.length ≤ 9223372036854775806) (hL : Hid (ItemsAt' w a its)) (hL' : Hid (ItemsAt' w a' its')) (hI : Hid (EqOks its its')) :
    Calls Tryz.prog 31 #[.slice a its.length c, .slice a' its'.length c', .func (.func 21) #[] #[]] w fun e w' => e = .returned (.bool (eqL its its')) ∧ Below w.heap.size w w' := by
  obtain ⟨R, hR⟩ : ∃ R, Hid (eqL its its' = R) := ⟨_, hid_e rfl⟩
  rw [hR.out]
  by_cases hl : its.length = its'.length
  · have hlb : ((its.length : Int) != (its'.length : Int)) = false := by simp [hl]
    replace hl := hid_e hl
    go_enter Tryz.func31, Tryz.ntmps31
    go_wp2_with fail
    go_loopw [17] (fun i wr => ∃ q : Nat, q ≤ its.length ∧ i = .int .i64 q ∧ Below w.heap.size w wr ∧ Hid (its.take q = its'.take q)) (fun i _ => its.length - (intOf i).toNat)
    case atStart => exact ⟨0, Nat.zero_le _, rfl, Below.refl _ _, by simp [Hid]⟩
    case round =>
      obtain ⟨q, hq, rfl, HB, HT⟩ := hrel
      by_cases hlt : q < its.length
      · obtain ⟨u, hu⟩ : ∃ a, Hid (its[q]? = some a) := ⟨_, hid_e (List.getElem?_eq_getElem hlt)⟩
        obtain ⟨v, hv⟩ : ∃ a, Hid (its'[q]? = some a) := ⟨_, hid_e (List.getElem?_eq_getElem (by rw [← hl.out]; exact hlt))⟩
        obtain ⟨b, o, rfl, hb, hV⟩ := hL.out.resolve_left (by intro e; subst e; simp at hlt)
        obtain ⟨b', o', rfl, hb', hV'⟩ := hL'.out.resolve_left (by intro e; have h1 := hl.out; rw [e] at h1; simp only [List.length_nil] at h1; omega)
        obtain ⟨cs, hC, hr⟩ := VRepL.at its o q u hV hu.out
        obtain ⟨cs', hC', hr'⟩ := VRepL.at its' o' q v hV' hv.out
        obtain ⟨k1, x1, s1, an1, ln1, cn1, ai1, li1, ci1, rfl⟩ := vrep_five hr
        obtain ⟨k2, x2, s2, an2, ln2, cn2, ai2, li2, ci2, rfl⟩ := vrep_five hr'
        have y0 := stay HB (hC 0 _ rfl)
        have y1 := stay HB (hC 1 _ rfl)
        have y2 := stay HB (hC 2 _ rfl)
        have y3 := stay HB (hC 3 _ rfl)
        have y4 := stay HB (hC 4 _ rfl)
        have HCA := hid_e hC'
        simp only [Nat.add_zero] at y0
        have i1 : (q : Int) < (its.length : Int) := by omega
        have i3 : (q : Int) < (its'.length : Int) := by rw [← hl.out]; omega
        have hd : decide ((q : Int) < (its.length : Int)) = true := by simp; omega
        have hsz := HB.size
        clear hV hV' hC hC'
        go_upto_region 6 with fail
        have HB2 := HB.alloc hsz (.cells #[.int .i64 k1, .int .i64 x1, .string s1, .slice an1 ln1 cn1, .slice ai1 li1 ci1] 28)
        have hg := heap_alloc_new wr (.cells #[.int .i64 k1, .int .i64 x1, .string s1, .slice an1 ln1 cn1, .slice ai1 li1 ci1] 28)
        generalize hW2 : wr.alloc (.cells #[.int .i64 k1, .int .i64 x1, .string s1, .slice an1 ln1 cn1, .slice ai1 li1 ci1] 28) = W2 at HB2 hg ⊢
        clear y0 y1 y2 y3 y4
        have z0 := stay HB2 (HCA.out 0 _ rfl)
        have z1 := stay HB2 (HCA.out 1 _ rfl)
        have z2 := stay HB2 (HCA.out 2 _ rfl)
        have z3 := stay HB2 (HCA.out 3 _ rfl)
        have z4 := stay HB2 (HCA.out 4 _ rfl)
        simp only [Nat.add_zero] at z0
        have hs2 : wr.heap.size < W2.heap.size := by rw [← hW2, World.size_alloc]; omega
        clear hW2
        go_upto_region 7 with fail
        have HB3 := HB2.alloc HB2.size (.cells #[.int .i64 k2, .int .i64 x2, .string s2, .slice an2 ln2 cn2, .slice ai2 li2 ci2] 28)
        have hg2 := heap_alloc_new W2 (.cells #[.int .i64 k2, .int .i64 x2, .string s2, .slice an2 ln2 cn2, .slice ai2 li2 ci2] 28)
        have hg1 := (alloc_old (o := .cells #[.int .i64 k2, .int .i64 x2, .string s2, .slice an2 ln2 cn2, .slice ai2 li2 ci2] 28) hs2).trans hg
        generalize W2.alloc (.cells #[.int .i64 k2, .int .i64 x2, .string s2, .slice an2 ln2 cn2, .slice ai2 li2 ci2] 28) = W3 at HB3 hg1 hg2 ⊢
        clear z0 z1 z2 z3 z4 hg
        have hcall := hid_e (hI.out q u v hu.out hv.out _ _ W3 (VRep.keep HB3 _ _ hr) (VRep.keep HB3 _ _ hr'))
        obtain ⟨r, hr0⟩ : ∃ r, Hid (eqT u v = r) := ⟨_, hid_e rfl⟩
        rw [hr0.out] at hcall
        obtain ⟨e0, e1, e2, e3, e4, -⟩ := row_cells hg1
        obtain ⟨f0, f1, f2, f3, f4, -⟩ := row_cells hg2
        clear hr hr'
        go_wp2_with fail
        clear e0 e1 e2 e3 e4 f0 f1 f2 f3 f4
        go_fit hcall.out
        rintro e W4 ⟨rfl, hb4⟩
        have HB4 : Below w.heap.size w W4 := HB3.trans (hb4.mono HB3.size)
        clear hb4 hcall
        cases r
        · have hRf : R = false := by
            rw [← hR.out]
            refine eqL_false (fun e => ?_)
            have h1 := hu.out
            rw [e, hv.out] at h1
            have h2 := hr0.out
            rw [eqT_true (Option.some.inj h1).symm] at h2
            cases h2
          go_wp2_with fail
          go_ret
          exact ⟨ret_bool hRf.symm, HB4⟩
        · have HT' : Hid (its.take (q + 1) = its'.take (q + 1)) := by rw [Hid, List.take_add_one, List.take_add_one, hu.out, hv.out, HT.out, eqT_iff.1 hr0.out]
          go_wp2_with fail
          go_roundw
          case rel => exact ⟨q + 1, by omega, by go_num, HB4, HT'⟩
          case measure => simp [intOf]; omega
      · have hd : decide ((q : Int) < (its.length : Int)) = false := by simp; omega
        have hRt : R = true := by
          rw [← hR.out]
          refine eqL_true ?_
          have h1 := HT.out
          rwa [List.take_of_length_le (by omega), List.take_of_length_le (by rw [← hl.out]; omega)] at h1
        go_wp2_with fail
        go_ret
        exact ⟨ret_bool hRt.symm, HB⟩
  · have hlb : ((its.length : Int) == (its'.length : Int)) = false := by simp; omega
    have hRf : R = false := by
      rw [← hR.out]
      exact eqL_false (fun e => hl (by rw [e]))
    go_enter Tryz.func31, Tryz.ntmps31
    go_wp2_with fail
    go_ret
    exact ⟨ret_bool hRf.symm, Below.refl _ _⟩
end Go.Proofs.YthgnkhpomhcdkaaGreatDoor
/-! Equal of every two values: the walk down. -/
namespace Go.Proofs.YthgnkhpomhcdkaaGreatDoor
open Go Go.RowKit

set_option maxHeartbeats 4000000 in
set_option maxRecDepth 100000 in
theorem jeq_one (k x : Int) (s : ByteArray) (an : Option Addr) (cn : Nat) (ns : List ByteArray) (a : Option Addr) (c : Nat) (its : List Tr) (k' x' : Int) (s' : ByteArray) (an' : Option Addr) (cn' : Nat) (ns' : List ByteArray) (a' : Option Addr) (c' : Nat) (its' : List Tr) (w : World)
    (hm : its.length ≤ 9223372036854775806) (hnm : ns.length ≤ 9223372036854775806) (hN : Hid (Reads w (.slice an ns.length cn) ns)) (hN' : Hid (Reads w (.slice an' ns'.length cn') ns')) (hL : Hid (ItemsAt' w a its)) (hL' : Hid (ItemsAt' w a' its')) (hI : Hid (EqOks its its')) :
    Calls Tryz.prog 21 #[.agg #[.int .i64 k, .int .i64 x, .string s, .slice an ns.length cn, .slice a its.length c], .agg #[.int .i64 k', .int .i64 x', .string s', .slice an' ns'.length cn', .slice a' its'.length c']] w fun e w' => e = .returned (.bool (eqT (.node k x s ns its) (.node k' x' s' ns' its'))) ∧ Below w.heap.size w w' := by
  obtain ⟨R, hR⟩ : ∃ R, Hid (eqT (.node k x s ns its) (.node k' x' s' ns' its') = R) := ⟨_, hid_e rfl⟩
  rw [hR.out]
  have hF : Hid (¬ (k = k' ∧ x = x' ∧ s = s' ∧ ns = ns' ∧ its = its') → R = false) := fun h => by rw [← hR.out]; exact eqT_false (fun e => h (by injection e with e1 e2 e3 e4 e5; exact ⟨e1, e2, e3, e4, e5⟩))
  have hB2 : ∀ p q, Below w.heap.size w ((w.alloc p).alloc q) := fun p q => ((Below.refl _ w).alloc (Nat.le_refl _) p).alloc (by simp) q
  by_cases ek : k = k'
  rotate_left
  · have b1 : (k == k') = false := by simpa using ek
    obtain rfl : R = false := hF.out (fun h => ek h.1)
    clear hF hI hL hL' hN hN'
    go_enter Tryz.func21, Tryz.ntmps21
    go_wp2_with fail
    go_ret
    exact ⟨rfl, hB2 _ _⟩
  subst ek
  by_cases ex : x = x'
  rotate_left
  · have b1 : (x == x') = false := by simpa using ex
    obtain rfl : R = false := hF.out (fun h => ex h.2.1)
    clear hF hI hL hL' hN hN'
    go_enter Tryz.func21, Tryz.ntmps21
    go_wp2_with fail
    go_ret
    exact ⟨rfl, hB2 _ _⟩
  subst ex
  by_cases es : s = s'
  rotate_left
  · have b1 : (s.toList == s'.toList) = false := by rw [str_beq]; simpa using es
    obtain rfl : R = false := hF.out (fun h => es h.2.2.1)
    clear hF hI hL hL' hN hN'
    go_enter Tryz.func21, Tryz.ntmps21
    go_wp2_with fail
    go_ret
    exact ⟨rfl, hB2 _ _⟩
  subst es
  obtain ⟨N, hNd⟩ : ∃ z, Hid (decide (ns = ns') = z) := ⟨_, hid_e rfl⟩
  obtain ⟨M, hMd⟩ : ∃ z, Hid (eqL its its' = z) := ⟨_, hid_e rfl⟩
  have hc1 := fun p q => hid_e (seq_code an cn ns an' cn' ns' ((w.alloc p).alloc q) hnm (hid_e (hN.out.keep (hB2 p q))) (hid_e (hN'.out.keep (hB2 p q))))
  rw [hNd.out] at hc1
  have hc2 := fun w' hb => hid_e (feq_code a c its a' c' its' w' hm (hid_e (itemsAt_keep hL.out hb)) (hid_e (itemsAt_keep hL'.out hb)) hI)
  rw [hMd.out] at hc2
  clear hN hN' hL hL' hI
  go_enter Tryz.func21, Tryz.ntmps21
  go_wp2_with fail
  go_fit (hc1 _ _).out
  rintro e w1 ⟨rfl, hb1⟩
  have hbw1 := (hB2 _ _).trans (hb1.mono (hB2 _ _).size)
  have n1 := (hb1.block w.heap.size (by simp; omega)).trans (new1 w _ _)
  have n2 := (hb1.block (w.heap.size + 1) (by simp)).trans (new2 w _ _)
  clear hb1 hc1
  cases N
  · obtain rfl : R = false := hF.out (fun h => by have h1 := hNd.out; rw [decide_eq_true h.2.2.2.1] at h1; cases h1)
    go_wp2_with fail
    go_ret
    exact ⟨rfl, hbw1⟩
  obtain ⟨-, -, -, -, e4, -⟩ := row_cells n1
  obtain ⟨-, -, -, -, f4, -⟩ := row_cells n2
  have hc3 := hc2 w1 hbw1
  clear hc2
  go_wp2_with fail
  clear e4 f4
  go_fit hc3.out
  rintro e w2 ⟨rfl, hb2⟩
  have hbw2 := hbw1.trans (hb2.mono hbw1.size)
  clear hb2 hc3
  have hRM : R = M := by
    cases M
    · exact hF.out (fun h => by have h1 := hMd.out; rw [eqL_true h.2.2.2.2] at h1; cases h1)
    · have h1 := hMd.out
      unfold eqL at h1
      have h2 : its = its' := by simpa using h1
      have h3 : ns = ns' := by simpa using hNd.out
      rw [← hR.out, h2, h3]
      exact eqT_true rfl
  subst hRM
  go_wp2_with fail
  go_ret
  exact ⟨rfl, hbw2⟩

theorem jeq_any (t u : Tr) (cs cs' : List Value) (w : World) (hV : VRep w t cs) (hV' : VRep w u cs') (hS : SmallT t) :
    Calls Tryz.prog 21 #[.agg cs.toArray, .agg cs'.toArray] w fun e w' => e = .returned (.bool (eqT t u)) ∧ Below w.heap.size w w' := by
  match t, u, hV, hV', hS with
  | .node k x s ns its, .node k' x' s' ns' its', hV, hV', hS =>
    unfold VRep at hV hV'
    unfold SmallT at hS
    obtain ⟨nm, a, c, rfl, hn, hc, hI⟩ := hV
    obtain ⟨nm', a', c', rfl, hn', hc', hI'⟩ := hV'
    obtain ⟨an, cn, rfl, -, -⟩ := id hn
    obtain ⟨an', cn', rfl, -, -⟩ := id hn'
    obtain ⟨hs1, hs2, hs3, hs4, hs5⟩ := hS
    refine jeq_one k x s an cn ns a c its k' x' s' an' cn' ns' a' c' its' w (by omega) (by omega) (hid_e hn) (hid_e hn') (hid_e hI) (hid_e hI') (hid_e (fun i v v' hu hu' ds ds' w' h1 h2 => ?_))
    have hlt : SizeOf.sizeOf v < SizeOf.sizeOf its := tr_lt hu
    exact jeq_any v v' ds ds' w' h1 h2 (SmallL.at hs5 hu)
termination_by SizeOf.sizeOf t
decreasing_by simp only [Tr.node.sizeOf_spec]; omega
end Go.Proofs.YthgnkhpomhcdkaaGreatDoor
