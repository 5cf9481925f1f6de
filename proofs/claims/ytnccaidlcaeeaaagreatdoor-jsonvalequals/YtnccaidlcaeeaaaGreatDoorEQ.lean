import Derived.Test.YtnccaidlcaeeaaaGreatDoorJ3
/-! Equal of every two values. -/
namespace Go.Proofs.YtnccaidlcaeeaaaGreatDoor.Tree
open Go Go.RowKit

def EqOk (its its' : List Tr) : Prop := ∀ (i : Nat) (u v : Tr), its[i]? = some u → its'[i]? = some v → ∀ cs cs' w', VRep w' u cs → VRep w' v cs' → Calls Tryz.prog 8 #[.agg cs.toArray, .agg cs'.toArray] w' fun e w'' => e = .returned (.bool (eqT u v)) ∧ Below w'.heap.size w' w''
set_option maxHeartbeats 1600000 in
set_option maxRecDepth 100000 in
theorem equal_one (k x : Int) (s : ByteArray) (an : Option Addr) (cn : Nat) (ns : List ByteArray) (a : Option Addr) (c : Nat) (its : List Tr) (k' x' : Int) (s' : ByteArray) (an' : Option Addr) (cn' : Nat) (ns' : List ByteArray) (a' : Option Addr) (c' : Nat) (its' : List Tr) (w : World)
    (hM : its.length ≤ 9223372036854775806) (hnm : ns.length ≤ 9223372036854775806) (hN : Hid (Reads w (.slice an ns.length cn) ns)) (hN' : Hid (Reads w (.slice an' ns'.length cn') ns')) (hL : Hid (ItemsAt' w a its)) (hL' : Hid (ItemsAt' w a' its')) (hI : Hid (EqOk its its')) :
    Calls Tryz.prog 8 #[.agg #[.int .i64 k, .int .i64 x, .string s, .slice an ns.length cn, .slice a its.length c], .agg #[.int .i64 k', .int .i64 x', .string s', .slice an' ns'.length cn', .slice a' its'.length c']] w fun e w' => e = .returned (.bool (eqT (.node k x s ns its) (.node k' x' s' ns' its'))) ∧ Below w.heap.size w w' := by
  obtain ⟨R, hR⟩ : ∃ R, Hid (eqT (.node k x s ns its) (.node k' x' s' ns' its') = R) := ⟨_, rfl⟩
  rw [hR.out]
  have hF : Hid (¬ (k = k' ∧ x = x' ∧ s = s' ∧ ns = ns' ∧ its = its') → R = false) := fun h => by rw [← hR.out]; exact eqT_false (fun e => h (by injection e with e1 e2 e3 e4 e5; exact ⟨e1, e2, e3, e4, e5⟩))
  have hB2 : ∀ p q, Below w.heap.size w ((w.alloc p).alloc q) := fun p q => ((Below.refl _ w).alloc (Nat.le_refl _) p).alloc (by simp) q
  by_cases ek : k = k'
  rotate_left
  · have b1 : (k == k') = false := by simpa using ek
    obtain rfl : R = false := hF.out (fun h => ek h.1)
    clear hF hI hL hL' hN hN'
    go_enter Tryz.func8, Tryz.ntmps8
    go_wp2_with fail
    go_ret
    exact ⟨rfl, hB2 _ _⟩
  subst ek
  by_cases ex : x = x'
  rotate_left
  · have b1 : (x == x') = false := by simpa using ex
    obtain rfl : R = false := hF.out (fun h => ex h.2.1)
    clear hF hI hL hL' hN hN'
    go_enter Tryz.func8, Tryz.ntmps8
    go_wp2_with fail
    go_ret
    exact ⟨rfl, hB2 _ _⟩
  subst ex
  by_cases es : s = s'
  rotate_left
  · have b1 : (s.toList == s'.toList) = false := by rw [str_beq]; simpa using es
    obtain rfl : R = false := hF.out (fun h => es h.2.2.1)
    clear hF hI hL hL' hN hN'
    go_enter Tryz.func8, Tryz.ntmps8
    go_wp2_with fail
    go_ret
    exact ⟨rfl, hB2 _ _⟩
  subst es
  by_cases en : ns.length = ns'.length
  rotate_left
  · have b1 : (((ns.length : Nat) : Int) == (ns'.length : Int)) = false := by simp; omega
    obtain rfl : R = false := hF.out (fun h => en (by rw [h.2.2.2.1]))
    clear hF hI hL hL' hN hN'
    go_enter Tryz.func8, Tryz.ntmps8
    go_wp2_with fail
    go_ret
    exact ⟨rfl, hB2 _ _⟩
  by_cases ei : its.length = its'.length
  rotate_left
  · have b0 : (((ns.length : Nat) : Int) == (ns'.length : Int)) = true := by simp; omega
    have b1 : (((its.length : Nat) : Int) == (its'.length : Int)) = false := by simp; omega
    obtain rfl : R = false := hF.out (fun h => ei (by rw [h.2.2.2.2]))
    clear hF hI hL hL' hN hN'
    go_enter Tryz.func8, Tryz.ntmps8
    go_wp2_with fail
    go_ret
    exact ⟨rfl, hB2 _ _⟩
  have hA' : Hid (ns' = [] ∨ ∃ b o, an' = some ⟨b, o, none⟩ ∧ b < w.heap.size ∧ ∀ j s, ns'[j]? = some s → w.cell? ⟨b, o + j, none⟩ = some (.string s)) := by
    obtain ⟨_, _, e, _, hRd⟩ := hN'.out
    cases e
    exact hRd
  clear hN'
  rw [← en, ← ei]
  replace en := hid_e en
  replace ei := hid_e ei
  go_enter Tryz.func8, Tryz.ntmps8
  go_wp2_with fail
  go_loopw [5] (fun i wr => ∃ q : Nat, q ≤ ns.length ∧ i = .int .i64 q ∧ Below w.heap.size w wr ∧ wr.heap[w.heap.size]? = some (.cells #[.int .i64 k, .int .i64 x, .string s, .slice an ns.length cn, .slice a its.length c] 25 (0, 0)) ∧ wr.heap[w.heap.size + 1]? = some (.cells #[.int .i64 k, .int .i64 x, .string s, .slice an' ns.length cn', .slice a' its.length c'] 25 (0, 0)) ∧ Hid (∀ j, j < q → ns[j]? = ns'[j]?)) (fun i _ => ns.length - (intOf i).toNat)
  case atStart => exact ⟨0, Nat.zero_le _, rfl, hB2 _ _, new1 w _ _, new2 w _ _, fun j h => by omega⟩
  case round =>
    clear hB2
    obtain ⟨q, hq, rfl, HB, h0, h1, hE⟩ := hrel
    obtain ⟨-, -, -, y3, y4, -⟩ := row_cells h0
    obtain ⟨-, -, -, z3, -, -⟩ := row_cells h1
    by_cases hlt : q < ns.length
    · have hlt' : q < ns'.length := by have := en.out; omega
      obtain ⟨n, hn⟩ : ∃ n, Hid (ns[q]? = some n) := ⟨_, List.getElem?_eq_getElem hlt⟩
      obtain ⟨n', hn'⟩ : ∃ n, Hid (ns'[q]? = some n) := ⟨_, List.getElem?_eq_getElem hlt'⟩
      obtain ⟨_, _, e, _, hRd⟩ := hN.out
      cases e
      obtain ⟨gn, on, rfl, _, hRd⟩ := hRd.resolve_left (by intro e; subst e; simp at hlt)
      have c1 := stay HB (hRd q n hn.out)
      clear hRd
      obtain ⟨gn', on', rfl, _, hRd⟩ := hA'.out.resolve_left (by intro e; subst e; simp at hlt')
      have c2 := stay HB (hRd q n' hn'.out)
      clear hRd
      have hd : decide ((q : Int) < (ns.length : Int)) = true := by simp; omega
      have i1 : (q : Int) < (ns.length : Int) := by omega
      have i2 : (q : Int) < (ns'.length : Int) := by omega
      have i3 : (0 : Int) ≤ (q : Int) := by omega
      by_cases ee : n = n'
      · subst ee
        clear y4
        go_wp2_with fail
        go_quiet (fail)
        go_wp2_with fail
        go_roundw
        case rel => exact ⟨q + 1, by omega, by simp, below_drewN HB nq, h0, h1, fun j h => by
            by_cases ej : j = q
            · subst ej; rw [hn.out, hn'.out]
            · exact hE.out j (by omega)⟩
        case measure => simp [intOf]; omega
      · have bb : (n.toList == n'.toList) = false := by rw [str_beq]; simpa using ee
        obtain rfl : R = false := hF.out (fun h => ee (by have e := h.2.2.2.1; rw [e, hn'.out] at hn; exact (Option.some.inj hn.out).symm))
        clear y4
        go_wp2_with fail
        go_quiet (fail)
        go_wp2_with fail
        go_ret
        exact ⟨rfl, below_drewN HB nq⟩
    · have hd : decide ((q : Int) < (ns.length : Int)) = false := by simp; omega
      clear z3 y4
      have hns : Hid (ns = ns') := List.ext_getElem? (fun j => by
        by_cases hj : j < q
        · exact hE.out j hj
        · rw [List.getElem?_eq_none (by omega), List.getElem?_eq_none (by have := en.out; omega)])
      clear hE
      go_wp2_with fail
      clear y3
      go_loopw [6] (fun i wr => ∃ p : Nat, p ≤ its.length ∧ i = .int .i64 p ∧ Below w.heap.size w wr ∧ wr.heap[w.heap.size]? = some (.cells #[.int .i64 k, .int .i64 x, .string s, .slice an ns.length cn, .slice a its.length c] 25 (0, 0)) ∧ wr.heap[w.heap.size + 1]? = some (.cells #[.int .i64 k, .int .i64 x, .string s, .slice an' ns.length cn', .slice a' its.length c'] 25 (0, 0)) ∧ Hid (∀ j, j < p → its[j]? = its'[j]?)) (fun i _ => its.length - (intOf i).toNat)
      case atStart => exact ⟨0, Nat.zero_le _, rfl, HB, h0, h1, fun j h => by omega⟩
      case round =>
        clear HB h0 h1
        obtain ⟨p, hp, rfl, HB, h0, h1, hE⟩ := hrel
        obtain ⟨-, -, -, -, y4, -⟩ := row_cells h0
        obtain ⟨-, -, -, -, z4, -⟩ := row_cells h1
        by_cases hlt2 : p < its.length
        · have hlt3 : p < its'.length := by have := ei.out; omega
          obtain ⟨u, hu⟩ : ∃ u, Hid (its[p]? = some u) := ⟨_, List.getElem?_eq_getElem hlt2⟩
          obtain ⟨v, hv⟩ : ∃ v, Hid (its'[p]? = some v) := ⟨_, List.getElem?_eq_getElem hlt3⟩
          obtain ⟨b, o, rfl, hb, hV⟩ := hL.out.resolve_left (by intro e; subst e; simp at hlt2)
          obtain ⟨cs, hC, hr⟩ := VRepL.at its o p u hV hu.out
          obtain ⟨k2, x2, s2, an2, ln2, cn2, ai2, li2, ci2, rfl⟩ := vrep_five hr
          obtain ⟨b', o', rfl, hb', hV'⟩ := hL'.out.resolve_left (by intro e; subst e; simp at hlt3)
          obtain ⟨cs', hC', hr'⟩ := VRepL.at its' o' p v hV' hv.out
          obtain ⟨k3, x3, s3, an3, ln3, cn3, ai3, li3, ci3, rfl⟩ := vrep_five hr'
          have p0 := stay HB (hC 0 _ rfl)
          have r0 := stay HB (hC' 0 _ rfl)
          have p1 := stay HB (hC 1 _ rfl)
          have r1 := stay HB (hC' 1 _ rfl)
          have p2 := stay HB (hC 2 _ rfl)
          have r2 := stay HB (hC' 2 _ rfl)
          have p3 := stay HB (hC 3 _ rfl)
          have r3 := stay HB (hC' 3 _ rfl)
          have p4 := stay HB (hC 4 _ rfl)
          have r4 := stay HB (hC' 4 _ rfl)
          simp only [Nat.add_zero] at p0 r0
          have hcall := hid_e (fun W (hW : Below w.heap.size w W) => hI.out p u v hu.out hv.out _ _ W (VRep.keep hW _ _ hr) (VRep.keep hW _ _ hr'))
          obtain ⟨z, hz⟩ : ∃ z, Hid (eqT u v = z) := ⟨_, rfl⟩
          rw [hz.out] at hcall
          clear hV hV' hC hC' hr hr'
          have hd2 : decide ((p : Int) < (its.length : Int)) = true := by simp; omega
          have i1 : (p : Int) < (its.length : Int) := by omega
          have i2 : (p : Int) < (its'.length : Int) := by omega
          have i3 : (0 : Int) ≤ (p : Int) := by omega
          go_wp2_with fail
          refine wp_region_quiet (C := fun w' => Below wr.heap.size wr w') (by kernel_rfl) (by kernel_rfl) (below_drewN (Below.refl _ _) 1) ?_
          refine wpQuiet_step (fun K hK => ?_)
          go_simp
          refine ⟨_, fun _ _ => rfl, hK _ ?_⟩
          clear hK K
          refine wpQuiet_step (fun K hK => ?_)
          refine ⟨.slice (some ⟨b, o, none⟩) its.length c, fun w' hw' => ?_, hK _ ?_⟩
          · have t0 := stay hw' y4
            go_simp
          clear hK K
          refine wpQuiet_step (fun K hK => ?_)
          go_simp
          refine ⟨_, fun _ _ => rfl, hK _ ?_⟩
          clear hK K
          refine wpQuiet_step (fun K hK => ?_)
          go_simp
          refine ⟨_, fun _ _ => rfl, hK _ ?_⟩
          clear hK K
          refine wpQuiet_step (fun K hK => ?_)
          refine ⟨.agg #[.int .i64 k2, .int .i64 x2, .string s2, .slice an2 ln2 cn2, .slice ai2 li2 ci2], fun w' hw' => ?_, hK _ ?_⟩
          · have t0 := stay hw' p0
            have t1 := stay hw' p1
            have t2 := stay hw' p2
            have t3 := stay hw' p3
            have t4 := stay hw' p4
            go_simp
          clear hK K
          refine wpQuiet_step (fun K hK => ?_)
          go_simp
          refine ⟨_, fun _ _ => rfl, hK _ ?_⟩
          clear hK K
          refine wpQuiet_step (fun K hK => ?_)
          refine ⟨.slice (some ⟨b', o', none⟩) its.length c', fun w' hw' => ?_, hK _ ?_⟩
          · have t0 := stay hw' z4
            go_simp
          clear hK K
          refine wpQuiet_step (fun K hK => ?_)
          go_simp
          refine ⟨_, fun _ _ => rfl, hK _ ?_⟩
          clear hK K
          refine wpQuiet_step (fun K hK => ?_)
          go_simp
          refine ⟨_, fun _ _ => rfl, hK _ ?_⟩
          clear hK K
          refine wpQuiet_step (fun K hK => ?_)
          refine ⟨.agg #[.int .i64 k3, .int .i64 x3, .string s3, .slice an3 ln3 cn3, .slice ai3 li3 ci3], fun w' hw' => ?_, hK _ ?_⟩
          · have t0 := stay hw' r0
            have t1 := stay hw' r1
            have t2 := stay hw' r2
            have t3 := stay hw' r3
            have t4 := stay hw' r4
            go_simp
          clear hK K
          refine wpQuiet_step (fun K hK => ?_)
          refine ⟨.bool z, fun w' hw' => ?_, hK _ ?_⟩
          · go_simp
            refine (hcall.out w' (HB.trans (hw'.mono HB.size))).mono ?_
            rintro e w'' ⟨rfl, hb⟩
            exact ⟨rfl, hw'.trans (hb.mono hw'.size)⟩
          clear hK K
          refine wpQuiet_step (fun K hK => ?_)
          go_simp
          refine ⟨_, fun _ _ => rfl, hK _ ?_⟩
          clear hK K
          refine wpQuiet_nil ?_
          intro Y2 hY2
          have HB2 : Below w.heap.size w Y2 := HB.trans (hY2.mono HB.size)
          have h02 := (hY2.block _ (Array.getElem?_eq_some_iff.1 h0).1).trans h0
          have h12 := (hY2.block _ (Array.getElem?_eq_some_iff.1 h1).1).trans h1
          clear hY2 HB h0 h1 y4 z4 p0 p1 p2 p3 p4 r0 r1 r2 r3 r4 hcall
          cases z
          · obtain rfl : R = false := hF.out (fun h => by have e := h.2.2.2.2; rw [e, hv.out] at hu; have := Option.some.inj hu.out; rw [eqT_true this.symm] at hz; exact absurd hz.out (by decide))
            go_wp2_with fail
            go_ret
            exact ⟨rfl, HB2⟩
          · have huv : u = v := eqT_iff.1 hz.out
            go_wp2_with fail
            go_roundw
            case rel => exact ⟨p + 1, by omega, by simp, HB2, h02, h12, fun j h => by
                by_cases ej : j = p
                · subst ej; rw [hu.out, hv.out, huv]
                · exact hE.out j (by omega)⟩
            case measure => simp [intOf]; omega
        · have hd2 : decide ((p : Int) < (its.length : Int)) = false := by simp; omega
          have hits : Hid (its = its') := List.ext_getElem? (fun j => by
            by_cases hj : j < p
            · exact hE.out j hj
            · rw [List.getElem?_eq_none (by omega), List.getElem?_eq_none (by have := ei.out; omega)])
          obtain rfl : R = true := by rw [← hR.out]; exact eqT_true (by rw [hns.out, hits.out])
          clear z4
          go_wp2_with fail
          go_ret
          exact ⟨rfl, HB⟩

theorem equal_any (t u : Tr) (cs cs' : List Value) (w : World) (hV : VRep w t cs) (hV' : VRep w u cs') (hS : SmallT t) :
    Calls Tryz.prog 8 #[.agg cs.toArray, .agg cs'.toArray] w fun e w' => e = .returned (.bool (eqT t u)) ∧ Below w.heap.size w w' := by
  match t, u, hV, hV', hS with
  | .node k x s ns its, .node k' x' s' ns' its', hV, hV', hS =>
    unfold VRep at hV hV'
    unfold SmallT at hS
    obtain ⟨nm, a, c, rfl, hn, hc, hI⟩ := hV
    obtain ⟨nm', a', c', rfl, hn', hc', hI'⟩ := hV'
    obtain ⟨an, cn, rfl, -, -⟩ := id hn
    obtain ⟨an', cn', rfl, -, -⟩ := id hn'
    refine equal_one k x s an cn ns a c its k' x' s' an' cn' ns' a' c' its' w (by omega) (by omega) (hid_e hn) (hid_e hn') (hid_e hI) (hid_e hI') (hid_e (fun i u v hu hv ds ds' w' h1 h2 => ?_))
    have hlt : SizeOf.sizeOf u < SizeOf.sizeOf its := tr_lt hu
    exact equal_any u v ds ds' w' h1 h2 (SmallL.at hS.2.2.2.2 hu)
termination_by SizeOf.sizeOf t
decreasing_by simp only [Tr.node.sizeOf_spec]; omega
end Go.Proofs.YtnccaidlcaeeaaaGreatDoor.Tree
