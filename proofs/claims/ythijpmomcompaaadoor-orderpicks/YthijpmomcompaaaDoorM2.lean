import Derived.Test.YthijpmomcompaaaDoorM1
/-! The document's lists. -/
namespace Go.Proofs.YthijpmomcompaaaDoor
open Go Go.RowKit

/-- What is compared at one place is compared rightly. -/
def RCmpOk (its its' : List Tr) : Prop := ∀ (i : Nat) (u v : Tr), its[i]? = some u → its'[i]? = some v → ∀ cs cs' w', VRep w' u cs → VRep w' v cs' → Calls Tryd.prog 21 #[.agg cs.toArray, .agg cs'.toArray] w' fun e w'' => e = .returned (.int .i64 (cmpT u v)) ∧ Below w'.heap.size w' w''
theorem cmpL_fin {al bl : List Tr} {q : Nat} (hq : q ≤ al.length) (hq' : q ≤ bl.length) (h : q = al.length ∨ q = bl.length) : cmpL (al.drop q) (bl.drop q) = cmpI al.length bl.length := by
  by_cases h1 : q < al.length
  · rw [cmpL_more h1 (by omega)]; unfold cmpI; rw [if_neg (by omega), if_pos (by omega)]
  · by_cases h2 : q < bl.length
    · rw [cmpL_less (by omega) h2]; unfold cmpI; rw [if_pos (by omega)]
    · rw [cmpL_end (by omega) (by omega)]; unfold cmpI; rw [if_neg (by omega), if_neg (by omega)]
set_option maxHeartbeats 8000000 in
set_option maxRecDepth 100000 in
theorem lists6 (x : Int) (s : ByteArray) (an : Option Addr) (cn : Nat) (ns : List ByteArray) (a : Option Addr) (c : Nat) (its : List Tr) (x' : Int) (s' : ByteArray) (an' : Option Addr) (cn' : Nat) (ns' : List ByteArray) (a' : Option Addr) (c' : Nat) (its' : List Tr) (w : World)
    (hM : its.length ≤ 9223372036854775806) (hM' : its'.length ≤ 9223372036854775806) (hN : Hid (Reads w (.slice an ns.length cn) ns)) (hN' : Hid (Reads w (.slice an' ns'.length cn') ns')) (hz : Hid (∀ n ∈ ns, n.size ≤ 9223372036854775806)) (hL : Hid (ItemsAt w a its)) (hL' : Hid (ItemsAt w a' its')) (hI : Hid (RCmpOk its its')) :
    Calls Tryd.prog 37 #[.agg #[.int .i64 6, .int .i64 x, .string s, .slice an ns.length cn, .slice a its.length c], .agg #[.int .i64 6, .int .i64 x', .string s', .slice an' ns'.length cn', .slice a' its'.length c']] w fun e w' => e = .returned (.int .i64 (cmpM ns its ns' its')) ∧ Below w.heap.size w w' := by
  obtain ⟨m1, hm1⟩ : ∃ m, Hid (min ns.length its.length = m) := ⟨_, rfl⟩
  obtain ⟨m2, hm2⟩ : ∃ m, Hid (min ns'.length its'.length = m) := ⟨_, rfl⟩
  have hr1 : ∀ W, Hid _ := fun W => hid_e (rmembers_any 6 x s an ns.length cn a its.length c W)
  have hr2 : ∀ W, Hid _ := fun W => hid_e (rmembers_any 6 x' s' an' ns'.length cn' a' its'.length c' W)
  rw [show mem6 6 ns.length its.length = m1 by rw [← hm1.out]; rfl] at hr1
  rw [show mem6 6 ns'.length its'.length = m2 by rw [← hm2.out]; rfl] at hr2
  have hb1 : m1 ≤ 9223372036854775806 := by have := hm1.out; omega
  have hb2 : m2 ≤ 9223372036854775806 := by have := hm2.out; omega
  go_enter Tryd.func37, Tryd.ntmps37
  go_wp2_with fail
  have HB : Below w.heap.size w ((w.alloc (.cells #[.int .i64 6, .int .i64 x, .string s, .slice an ns.length cn, .slice a its.length c] 31)).alloc (.cells #[.int .i64 6, .int .i64 x', .string s', .slice an' ns'.length cn', .slice a' its'.length c'] 31)) := ((Below.refl _ w).alloc (Nat.le_refl _) _).alloc (by simp) _
  have h0 := new1 w (.cells #[.int .i64 6, .int .i64 x, .string s, .slice an ns.length cn, .slice a its.length c] 31) (.cells #[.int .i64 6, .int .i64 x', .string s', .slice an' ns'.length cn', .slice a' its'.length c'] 31)
  have h1 := new2 w (.cells #[.int .i64 6, .int .i64 x, .string s, .slice an ns.length cn, .slice a its.length c] 31) (.cells #[.int .i64 6, .int .i64 x', .string s', .slice an' ns'.length cn', .slice a' its'.length c'] 31)
  generalize (w.alloc (.cells #[.int .i64 6, .int .i64 x, .string s, .slice an ns.length cn, .slice a its.length c] 31)).alloc (.cells #[.int .i64 6, .int .i64 x', .string s', .slice an' ns'.length cn', .slice a' its'.length c'] 31) = X at HB h0 h1
  go_fit (hr1 _).out
  rintro e X1 ⟨rfl, hX⟩
  replace HB := HB.trans (hX.mono HB.size)
  replace h0 := (hX.block _ (Array.getElem?_eq_some_iff.1 h0).1).trans h0
  replace h1 := (hX.block _ (Array.getElem?_eq_some_iff.1 h1).1).trans h1
  clear hX
  obtain ⟨z0, z1, z2, z3, z4, -⟩ := row_cells h1
  go_wp2_with fail
  clear z0 z1 z2 z3 z4
  go_fit (hr2 _).out
  rintro e X2 ⟨rfl, hX⟩
  replace HB := HB.trans (hX.mono HB.size)
  replace h0 := (hX.block _ (Array.getElem?_eq_some_iff.1 h0).1).trans h0
  replace h1 := (hX.block _ (Array.getElem?_eq_some_iff.1 h1).1).trans h1
  clear hX hr1 hr2
  go_wp2_with fail
  go_loopw [7] (fun i wr => ∃ q : Nat, q ≤ m1 ∧ q ≤ m2 ∧ i = .int .i64 q ∧ Below w.heap.size w wr ∧ wr.heap[w.heap.size]? = some (.cells #[.int .i64 6, .int .i64 x, .string s, .slice an ns.length cn, .slice a its.length c] 31 (0, 0)) ∧ wr.heap[w.heap.size + 1]? = some (.cells #[.int .i64 6, .int .i64 x', .string s', .slice an' ns'.length cn', .slice a' its'.length c'] 31 (0, 0)) ∧ Hid (cmpM ns its ns' its' = cmpM (ns.drop q) (its.drop q) (ns'.drop q) (its'.drop q))) (fun i _ => m1 - (intOf i).toNat)
  case atStart => exact ⟨0, Nat.zero_le _, Nat.zero_le _, rfl, HB, h0, h1, rfl⟩
  case round =>
    clear HB h0 h1
    obtain ⟨q, hq1, hq2, rfl, HB, h0, h1, hG⟩ := hrel
    obtain ⟨y0, -, -, y3, y4, -⟩ := row_cells h0
    obtain ⟨-, -, -, z3, z4, -⟩ := row_cells h1
    by_cases hlt : q < m1 ∧ q < m2
    · obtain ⟨ha, hb⟩ := hlt
      have hd1 : decide ((q : Int) < (m1 : Int)) = true := by simp; omega
      have hd2 : decide ((q : Int) < (m2 : Int)) = true := by simp; omega
      obtain ⟨l1, l2, l3, l4⟩ : q < ns.length ∧ q < its.length ∧ q < ns'.length ∧ q < its'.length := by have e1 := hm1.out; have e2 := hm2.out; omega
      obtain ⟨n, hn⟩ : ∃ n, Hid (ns[q]? = some n) := ⟨_, List.getElem?_eq_getElem l1⟩
      obtain ⟨n', hn'⟩ : ∃ n, Hid (ns'[q]? = some n) := ⟨_, List.getElem?_eq_getElem l3⟩
      obtain ⟨_, _, e, _, hR⟩ := hN.out
      cases e
      obtain ⟨gn, on, rfl, _, hR⟩ := hR.resolve_left (by intro e; subst e; simp at l1)
      have c1 := stay HB (hR q n hn.out)
      clear hR
      obtain ⟨_, _, e, _, hR⟩ := hN'.out
      cases e
      obtain ⟨gn', on', rfl, _, hR⟩ := hR.resolve_left (by intro e; subst e; simp at l3)
      have c2 := stay HB (hR q n' hn'.out)
      clear hR
      have htx := hid_e (fun W => texts_cmp n n' (hz.out n (List.mem_of_getElem? hn.out)) W)
      obtain ⟨u, hu⟩ : ∃ u, Hid (its[q]? = some u) := ⟨_, List.getElem?_eq_getElem l2⟩
      obtain ⟨v, hv⟩ : ∃ v, Hid (its'[q]? = some v) := ⟨_, List.getElem?_eq_getElem l4⟩
      obtain ⟨b, o, rfl, hb, hV⟩ := hL.out.resolve_left (by intro e; subst e; simp at l2)
      obtain ⟨cs, hC, hr⟩ := VRepL.at its o q u hV hu.out
      obtain ⟨k2, x2, s2, an2, ln2, cn2, ai2, li2, ci2, rfl⟩ := vrep_five hr
      obtain ⟨b', o', rfl, hb', hV'⟩ := hL'.out.resolve_left (by intro e; subst e; simp at l4)
      obtain ⟨cs', hC', hr'⟩ := VRepL.at its' o' q v hV' hv.out
      obtain ⟨k3, x3, s3, an3, ln3, cn3, ai3, li3, ci3, rfl⟩ := vrep_five hr'
      have p0 := stay HB (hC 0 _ rfl)
      have r0 := stay HB (hC' 0 _ rfl)
      have p1 := stay HB (hC 1 _ rfl)
      have r1 := stay HB (hC' 1 _ rfl)
      have p2 := stay HB (hC 2 _ rfl)
      have r2 := stay HB (hC' 2 _ rfl)
      have p3 := stay HB (hC 3 _ rfl)
      have r3 := stay HB (hC' 3 _ rfl)
      have p4 := stay HB (hC 4 _ rfl)
      have r4 := stay HB (hC' 4 _ rfl)
      simp only [Nat.add_zero] at p0 r0
      have hcall := hid_e (fun W (hW : Below w.heap.size w W) => hI.out q u v hu.out hv.out _ _ W (VRep.keep hW _ _ hr) (VRep.keep hW _ _ hr'))
      have hst := hid_e (hG.out.trans (cmpM_step hn.out hn'.out hu.out hv.out))
      clear hV hV' hC hC' hr hr' hG
      obtain ⟨z, hz9⟩ : ∃ z, Hid (cmpT u v = z) := ⟨_, rfl⟩
      obtain ⟨y, hy⟩ : ∃ y, Hid (cmpS n n' = y) := ⟨_, rfl⟩
      rw [hz9.out, hy.out] at hst
      have i1 : (q : Int) < (ns.length : Int) := by omega
      have i2 : (q : Int) < (ns'.length : Int) := by omega
      rw [hz9.out] at hcall
      have i3 : (q : Int) < (its.length : Int) := by omega
      have i4 : (q : Int) < (its'.length : Int) := by omega
      have i5 : (0 : Int) ≤ (q : Int) := by omega
      go_wp2_with fail
      clear y0
      refine wp_region_quiet (C := fun w' => Below wr.heap.size wr w') (by kernel_rfl) (by kernel_rfl) (below_drewN (Below.refl _ _) 1) ?_
      refine wpQuiet_step (fun K hK => ?_)
      go_simp
      refine ⟨_, fun _ _ => rfl, hK _ ?_⟩
      clear hK K
      refine wpQuiet_step (fun K hK => ?_)
      refine ⟨.slice (some ⟨gn, on, none⟩) ns.length cn, fun w' hw' => ?_, hK _ ?_⟩
      · have t0 := stay hw' y3
        go_simp
      clear hK K
      refine wpQuiet_step (fun K hK => ?_)
      go_simp
      refine ⟨_, fun _ _ => rfl, hK _ ?_⟩
      clear hK K
      refine wpQuiet_step (fun K hK => ?_)
      go_simp
      refine ⟨_, fun _ _ => rfl, hK _ ?_⟩
      clear hK K
      refine wpQuiet_step (fun K hK => ?_)
      refine ⟨.string n, fun w' hw' => ?_, hK _ ?_⟩
      · have t0 := stay hw' c1
        go_simp
      clear hK K
      refine wpQuiet_step (fun K hK => ?_)
      go_simp
      refine ⟨_, fun _ _ => rfl, hK _ ?_⟩
      clear hK K
      refine wpQuiet_step (fun K hK => ?_)
      refine ⟨.slice (some ⟨gn', on', none⟩) ns'.length cn', fun w' hw' => ?_, hK _ ?_⟩
      · have t0 := stay hw' z3
        go_simp
      clear hK K
      refine wpQuiet_step (fun K hK => ?_)
      go_simp
      refine ⟨_, fun _ _ => rfl, hK _ ?_⟩
      clear hK K
      refine wpQuiet_step (fun K hK => ?_)
      go_simp
      refine ⟨_, fun _ _ => rfl, hK _ ?_⟩
      clear hK K
      refine wpQuiet_step (fun K hK => ?_)
      refine ⟨.string n', fun w' hw' => ?_, hK _ ?_⟩
      · have t0 := stay hw' c2
        go_simp
      clear hK K
      refine wpQuiet_step (fun K hK => ?_)
      refine ⟨.int .i64 y, fun w' hw' => ?_, hK _ ?_⟩
      · go_simp
        refine (htx.out w').mono ?_
        rintro e w'' ⟨rfl, mm, rfl⟩
        exact ⟨by rw [hy.out], below_drewN hw' mm⟩
      clear hK K
      refine wpQuiet_step (fun K hK => ?_)
      go_simp
      refine ⟨_, fun _ _ => rfl, hK _ ?_⟩
      clear hK K
      refine wpQuiet_nil ?_
      intro Y1 hY1
      have HB1 : Below w.heap.size w Y1 := HB.trans (hY1.mono HB.size)
      have h01 := (hY1.block _ (Array.getElem?_eq_some_iff.1 h0).1).trans h0
      have h11 := (hY1.block _ (Array.getElem?_eq_some_iff.1 h1).1).trans h1
      replace p0 := stay hY1 p0
      replace p1 := stay hY1 p1
      replace p2 := stay hY1 p2
      replace p3 := stay hY1 p3
      replace p4 := stay hY1 p4
      replace r0 := stay hY1 r0
      replace r1 := stay hY1 r1
      replace r2 := stay hY1 r2
      replace r3 := stay hY1 r3
      replace r4 := stay hY1 r4
      replace y4 := stay hY1 y4
      replace z4 := stay hY1 z4
      clear hY1 HB h0 h1 y3 z3 c1 c2 htx
      by_cases hy0 : y = 0
      · subst hy0
        replace hst := hid_e (hst.out.trans (if_neg (fun e => e rfl)))
        go_wp2_with fail
        refine wp_region_quiet (C := fun w' => Below Y1.heap.size Y1 w') (by kernel_rfl) (by kernel_rfl) (below_drewN (Below.refl _ _) 1) ?_
        refine wpQuiet_step (fun K hK => ?_)
        go_simp
        refine ⟨_, fun _ _ => rfl, hK _ ?_⟩
        clear hK K
        refine wpQuiet_step (fun K hK => ?_)
        refine ⟨.slice (some ⟨b, o, none⟩) its.length c, fun w' hw' => ?_, hK _ ?_⟩
        · have t0 := stay hw' y4
          go_simp
        clear hK K
        refine wpQuiet_step (fun K hK => ?_)
        go_simp
        refine ⟨_, fun _ _ => rfl, hK _ ?_⟩
        clear hK K
        refine wpQuiet_step (fun K hK => ?_)
        go_simp
        refine ⟨_, fun _ _ => rfl, hK _ ?_⟩
        clear hK K
        refine wpQuiet_step (fun K hK => ?_)
        refine ⟨.agg #[.int .i64 k2, .int .i64 x2, .string s2, .slice an2 ln2 cn2, .slice ai2 li2 ci2], fun w' hw' => ?_, hK _ ?_⟩
        · have t0 := stay hw' p0
          have t1 := stay hw' p1
          have t2 := stay hw' p2
          have t3 := stay hw' p3
          have t4 := stay hw' p4
          go_simp
        clear hK K
        refine wpQuiet_step (fun K hK => ?_)
        go_simp
        refine ⟨_, fun _ _ => rfl, hK _ ?_⟩
        clear hK K
        refine wpQuiet_step (fun K hK => ?_)
        refine ⟨.slice (some ⟨b', o', none⟩) its'.length c', fun w' hw' => ?_, hK _ ?_⟩
        · have t0 := stay hw' z4
          go_simp
        clear hK K
        refine wpQuiet_step (fun K hK => ?_)
        go_simp
        refine ⟨_, fun _ _ => rfl, hK _ ?_⟩
        clear hK K
        refine wpQuiet_step (fun K hK => ?_)
        go_simp
        refine ⟨_, fun _ _ => rfl, hK _ ?_⟩
        clear hK K
        refine wpQuiet_step (fun K hK => ?_)
        refine ⟨.agg #[.int .i64 k3, .int .i64 x3, .string s3, .slice an3 ln3 cn3, .slice ai3 li3 ci3], fun w' hw' => ?_, hK _ ?_⟩
        · have t0 := stay hw' r0
          have t1 := stay hw' r1
          have t2 := stay hw' r2
          have t3 := stay hw' r3
          have t4 := stay hw' r4
          go_simp
        clear hK K
        refine wpQuiet_step (fun K hK => ?_)
        refine ⟨.int .i64 z, fun w' hw' => ?_, hK _ ?_⟩
        · go_simp
          refine (hcall.out w' (HB1.trans (hw'.mono HB1.size))).mono ?_
          rintro e w'' ⟨rfl, hb⟩
          exact ⟨rfl, hw'.trans (hb.mono hw'.size)⟩
        clear hK K
        refine wpQuiet_step (fun K hK => ?_)
        go_simp
        refine ⟨_, fun _ _ => rfl, hK _ ?_⟩
        clear hK K
        refine wpQuiet_nil ?_
        intro Y2 hY2
        have HB2 : Below w.heap.size w Y2 := HB1.trans (hY2.mono HB1.size)
        have h02 := (hY2.block _ (Array.getElem?_eq_some_iff.1 h01).1).trans h01
        have h12 := (hY2.block _ (Array.getElem?_eq_some_iff.1 h11).1).trans h11
        clear hY2 HB1 h01 h11 y4 z4 p0 p1 p2 p3 p4 r0 r1 r2 r3 r4 hcall
        by_cases hz0 : z = 0
        · subst hz0
          replace hst := hid_e (hst.out.trans (if_neg (fun e => e rfl)))
          go_wp2_with fail
          go_roundw
          case rel => exact ⟨q + 1, by omega, by omega, by simp, HB2, h02, h12, hst⟩
          case measure => simp [intOf]; omega
        · have hz1 : (z == 0) = false := by simpa using hz0
          replace hst := hid_e (hst.out.trans (if_pos hz0))
          go_wp2_with fail
          go_ret
          exact ⟨ret_int hst.out.symm, HB2⟩
      · have hy1 : (y == 0) = false := by simpa using hy0
        replace hst := hid_e (hst.out.trans (if_pos hy0))
        go_wp2_with fail
        go_ret
        exact ⟨ret_int hst.out.symm, HB1⟩
    · have hst := hid_e (hG.out.trans (cmpM_end (by have e1 := hm1.out; have e2 := hm2.out; omega)))
      rw [hm1.out, hm2.out] at hst
      clear hG y0 y3 y4 z3 z4
      by_cases ha : q < m1
      · have hd1 : decide ((q : Int) < (m1 : Int)) = true := by simp; omega
        have hd2 : decide ((q : Int) < (m2 : Int)) = false := by simp; omega
        go_wp2_with fail
        refine (ints_any _ _ _).mono ?_
        rintro e w' ⟨rfl, rfl⟩
        go_wp2_with fail
        go_ret
        exact ⟨ret_int hst.out.symm, HB⟩
      · have hd1 : decide ((q : Int) < (m1 : Int)) = false := by simp; omega
        go_wp2_with fail
        refine (ints_any _ _ _).mono ?_
        rintro e w' ⟨rfl, rfl⟩
        go_wp2_with fail
        go_ret
        exact ⟨ret_int hst.out.symm, HB⟩
set_option maxHeartbeats 8000000 in
set_option maxRecDepth 100000 in
theorem lists5 (x : Int) (s : ByteArray) (an : Option Addr) (cn : Nat) (ns : List ByteArray) (a : Option Addr) (c : Nat) (its : List Tr) (x' : Int) (s' : ByteArray) (an' : Option Addr) (cn' : Nat) (ns' : List ByteArray) (a' : Option Addr) (c' : Nat) (its' : List Tr) (w : World)
    (hM : its.length ≤ 9223372036854775806) (hM' : its'.length ≤ 9223372036854775806) (hL : Hid (ItemsAt w a its)) (hL' : Hid (ItemsAt w a' its')) (hI : Hid (RCmpOk its its')) :
    Calls Tryd.prog 37 #[.agg #[.int .i64 5, .int .i64 x, .string s, .slice an ns.length cn, .slice a its.length c], .agg #[.int .i64 5, .int .i64 x', .string s', .slice an' ns'.length cn', .slice a' its'.length c']] w fun e w' => e = .returned (.int .i64 (cmpL its its')) ∧ Below w.heap.size w w' := by
  obtain ⟨m1, hm1⟩ : ∃ m, Hid (its.length = m) := ⟨_, rfl⟩
  obtain ⟨m2, hm2⟩ : ∃ m, Hid (its'.length = m) := ⟨_, rfl⟩
  have hr1 : ∀ W, Hid _ := fun W => hid_e (rmembers_any 5 x s an ns.length cn a its.length c W)
  have hr2 : ∀ W, Hid _ := fun W => hid_e (rmembers_any 5 x' s' an' ns'.length cn' a' its'.length c' W)
  rw [show mem6 5 ns.length its.length = m1 by rw [← hm1.out]; rfl] at hr1
  rw [show mem6 5 ns'.length its'.length = m2 by rw [← hm2.out]; rfl] at hr2
  have hb1 : m1 ≤ 9223372036854775806 := by have := hm1.out; omega
  have hb2 : m2 ≤ 9223372036854775806 := by have := hm2.out; omega
  go_enter Tryd.func37, Tryd.ntmps37
  go_wp2_with fail
  have HB : Below w.heap.size w ((w.alloc (.cells #[.int .i64 5, .int .i64 x, .string s, .slice an ns.length cn, .slice a its.length c] 31)).alloc (.cells #[.int .i64 5, .int .i64 x', .string s', .slice an' ns'.length cn', .slice a' its'.length c'] 31)) := ((Below.refl _ w).alloc (Nat.le_refl _) _).alloc (by simp) _
  have h0 := new1 w (.cells #[.int .i64 5, .int .i64 x, .string s, .slice an ns.length cn, .slice a its.length c] 31) (.cells #[.int .i64 5, .int .i64 x', .string s', .slice an' ns'.length cn', .slice a' its'.length c'] 31)
  have h1 := new2 w (.cells #[.int .i64 5, .int .i64 x, .string s, .slice an ns.length cn, .slice a its.length c] 31) (.cells #[.int .i64 5, .int .i64 x', .string s', .slice an' ns'.length cn', .slice a' its'.length c'] 31)
  generalize (w.alloc (.cells #[.int .i64 5, .int .i64 x, .string s, .slice an ns.length cn, .slice a its.length c] 31)).alloc (.cells #[.int .i64 5, .int .i64 x', .string s', .slice an' ns'.length cn', .slice a' its'.length c'] 31) = X at HB h0 h1
  go_fit (hr1 _).out
  rintro e X1 ⟨rfl, hX⟩
  replace HB := HB.trans (hX.mono HB.size)
  replace h0 := (hX.block _ (Array.getElem?_eq_some_iff.1 h0).1).trans h0
  replace h1 := (hX.block _ (Array.getElem?_eq_some_iff.1 h1).1).trans h1
  clear hX
  obtain ⟨z0, z1, z2, z3, z4, -⟩ := row_cells h1
  go_wp2_with fail
  clear z0 z1 z2 z3 z4
  go_fit (hr2 _).out
  rintro e X2 ⟨rfl, hX⟩
  replace HB := HB.trans (hX.mono HB.size)
  replace h0 := (hX.block _ (Array.getElem?_eq_some_iff.1 h0).1).trans h0
  replace h1 := (hX.block _ (Array.getElem?_eq_some_iff.1 h1).1).trans h1
  clear hX hr1 hr2
  go_wp2_with fail
  go_loopw [7] (fun i wr => ∃ q : Nat, q ≤ m1 ∧ q ≤ m2 ∧ i = .int .i64 q ∧ Below w.heap.size w wr ∧ wr.heap[w.heap.size]? = some (.cells #[.int .i64 5, .int .i64 x, .string s, .slice an ns.length cn, .slice a its.length c] 31 (0, 0)) ∧ wr.heap[w.heap.size + 1]? = some (.cells #[.int .i64 5, .int .i64 x', .string s', .slice an' ns'.length cn', .slice a' its'.length c'] 31 (0, 0)) ∧ Hid (cmpL its its' = cmpL (its.drop q) (its'.drop q))) (fun i _ => m1 - (intOf i).toNat)
  case atStart => exact ⟨0, Nat.zero_le _, Nat.zero_le _, rfl, HB, h0, h1, rfl⟩
  case round =>
    clear HB h0 h1
    obtain ⟨q, hq1, hq2, rfl, HB, h0, h1, hG⟩ := hrel
    obtain ⟨y0, -, -, y3, y4, -⟩ := row_cells h0
    obtain ⟨-, -, -, z3, z4, -⟩ := row_cells h1
    by_cases hlt : q < m1 ∧ q < m2
    · obtain ⟨ha, hb⟩ := hlt
      have hd1 : decide ((q : Int) < (m1 : Int)) = true := by simp; omega
      have hd2 : decide ((q : Int) < (m2 : Int)) = true := by simp; omega
      obtain ⟨l2, l4⟩ : q < its.length ∧ q < its'.length := by have e1 := hm1.out; have e2 := hm2.out; omega
      obtain ⟨u, hu⟩ : ∃ u, Hid (its[q]? = some u) := ⟨_, List.getElem?_eq_getElem l2⟩
      obtain ⟨v, hv⟩ : ∃ v, Hid (its'[q]? = some v) := ⟨_, List.getElem?_eq_getElem l4⟩
      obtain ⟨b, o, rfl, hb, hV⟩ := hL.out.resolve_left (by intro e; subst e; simp at l2)
      obtain ⟨cs, hC, hr⟩ := VRepL.at its o q u hV hu.out
      obtain ⟨k2, x2, s2, an2, ln2, cn2, ai2, li2, ci2, rfl⟩ := vrep_five hr
      obtain ⟨b', o', rfl, hb', hV'⟩ := hL'.out.resolve_left (by intro e; subst e; simp at l4)
      obtain ⟨cs', hC', hr'⟩ := VRepL.at its' o' q v hV' hv.out
      obtain ⟨k3, x3, s3, an3, ln3, cn3, ai3, li3, ci3, rfl⟩ := vrep_five hr'
      have p0 := stay HB (hC 0 _ rfl)
      have r0 := stay HB (hC' 0 _ rfl)
      have p1 := stay HB (hC 1 _ rfl)
      have r1 := stay HB (hC' 1 _ rfl)
      have p2 := stay HB (hC 2 _ rfl)
      have r2 := stay HB (hC' 2 _ rfl)
      have p3 := stay HB (hC 3 _ rfl)
      have r3 := stay HB (hC' 3 _ rfl)
      have p4 := stay HB (hC 4 _ rfl)
      have r4 := stay HB (hC' 4 _ rfl)
      simp only [Nat.add_zero] at p0 r0
      have hcall := hid_e (fun W (hW : Below w.heap.size w W) => hI.out q u v hu.out hv.out _ _ W (VRep.keep hW _ _ hr) (VRep.keep hW _ _ hr'))
      have hst := hid_e (hG.out.trans (cmpL_step hu.out hv.out))
      clear hV hV' hC hC' hr hr' hG
      obtain ⟨z, hz9⟩ : ∃ z, Hid (cmpT u v = z) := ⟨_, rfl⟩
      rw [hz9.out] at hst
      rw [hz9.out] at hcall
      have i3 : (q : Int) < (its.length : Int) := by omega
      have i4 : (q : Int) < (its'.length : Int) := by omega
      have i5 : (0 : Int) ≤ (q : Int) := by omega
      go_wp2_with fail
      clear y0
      clear y3 z3
      refine wp_region_quiet (C := fun w' => Below wr.heap.size wr w') (by kernel_rfl) (by kernel_rfl) (below_drewN (Below.refl _ _) 1) ?_
      refine wpQuiet_step (fun K hK => ?_)
      go_simp
      refine ⟨_, fun _ _ => rfl, hK _ ?_⟩
      clear hK K
      refine wpQuiet_step (fun K hK => ?_)
      refine ⟨.slice (some ⟨b, o, none⟩) its.length c, fun w' hw' => ?_, hK _ ?_⟩
      · have t0 := stay hw' y4
        go_simp
      clear hK K
      refine wpQuiet_step (fun K hK => ?_)
      go_simp
      refine ⟨_, fun _ _ => rfl, hK _ ?_⟩
      clear hK K
      refine wpQuiet_step (fun K hK => ?_)
      go_simp
      refine ⟨_, fun _ _ => rfl, hK _ ?_⟩
      clear hK K
      refine wpQuiet_step (fun K hK => ?_)
      refine ⟨.agg #[.int .i64 k2, .int .i64 x2, .string s2, .slice an2 ln2 cn2, .slice ai2 li2 ci2], fun w' hw' => ?_, hK _ ?_⟩
      · have t0 := stay hw' p0
        have t1 := stay hw' p1
        have t2 := stay hw' p2
        have t3 := stay hw' p3
        have t4 := stay hw' p4
        go_simp
      clear hK K
      refine wpQuiet_step (fun K hK => ?_)
      go_simp
      refine ⟨_, fun _ _ => rfl, hK _ ?_⟩
      clear hK K
      refine wpQuiet_step (fun K hK => ?_)
      refine ⟨.slice (some ⟨b', o', none⟩) its'.length c', fun w' hw' => ?_, hK _ ?_⟩
      · have t0 := stay hw' z4
        go_simp
      clear hK K
      refine wpQuiet_step (fun K hK => ?_)
      go_simp
      refine ⟨_, fun _ _ => rfl, hK _ ?_⟩
      clear hK K
      refine wpQuiet_step (fun K hK => ?_)
      go_simp
      refine ⟨_, fun _ _ => rfl, hK _ ?_⟩
      clear hK K
      refine wpQuiet_step (fun K hK => ?_)
      refine ⟨.agg #[.int .i64 k3, .int .i64 x3, .string s3, .slice an3 ln3 cn3, .slice ai3 li3 ci3], fun w' hw' => ?_, hK _ ?_⟩
      · have t0 := stay hw' r0
        have t1 := stay hw' r1
        have t2 := stay hw' r2
        have t3 := stay hw' r3
        have t4 := stay hw' r4
        go_simp
      clear hK K
      refine wpQuiet_step (fun K hK => ?_)
      refine ⟨.int .i64 z, fun w' hw' => ?_, hK _ ?_⟩
      · go_simp
        refine (hcall.out w' (HB.trans (hw'.mono HB.size))).mono ?_
        rintro e w'' ⟨rfl, hb⟩
        exact ⟨rfl, hw'.trans (hb.mono hw'.size)⟩
      clear hK K
      refine wpQuiet_step (fun K hK => ?_)
      go_simp
      refine ⟨_, fun _ _ => rfl, hK _ ?_⟩
      clear hK K
      refine wpQuiet_nil ?_
      intro Y2 hY2
      have HB2 : Below w.heap.size w Y2 := HB.trans (hY2.mono HB.size)
      have h02 := (hY2.block _ (Array.getElem?_eq_some_iff.1 h0).1).trans h0
      have h12 := (hY2.block _ (Array.getElem?_eq_some_iff.1 h1).1).trans h1
      clear hY2 HB h0 h1 y4 z4 p0 p1 p2 p3 p4 r0 r1 r2 r3 r4 hcall
      by_cases hz0 : z = 0
      · subst hz0
        replace hst := hid_e (hst.out.trans (if_neg (fun e => e rfl)))
        go_wp2_with fail
        go_roundw
        case rel => exact ⟨q + 1, by omega, by omega, by simp, HB2, h02, h12, hst⟩
        case measure => simp [intOf]; omega
      · have hz1 : (z == 0) = false := by simpa using hz0
        replace hst := hid_e (hst.out.trans (if_pos hz0))
        go_wp2_with fail
        go_ret
        exact ⟨ret_int hst.out.symm, HB2⟩
    · have hst := hid_e (hG.out.trans (cmpL_fin (by have e1 := hm1.out; omega) (by have e2 := hm2.out; omega) (by have e1 := hm1.out; have e2 := hm2.out; omega)))
      rw [hm1.out, hm2.out] at hst
      clear hG y0 y3 y4 z3 z4
      by_cases ha : q < m1
      · have hd1 : decide ((q : Int) < (m1 : Int)) = true := by simp; omega
        have hd2 : decide ((q : Int) < (m2 : Int)) = false := by simp; omega
        go_wp2_with fail
        refine (ints_any _ _ _).mono ?_
        rintro e w' ⟨rfl, rfl⟩
        go_wp2_with fail
        go_ret
        exact ⟨ret_int hst.out.symm, HB⟩
      · have hd1 : decide ((q : Int) < (m1 : Int)) = false := by simp; omega
        go_wp2_with fail
        refine (ints_any _ _ _).mono ?_
        rintro e w' ⟨rfl, rfl⟩
        go_wp2_with fail
        go_ret
        exact ⟨ret_int hst.out.symm, HB⟩
end Go.Proofs.YthijpmomcompaaaDoor
