import Derived.Test.YthijpmomcompaaaDoorK2
/-! compareMembers. -/
namespace Go.Proofs.YthijpmomcompaaaDoor
open Go Go.RowKit

theorem drop_at {α : Type} {l : List α} {q : Nat} {x : α} (h : l[q]? = some x) : l.drop q = x :: l.drop (q + 1) := by
  obtain ⟨hq, hx⟩ := List.getElem?_eq_some_iff.1 h
  rw [← hx]
  exact List.drop_eq_getElem_cons hq
theorem cmpM_step {ns ms : List ByteArray} {al bl : List Tr} {q : Nat} {n m : ByteArray} {u v : Tr} (hn : ns[q]? = some n) (hm : ms[q]? = some m) (h : al[q]? = some u) (h' : bl[q]? = some v) :
    cmpM (ns.drop q) (al.drop q) (ms.drop q) (bl.drop q) = if cmpS n m ≠ 0 then cmpS n m else if cmpT u v ≠ 0 then cmpT u v else cmpM (ns.drop (q + 1)) (al.drop (q + 1)) (ms.drop (q + 1)) (bl.drop (q + 1)) := by
  rw [drop_at hn, drop_at hm, drop_at h, drop_at h', cmpM]
theorem cmpM_nil {ns ms : List ByteArray} {al bl : List Tr} (h : min (min ns.length al.length) (min ms.length bl.length) = 0) : cmpM ns al ms bl = cmpI (min ns.length al.length : Nat) (min ms.length bl.length : Nat) := by
  cases ns <;> cases al <;> cases ms <;> cases bl <;> first | rfl | (simp at h)
theorem cmpM_end {ns ms : List ByteArray} {al bl : List Tr} {q : Nat} (h : min (min ns.length al.length) (min ms.length bl.length) = q) : cmpM (ns.drop q) (al.drop q) (ms.drop q) (bl.drop q) = cmpI (min ns.length al.length : Nat) (min ms.length bl.length : Nat) := by
  rw [cmpM_nil (by simp only [List.length_drop]; omega)]
  simp only [List.length_drop]
  unfold cmpI
  have e1 : ((min (ns.length - q) (al.length - q) : Nat) : Int) = (min ns.length al.length : Nat) - (q : Nat) := by omega
  have e2 : ((min (ms.length - q) (bl.length - q) : Nat) : Int) = (min ms.length bl.length : Nat) - (q : Nat) := by omega
  rw [e1, e2]
  congr 1
  · exact propext ⟨fun _ => by omega, fun _ => by omega⟩
  · congr 1
    exact propext ⟨fun _ => by omega, fun _ => by omega⟩

set_option maxHeartbeats 8000000 in
set_option maxRecDepth 100000 in
theorem cmembers_any (k x : Int) (s : ByteArray) (an : Option Addr) (cn : Nat) (ns : List ByteArray) (a : Option Addr) (c : Nat) (its : List Tr) (k' x' : Int) (s' : ByteArray) (an' : Option Addr) (cn' : Nat) (ns' : List ByteArray) (a' : Option Addr) (c' : Nat) (its' : List Tr) (w : World)
    (hM : its.length ≤ 9223372036854775806) (hM' : its'.length ≤ 9223372036854775806) (hN : Hid (Reads w (.slice an ns.length cn) ns)) (hN' : Hid (Reads w (.slice an' ns'.length cn') ns')) (hL : Hid (ItemsAt w a its)) (hL' : Hid (ItemsAt w a' its')) (hI : Hid (CmpOk its its')) :
    Calls Tryd.prog 32 #[.agg #[.int .i64 k, .int .i64 x, .string s, .slice an ns.length cn, .slice a its.length c], .agg #[.int .i64 k', .int .i64 x', .string s', .slice an' ns'.length cn', .slice a' its'.length c']] w fun e w' => e = .returned (.int .i64 (cmpM ns its ns' its')) ∧ Below w.heap.size w w' := by
  go_enter Tryd.func32, Tryd.ntmps32
  go_wp2_with fail
  have HB : Below w.heap.size w ((w.alloc (.cells #[.int .i64 k, .int .i64 x, .string s, .slice an ns.length cn, .slice a its.length c] 31)).alloc (.cells #[.int .i64 k', .int .i64 x', .string s', .slice an' ns'.length cn', .slice a' its'.length c'] 31)) := ((Below.refl _ w).alloc (Nat.le_refl _) _).alloc (by simp) _
  have h0 := new1 w (.cells #[.int .i64 k, .int .i64 x, .string s, .slice an ns.length cn, .slice a its.length c] 31) (.cells #[.int .i64 k', .int .i64 x', .string s', .slice an' ns'.length cn', .slice a' its'.length c'] 31)
  have h1 := new2 w (.cells #[.int .i64 k, .int .i64 x, .string s, .slice an ns.length cn, .slice a its.length c] 31) (.cells #[.int .i64 k', .int .i64 x', .string s', .slice an' ns'.length cn', .slice a' its'.length c'] 31)
  generalize (w.alloc (.cells #[.int .i64 k, .int .i64 x, .string s, .slice an ns.length cn, .slice a its.length c] 31)).alloc (.cells #[.int .i64 k', .int .i64 x', .string s', .slice an' ns'.length cn', .slice a' its'.length c'] 31) = X at HB h0 h1
  obtain ⟨y0, y1, y2, y3, y4, -⟩ := row_cells h0
  obtain ⟨z0, z1, z2, z3, z4, -⟩ := row_cells h1
  refine wp_region_quiet (C := fun w' => Below X.heap.size X w') (by kernel_rfl) (by kernel_rfl) (below_drewN (Below.refl _ _) 1) ?_
  refine wpQuiet_step (fun K hK => ?_)
  refine ⟨.agg #[.int .i64 k, .int .i64 x, .string s, .slice an ns.length cn, .slice a its.length c], fun w' hw' => ?_, hK _ ?_⟩
  · have t0 := stay hw' y0
    have t1 := stay hw' y1
    have t2 := stay hw' y2
    have t3 := stay hw' y3
    have t4 := stay hw' y4
    go_simp
  clear hK K
  refine wpQuiet_step (fun K hK => ?_)
  refine ⟨.int .i64 (min ns.length its.length : Nat), fun w' hw' => ?_, hK _ ?_⟩
  · go_simp
    refine (members_any _ _ _ _ _ _ _ _ _ w').mono ?_
    rintro e w'' ⟨rfl, hb⟩
    exact ⟨rfl, hw'.trans (hb.mono hw'.size)⟩
  clear hK K
  refine wpQuiet_step (fun K hK => ?_)
  refine ⟨.agg #[.int .i64 k', .int .i64 x', .string s', .slice an' ns'.length cn', .slice a' its'.length c'], fun w' hw' => ?_, hK _ ?_⟩
  · have t0 := stay hw' z0
    have t1 := stay hw' z1
    have t2 := stay hw' z2
    have t3 := stay hw' z3
    have t4 := stay hw' z4
    go_simp
  clear hK K
  refine wpQuiet_step (fun K hK => ?_)
  refine ⟨.int .i64 (min ns'.length its'.length : Nat), fun w' hw' => ?_, hK _ ?_⟩
  · go_simp
    refine (members_any _ _ _ _ _ _ _ _ _ w').mono ?_
    rintro e w'' ⟨rfl, hb⟩
    exact ⟨rfl, hw'.trans (hb.mono hw'.size)⟩
  clear hK K
  refine wpQuiet_step (fun K hK => ?_)
  go_simp
  refine ⟨_, fun _ _ => rfl, hK _ ?_⟩
  clear hK K
  refine wpQuiet_step (fun K hK => ?_)
  go_simp
  refine ⟨_, fun _ _ => rfl, hK _ ?_⟩
  clear hK K
  refine wpQuiet_nil ?_
  intro Y hY
  have HB' : Below w.heap.size w Y := HB.trans (hY.mono HB.size)
  have h0' := (hY.block _ (Array.getElem?_eq_some_iff.1 h0).1).trans h0
  have h1' := (hY.block _ (Array.getElem?_eq_some_iff.1 h1).1).trans h1
  clear hY HB h0 h1 y0 y1 y2 y3 y4 z0 z1 z2 z3 z4
  obtain ⟨m1, hm1⟩ : ∃ m, Hid (min ns.length its.length = m) := ⟨_, rfl⟩
  obtain ⟨m2, hm2⟩ : ∃ m, Hid (min ns'.length its'.length = m) := ⟨_, rfl⟩
  rw [hm1.out, hm2.out]
  have hb1 : m1 ≤ 9223372036854775806 := by have := hm1.out; omega
  have hb2 : m2 ≤ 9223372036854775806 := by have := hm2.out; omega
  by_cases hle : m1 ≤ m2
  · have hmm : Hid (min m1 m2 = m1) := Nat.min_eq_left hle
    go_wp2_with fail
    clear hle
    go_loopw [17] (fun i wr => ∃ q : Nat, q ≤ m1 ∧ i = .int .i64 q ∧ Below w.heap.size w wr ∧ wr.heap[w.heap.size]? = some (.cells #[.int .i64 k, .int .i64 x, .string s, .slice an ns.length cn, .slice a its.length c] 31 (0, 0)) ∧ wr.heap[w.heap.size + 1]? = some (.cells #[.int .i64 k', .int .i64 x', .string s', .slice an' ns'.length cn', .slice a' its'.length c'] 31 (0, 0)) ∧ Hid (cmpM ns its ns' its' = cmpM (ns.drop q) (its.drop q) (ns'.drop q) (its'.drop q))) (fun i _ => m1 - (intOf i).toNat)
    case atStart => exact ⟨0, Nat.zero_le _, rfl, HB', h0', h1', rfl⟩
    case round =>
      clear HB' h0' h1'
      obtain ⟨q, hq, rfl, HB, h0, h1, hG⟩ := hrel
      obtain ⟨-, -, -, y3, y4, -⟩ := row_cells h0
      obtain ⟨-, -, -, z3, z4, -⟩ := row_cells h1
      by_cases hlt : q < m1
      · have hd : decide ((q : Int) < (m1 : Int)) = true := by simp; omega
        obtain ⟨l1, l2, l3, l4⟩ : q < ns.length ∧ q < its.length ∧ q < ns'.length ∧ q < its'.length := by have e1 := hm1.out; have e2 := hm2.out; have e3 := hmm.out; omega
        obtain ⟨n, hn⟩ : ∃ n, Hid (ns[q]? = some n) := ⟨_, List.getElem?_eq_getElem l1⟩
        obtain ⟨n', hn'⟩ : ∃ n, Hid (ns'[q]? = some n) := ⟨_, List.getElem?_eq_getElem l3⟩
        obtain ⟨u, hu⟩ : ∃ u, Hid (its[q]? = some u) := ⟨_, List.getElem?_eq_getElem l2⟩
        obtain ⟨v, hv⟩ : ∃ v, Hid (its'[q]? = some v) := ⟨_, List.getElem?_eq_getElem l4⟩
        obtain ⟨_, _, e, _, hR⟩ := hN.out
        cases e
        obtain ⟨gn, on, rfl, _, hR⟩ := hR.resolve_left (by intro e; subst e; simp at l1)
        have c1 := stay HB (hR q n hn.out)
        clear hR
        obtain ⟨_, _, e, _, hR⟩ := hN'.out
        cases e
        obtain ⟨gn', on', rfl, _, hR⟩ := hR.resolve_left (by intro e; subst e; simp at l3)
        have c2 := stay HB (hR q n' hn'.out)
        clear hR
        obtain ⟨b, o, rfl, hb, hV⟩ := hL.out.resolve_left (by intro e; subst e; simp at l2)
        obtain ⟨cs, hC, hr⟩ := VRepL.at its o q u hV hu.out
        obtain ⟨k2, x2, s2, an2, ln2, cn2, ai2, li2, ci2, rfl⟩ := vrep_five hr
        obtain ⟨b', o', rfl, hb', hV'⟩ := hL'.out.resolve_left (by intro e; subst e; simp at l4)
        obtain ⟨cs', hC', hr'⟩ := VRepL.at its' o' q v hV' hv.out
        obtain ⟨k3, x3, s3, an3, ln3, cn3, ai3, li3, ci3, rfl⟩ := vrep_five hr'
        have p0 := stay HB (hC 0 _ rfl)
        have r0 := stay HB (hC' 0 _ rfl)
        have p1 := stay HB (hC 1 _ rfl)
        have r1 := stay HB (hC' 1 _ rfl)
        have p2 := stay HB (hC 2 _ rfl)
        have r2 := stay HB (hC' 2 _ rfl)
        have p3 := stay HB (hC 3 _ rfl)
        have r3 := stay HB (hC' 3 _ rfl)
        have p4 := stay HB (hC 4 _ rfl)
        have r4 := stay HB (hC' 4 _ rfl)
        simp only [Nat.add_zero] at p0 r0
        have hcall := hid_e (fun W (hW : Below w.heap.size w W) => hI.out q u v hu.out hv.out _ _ W (VRep.keep hW _ _ hr) (VRep.keep hW _ _ hr'))
        have hst := hid_e (hG.out.trans (cmpM_step hn.out hn'.out hu.out hv.out))
        clear hV hV' hC hC' hr hr' hG
        obtain ⟨z, hz⟩ : ∃ z, Hid (cmpT u v = z) := ⟨_, rfl⟩
        obtain ⟨y, hy⟩ : ∃ y, Hid (cmpS n n' = y) := ⟨_, rfl⟩
        rw [hz.out, hy.out] at hst
        rw [hz.out] at hcall
        have i1 : (q : Int) < (ns.length : Int) := by omega
        have i2 : (q : Int) < (ns'.length : Int) := by omega
        have i3 : (q : Int) < (its.length : Int) := by omega
        have i4 : (q : Int) < (its'.length : Int) := by omega
        have i5 : (0 : Int) ≤ (q : Int) := by omega
        go_wp2_with fail
        refine wp_region_quiet (C := fun w' => Below wr.heap.size wr w') (by kernel_rfl) (by kernel_rfl) (below_drewN (Below.refl _ _) 1) ?_
        refine wpQuiet_step (fun K hK => ?_)
        go_simp
        refine ⟨_, fun _ _ => rfl, hK _ ?_⟩
        clear hK K
        refine wpQuiet_step (fun K hK => ?_)
        refine ⟨.slice (some ⟨gn, on, none⟩) ns.length cn, fun w' hw' => ?_, hK _ ?_⟩
        · have t0 := stay hw' y3
          go_simp
        clear hK K
        refine wpQuiet_step (fun K hK => ?_)
        go_simp
        refine ⟨_, fun _ _ => rfl, hK _ ?_⟩
        clear hK K
        refine wpQuiet_step (fun K hK => ?_)
        go_simp
        refine ⟨_, fun _ _ => rfl, hK _ ?_⟩
        clear hK K
        refine wpQuiet_step (fun K hK => ?_)
        refine ⟨.string n, fun w' hw' => ?_, hK _ ?_⟩
        · have t0 := stay hw' c1
          go_simp
        clear hK K
        refine wpQuiet_step (fun K hK => ?_)
        go_simp
        refine ⟨_, fun _ _ => rfl, hK _ ?_⟩
        clear hK K
        refine wpQuiet_step (fun K hK => ?_)
        refine ⟨.slice (some ⟨gn', on', none⟩) ns'.length cn', fun w' hw' => ?_, hK _ ?_⟩
        · have t0 := stay hw' z3
          go_simp
        clear hK K
        refine wpQuiet_step (fun K hK => ?_)
        go_simp
        refine ⟨_, fun _ _ => rfl, hK _ ?_⟩
        clear hK K
        refine wpQuiet_step (fun K hK => ?_)
        go_simp
        refine ⟨_, fun _ _ => rfl, hK _ ?_⟩
        clear hK K
        refine wpQuiet_step (fun K hK => ?_)
        refine ⟨.string n', fun w' hw' => ?_, hK _ ?_⟩
        · have t0 := stay hw' c2
          go_simp
        clear hK K
        refine wpQuiet_step (fun K hK => ?_)
        refine ⟨.int .i64 y, fun w' hw' => ?_, hK _ ?_⟩
        · go_simp
          refine (cmpStr n n' w').mono ?_
          rintro e w'' ⟨rfl, rfl⟩
          exact ⟨by rw [hy.out], hw'⟩
        clear hK K
        refine wpQuiet_step (fun K hK => ?_)
        go_simp
        refine ⟨_, fun _ _ => rfl, hK _ ?_⟩
        clear hK K
        refine wpQuiet_nil ?_
        intro Y1 hY1
        have HB1 : Below w.heap.size w Y1 := HB.trans (hY1.mono HB.size)
        have h01 := (hY1.block _ (Array.getElem?_eq_some_iff.1 h0).1).trans h0
        have h11 := (hY1.block _ (Array.getElem?_eq_some_iff.1 h1).1).trans h1
        replace p0 := stay hY1 p0
        replace p1 := stay hY1 p1
        replace p2 := stay hY1 p2
        replace p3 := stay hY1 p3
        replace p4 := stay hY1 p4
        replace r0 := stay hY1 r0
        replace r1 := stay hY1 r1
        replace r2 := stay hY1 r2
        replace r3 := stay hY1 r3
        replace r4 := stay hY1 r4
        replace y4 := stay hY1 y4
        replace z4 := stay hY1 z4
        clear hY1 HB h0 h1 y3 z3 c1 c2
        by_cases hy0 : y = 0
        · subst hy0
          replace hst := hid_e (hst.out.trans (if_neg (fun e => e rfl)))
          go_wp2_with fail
          refine wp_region_quiet (C := fun w' => Below Y1.heap.size Y1 w') (by kernel_rfl) (by kernel_rfl) (below_drewN (Below.refl _ _) 1) ?_
          refine wpQuiet_step (fun K hK => ?_)
          go_simp
          refine ⟨_, fun _ _ => rfl, hK _ ?_⟩
          clear hK K
          refine wpQuiet_step (fun K hK => ?_)
          refine ⟨.slice (some ⟨b, o, none⟩) its.length c, fun w' hw' => ?_, hK _ ?_⟩
          · have t0 := stay hw' y4
            go_simp
          clear hK K
          refine wpQuiet_step (fun K hK => ?_)
          go_simp
          refine ⟨_, fun _ _ => rfl, hK _ ?_⟩
          clear hK K
          refine wpQuiet_step (fun K hK => ?_)
          go_simp
          refine ⟨_, fun _ _ => rfl, hK _ ?_⟩
          clear hK K
          refine wpQuiet_step (fun K hK => ?_)
          refine ⟨.agg #[.int .i64 k2, .int .i64 x2, .string s2, .slice an2 ln2 cn2, .slice ai2 li2 ci2], fun w' hw' => ?_, hK _ ?_⟩
          · have t0 := stay hw' p0
            have t1 := stay hw' p1
            have t2 := stay hw' p2
            have t3 := stay hw' p3
            have t4 := stay hw' p4
            go_simp
          clear hK K
          refine wpQuiet_step (fun K hK => ?_)
          go_simp
          refine ⟨_, fun _ _ => rfl, hK _ ?_⟩
          clear hK K
          refine wpQuiet_step (fun K hK => ?_)
          refine ⟨.slice (some ⟨b', o', none⟩) its'.length c', fun w' hw' => ?_, hK _ ?_⟩
          · have t0 := stay hw' z4
            go_simp
          clear hK K
          refine wpQuiet_step (fun K hK => ?_)
          go_simp
          refine ⟨_, fun _ _ => rfl, hK _ ?_⟩
          clear hK K
          refine wpQuiet_step (fun K hK => ?_)
          go_simp
          refine ⟨_, fun _ _ => rfl, hK _ ?_⟩
          clear hK K
          refine wpQuiet_step (fun K hK => ?_)
          refine ⟨.agg #[.int .i64 k3, .int .i64 x3, .string s3, .slice an3 ln3 cn3, .slice ai3 li3 ci3], fun w' hw' => ?_, hK _ ?_⟩
          · have t0 := stay hw' r0
            have t1 := stay hw' r1
            have t2 := stay hw' r2
            have t3 := stay hw' r3
            have t4 := stay hw' r4
            go_simp
          clear hK K
          refine wpQuiet_step (fun K hK => ?_)
          refine ⟨.int .i64 z, fun w' hw' => ?_, hK _ ?_⟩
          · go_simp
            refine (hcall.out w' (HB1.trans (hw'.mono HB1.size))).mono ?_
            rintro e w'' ⟨rfl, hb⟩
            exact ⟨rfl, hw'.trans (hb.mono hw'.size)⟩
          clear hK K
          refine wpQuiet_step (fun K hK => ?_)
          go_simp
          refine ⟨_, fun _ _ => rfl, hK _ ?_⟩
          clear hK K
          refine wpQuiet_nil ?_
          intro Y2 hY2
          have HB2 : Below w.heap.size w Y2 := HB1.trans (hY2.mono HB1.size)
          have h02 := (hY2.block _ (Array.getElem?_eq_some_iff.1 h01).1).trans h01
          have h12 := (hY2.block _ (Array.getElem?_eq_some_iff.1 h11).1).trans h11
          clear hY2 HB1 h01 h11 y4 z4 p0 p1 p2 p3 p4 r0 r1 r2 r3 r4 hcall
          by_cases hz0 : z = 0
          · subst hz0
            replace hst := hid_e (hst.out.trans (if_neg (fun e => e rfl)))
            go_wp2_with fail
            go_roundw
            case rel => exact ⟨q + 1, by omega, by simp, HB2, h02, h12, hst⟩
            case measure => simp [intOf]; omega
          · have hz1 : (z == 0) = false := by simpa using hz0
            replace hst := hid_e (hst.out.trans (if_pos hz0))
            go_wp2_with fail
            go_ret
            exact ⟨ret_int hst.out.symm, HB2⟩
        · have hy1 : (y == 0) = false := by simpa using hy0
          replace hst := hid_e (hst.out.trans (if_pos hy0))
          go_wp2_with fail
          go_ret
          exact ⟨ret_int hst.out.symm, HB1⟩
      · have hd : decide ((q : Int) < (m1 : Int)) = false := by simp; omega
        have hst := hid_e (hG.out.trans (cmpM_end (by have e1 := hm1.out; have e2 := hm2.out; have e3 := hmm.out; omega)))
        rw [hm1.out, hm2.out] at hst
        clear hG y3 y4 z3 z4
        go_wp2_with fail
        refine (cmp3 _ _ _).mono ?_
        rintro e w' ⟨rfl, rfl⟩
        go_wp2_with fail
        go_ret
        exact ⟨ret_int hst.out.symm, HB⟩
  · have hmm : Hid (min m1 m2 = m2) := Nat.min_eq_right (by omega)
    go_wp2_with fail
    clear hle
    go_loopw [17] (fun i wr => ∃ q : Nat, q ≤ m2 ∧ i = .int .i64 q ∧ Below w.heap.size w wr ∧ wr.heap[w.heap.size]? = some (.cells #[.int .i64 k, .int .i64 x, .string s, .slice an ns.length cn, .slice a its.length c] 31 (0, 0)) ∧ wr.heap[w.heap.size + 1]? = some (.cells #[.int .i64 k', .int .i64 x', .string s', .slice an' ns'.length cn', .slice a' its'.length c'] 31 (0, 0)) ∧ Hid (cmpM ns its ns' its' = cmpM (ns.drop q) (its.drop q) (ns'.drop q) (its'.drop q))) (fun i _ => m2 - (intOf i).toNat)
    case atStart => exact ⟨0, Nat.zero_le _, rfl, HB', h0', h1', rfl⟩
    case round =>
      clear HB' h0' h1'
      obtain ⟨q, hq, rfl, HB, h0, h1, hG⟩ := hrel
      obtain ⟨-, -, -, y3, y4, -⟩ := row_cells h0
      obtain ⟨-, -, -, z3, z4, -⟩ := row_cells h1
      by_cases hlt : q < m2
      · have hd : decide ((q : Int) < (m2 : Int)) = true := by simp; omega
        obtain ⟨l1, l2, l3, l4⟩ : q < ns.length ∧ q < its.length ∧ q < ns'.length ∧ q < its'.length := by have e1 := hm1.out; have e2 := hm2.out; have e3 := hmm.out; omega
        obtain ⟨n, hn⟩ : ∃ n, Hid (ns[q]? = some n) := ⟨_, List.getElem?_eq_getElem l1⟩
        obtain ⟨n', hn'⟩ : ∃ n, Hid (ns'[q]? = some n) := ⟨_, List.getElem?_eq_getElem l3⟩
        obtain ⟨u, hu⟩ : ∃ u, Hid (its[q]? = some u) := ⟨_, List.getElem?_eq_getElem l2⟩
        obtain ⟨v, hv⟩ : ∃ v, Hid (its'[q]? = some v) := ⟨_, List.getElem?_eq_getElem l4⟩
        obtain ⟨_, _, e, _, hR⟩ := hN.out
        cases e
        obtain ⟨gn, on, rfl, _, hR⟩ := hR.resolve_left (by intro e; subst e; simp at l1)
        have c1 := stay HB (hR q n hn.out)
        clear hR
        obtain ⟨_, _, e, _, hR⟩ := hN'.out
        cases e
        obtain ⟨gn', on', rfl, _, hR⟩ := hR.resolve_left (by intro e; subst e; simp at l3)
        have c2 := stay HB (hR q n' hn'.out)
        clear hR
        obtain ⟨b, o, rfl, hb, hV⟩ := hL.out.resolve_left (by intro e; subst e; simp at l2)
        obtain ⟨cs, hC, hr⟩ := VRepL.at its o q u hV hu.out
        obtain ⟨k2, x2, s2, an2, ln2, cn2, ai2, li2, ci2, rfl⟩ := vrep_five hr
        obtain ⟨b', o', rfl, hb', hV'⟩ := hL'.out.resolve_left (by intro e; subst e; simp at l4)
        obtain ⟨cs', hC', hr'⟩ := VRepL.at its' o' q v hV' hv.out
        obtain ⟨k3, x3, s3, an3, ln3, cn3, ai3, li3, ci3, rfl⟩ := vrep_five hr'
        have p0 := stay HB (hC 0 _ rfl)
        have r0 := stay HB (hC' 0 _ rfl)
        have p1 := stay HB (hC 1 _ rfl)
        have r1 := stay HB (hC' 1 _ rfl)
        have p2 := stay HB (hC 2 _ rfl)
        have r2 := stay HB (hC' 2 _ rfl)
        have p3 := stay HB (hC 3 _ rfl)
        have r3 := stay HB (hC' 3 _ rfl)
        have p4 := stay HB (hC 4 _ rfl)
        have r4 := stay HB (hC' 4 _ rfl)
        simp only [Nat.add_zero] at p0 r0
        have hcall := hid_e (fun W (hW : Below w.heap.size w W) => hI.out q u v hu.out hv.out _ _ W (VRep.keep hW _ _ hr) (VRep.keep hW _ _ hr'))
        have hst := hid_e (hG.out.trans (cmpM_step hn.out hn'.out hu.out hv.out))
        clear hV hV' hC hC' hr hr' hG
        obtain ⟨z, hz⟩ : ∃ z, Hid (cmpT u v = z) := ⟨_, rfl⟩
        obtain ⟨y, hy⟩ : ∃ y, Hid (cmpS n n' = y) := ⟨_, rfl⟩
        rw [hz.out, hy.out] at hst
        rw [hz.out] at hcall
        have i1 : (q : Int) < (ns.length : Int) := by omega
        have i2 : (q : Int) < (ns'.length : Int) := by omega
        have i3 : (q : Int) < (its.length : Int) := by omega
        have i4 : (q : Int) < (its'.length : Int) := by omega
        have i5 : (0 : Int) ≤ (q : Int) := by omega
        go_wp2_with fail
        refine wp_region_quiet (C := fun w' => Below wr.heap.size wr w') (by kernel_rfl) (by kernel_rfl) (below_drewN (Below.refl _ _) 1) ?_
        refine wpQuiet_step (fun K hK => ?_)
        go_simp
        refine ⟨_, fun _ _ => rfl, hK _ ?_⟩
        clear hK K
        refine wpQuiet_step (fun K hK => ?_)
        refine ⟨.slice (some ⟨gn, on, none⟩) ns.length cn, fun w' hw' => ?_, hK _ ?_⟩
        · have t0 := stay hw' y3
          go_simp
        clear hK K
        refine wpQuiet_step (fun K hK => ?_)
        go_simp
        refine ⟨_, fun _ _ => rfl, hK _ ?_⟩
        clear hK K
        refine wpQuiet_step (fun K hK => ?_)
        go_simp
        refine ⟨_, fun _ _ => rfl, hK _ ?_⟩
        clear hK K
        refine wpQuiet_step (fun K hK => ?_)
        refine ⟨.string n, fun w' hw' => ?_, hK _ ?_⟩
        · have t0 := stay hw' c1
          go_simp
        clear hK K
        refine wpQuiet_step (fun K hK => ?_)
        go_simp
        refine ⟨_, fun _ _ => rfl, hK _ ?_⟩
        clear hK K
        refine wpQuiet_step (fun K hK => ?_)
        refine ⟨.slice (some ⟨gn', on', none⟩) ns'.length cn', fun w' hw' => ?_, hK _ ?_⟩
        · have t0 := stay hw' z3
          go_simp
        clear hK K
        refine wpQuiet_step (fun K hK => ?_)
        go_simp
        refine ⟨_, fun _ _ => rfl, hK _ ?_⟩
        clear hK K
        refine wpQuiet_step (fun K hK => ?_)
        go_simp
        refine ⟨_, fun _ _ => rfl, hK _ ?_⟩
        clear hK K
        refine wpQuiet_step (fun K hK => ?_)
        refine ⟨.string n', fun w' hw' => ?_, hK _ ?_⟩
        · have t0 := stay hw' c2
          go_simp
        clear hK K
        refine wpQuiet_step (fun K hK => ?_)
        refine ⟨.int .i64 y, fun w' hw' => ?_, hK _ ?_⟩
        · go_simp
          refine (cmpStr n n' w').mono ?_
          rintro e w'' ⟨rfl, rfl⟩
          exact ⟨by rw [hy.out], hw'⟩
        clear hK K
        refine wpQuiet_step (fun K hK => ?_)
        go_simp
        refine ⟨_, fun _ _ => rfl, hK _ ?_⟩
        clear hK K
        refine wpQuiet_nil ?_
        intro Y1 hY1
        have HB1 : Below w.heap.size w Y1 := HB.trans (hY1.mono HB.size)
        have h01 := (hY1.block _ (Array.getElem?_eq_some_iff.1 h0).1).trans h0
        have h11 := (hY1.block _ (Array.getElem?_eq_some_iff.1 h1).1).trans h1
        replace p0 := stay hY1 p0
        replace p1 := stay hY1 p1
        replace p2 := stay hY1 p2
        replace p3 := stay hY1 p3
        replace p4 := stay hY1 p4
        replace r0 := stay hY1 r0
        replace r1 := stay hY1 r1
        replace r2 := stay hY1 r2
        replace r3 := stay hY1 r3
        replace r4 := stay hY1 r4
        replace y4 := stay hY1 y4
        replace z4 := stay hY1 z4
        clear hY1 HB h0 h1 y3 z3 c1 c2
        by_cases hy0 : y = 0
        · subst hy0
          replace hst := hid_e (hst.out.trans (if_neg (fun e => e rfl)))
          go_wp2_with fail
          refine wp_region_quiet (C := fun w' => Below Y1.heap.size Y1 w') (by kernel_rfl) (by kernel_rfl) (below_drewN (Below.refl _ _) 1) ?_
          refine wpQuiet_step (fun K hK => ?_)
          go_simp
          refine ⟨_, fun _ _ => rfl, hK _ ?_⟩
          clear hK K
          refine wpQuiet_step (fun K hK => ?_)
          refine ⟨.slice (some ⟨b, o, none⟩) its.length c, fun w' hw' => ?_, hK _ ?_⟩
          · have t0 := stay hw' y4
            go_simp
          clear hK K
          refine wpQuiet_step (fun K hK => ?_)
          go_simp
          refine ⟨_, fun _ _ => rfl, hK _ ?_⟩
          clear hK K
          refine wpQuiet_step (fun K hK => ?_)
          go_simp
          refine ⟨_, fun _ _ => rfl, hK _ ?_⟩
          clear hK K
          refine wpQuiet_step (fun K hK => ?_)
          refine ⟨.agg #[.int .i64 k2, .int .i64 x2, .string s2, .slice an2 ln2 cn2, .slice ai2 li2 ci2], fun w' hw' => ?_, hK _ ?_⟩
          · have t0 := stay hw' p0
            have t1 := stay hw' p1
            have t2 := stay hw' p2
            have t3 := stay hw' p3
            have t4 := stay hw' p4
            go_simp
          clear hK K
          refine wpQuiet_step (fun K hK => ?_)
          go_simp
          refine ⟨_, fun _ _ => rfl, hK _ ?_⟩
          clear hK K
          refine wpQuiet_step (fun K hK => ?_)
          refine ⟨.slice (some ⟨b', o', none⟩) its'.length c', fun w' hw' => ?_, hK _ ?_⟩
          · have t0 := stay hw' z4
            go_simp
          clear hK K
          refine wpQuiet_step (fun K hK => ?_)
          go_simp
          refine ⟨_, fun _ _ => rfl, hK _ ?_⟩
          clear hK K
          refine wpQuiet_step (fun K hK => ?_)
          go_simp
          refine ⟨_, fun _ _ => rfl, hK _ ?_⟩
          clear hK K
          refine wpQuiet_step (fun K hK => ?_)
          refine ⟨.agg #[.int .i64 k3, .int .i64 x3, .string s3, .slice an3 ln3 cn3, .slice ai3 li3 ci3], fun w' hw' => ?_, hK _ ?_⟩
          · have t0 := stay hw' r0
            have t1 := stay hw' r1
            have t2 := stay hw' r2
            have t3 := stay hw' r3
            have t4 := stay hw' r4
            go_simp
          clear hK K
          refine wpQuiet_step (fun K hK => ?_)
          refine ⟨.int .i64 z, fun w' hw' => ?_, hK _ ?_⟩
          · go_simp
            refine (hcall.out w' (HB1.trans (hw'.mono HB1.size))).mono ?_
            rintro e w'' ⟨rfl, hb⟩
            exact ⟨rfl, hw'.trans (hb.mono hw'.size)⟩
          clear hK K
          refine wpQuiet_step (fun K hK => ?_)
          go_simp
          refine ⟨_, fun _ _ => rfl, hK _ ?_⟩
          clear hK K
          refine wpQuiet_nil ?_
          intro Y2 hY2
          have HB2 : Below w.heap.size w Y2 := HB1.trans (hY2.mono HB1.size)
          have h02 := (hY2.block _ (Array.getElem?_eq_some_iff.1 h01).1).trans h01
          have h12 := (hY2.block _ (Array.getElem?_eq_some_iff.1 h11).1).trans h11
          clear hY2 HB1 h01 h11 y4 z4 p0 p1 p2 p3 p4 r0 r1 r2 r3 r4 hcall
          by_cases hz0 : z = 0
          · subst hz0
            replace hst := hid_e (hst.out.trans (if_neg (fun e => e rfl)))
            go_wp2_with fail
            go_roundw
            case rel => exact ⟨q + 1, by omega, by simp, HB2, h02, h12, hst⟩
            case measure => simp [intOf]; omega
          · have hz1 : (z == 0) = false := by simpa using hz0
            replace hst := hid_e (hst.out.trans (if_pos hz0))
            go_wp2_with fail
            go_ret
            exact ⟨ret_int hst.out.symm, HB2⟩
        · have hy1 : (y == 0) = false := by simpa using hy0
          replace hst := hid_e (hst.out.trans (if_pos hy0))
          go_wp2_with fail
          go_ret
          exact ⟨ret_int hst.out.symm, HB1⟩
      · have hd : decide ((q : Int) < (m2 : Int)) = false := by simp; omega
        have hst := hid_e (hG.out.trans (cmpM_end (by have e1 := hm1.out; have e2 := hm2.out; have e3 := hmm.out; omega)))
        rw [hm1.out, hm2.out] at hst
        clear hG y3 y4 z3 z4
        go_wp2_with fail
        refine (cmp3 _ _ _).mono ?_
        rintro e w' ⟨rfl, rfl⟩
        go_wp2_with fail
        go_ret
        exact ⟨ret_int hst.out.symm, HB⟩
end Go.Proofs.YthijpmomcompaaaDoor
