import Derived.Test.YthijpmomcompaaaDoorM2
import Derived.Test.YthijpmomcompaaaDoorT1
/-! The document's Compare of every two values. -/
namespace Go.Proofs.YthijpmomcompaaaDoor
open Go Go.RowKit

set_option maxHeartbeats 8000000 in
set_option maxRecDepth 100000 in
theorem rcompare_one (k x : Int) (s : ByteArray) (an : Option Addr) (cn : Nat) (ns : List ByteArray) (a : Option Addr) (c : Nat) (its : List Tr) (k' x' : Int) (s' : ByteArray) (an' : Option Addr) (cn' : Nat) (ns' : List ByteArray) (a' : Option Addr) (c' : Nat) (its' : List Tr) (w : World)
    (hM : its.length ≤ 9223372036854775806) (hM' : its'.length ≤ 9223372036854775806) (hsz : s.size ≤ 9223372036854775806) (hz : Hid (∀ n ∈ ns, n.size ≤ 9223372036854775806)) (hN : Hid (Reads w (.slice an ns.length cn) ns)) (hN' : Hid (Reads w (.slice an' ns'.length cn') ns')) (hL : Hid (ItemsAt w a its)) (hL' : Hid (ItemsAt w a' its')) (hI : Hid (RCmpOk its its')) :
    Calls Tryd.prog 21 #[.agg #[.int .i64 k, .int .i64 x, .string s, .slice an ns.length cn, .slice a its.length c], .agg #[.int .i64 k', .int .i64 x', .string s', .slice an' ns'.length cn', .slice a' its'.length c']] w fun e w' => e = .returned (.int .i64 (cmpT (.node k x s ns its) (.node k' x' s' ns' its'))) ∧ Below w.heap.size w w' := by
  obtain ⟨R, hR⟩ : ∃ R, Hid (cmpT (.node k x s ns its) (.node k' x' s' ns' its') = R) := ⟨_, rfl⟩
  rw [hR.out]
  replace hR := hid_e (hR.out.symm.trans (by unfold cmpT; rfl))
  go_enter Tryd.func21, Tryd.ntmps21
  go_wp2_with fail
  have HB : Below w.heap.size w ((w.alloc (.cells #[.int .i64 k, .int .i64 x, .string s, .slice an ns.length cn, .slice a its.length c] 31)).alloc (.cells #[.int .i64 k', .int .i64 x', .string s', .slice an' ns'.length cn', .slice a' its'.length c'] 31)) := ((Below.refl _ w).alloc (Nat.le_refl _) _).alloc (by simp) _
  have h0 := new1 w (.cells #[.int .i64 k, .int .i64 x, .string s, .slice an ns.length cn, .slice a its.length c] 31) (.cells #[.int .i64 k', .int .i64 x', .string s', .slice an' ns'.length cn', .slice a' its'.length c'] 31)
  have h1 := new2 w (.cells #[.int .i64 k, .int .i64 x, .string s, .slice an ns.length cn, .slice a its.length c] 31) (.cells #[.int .i64 k', .int .i64 x', .string s', .slice an' ns'.length cn', .slice a' its'.length c'] 31)
  generalize (w.alloc (.cells #[.int .i64 k, .int .i64 x, .string s, .slice an ns.length cn, .slice a its.length c] 31)).alloc (.cells #[.int .i64 k', .int .i64 x', .string s', .slice an' ns'.length cn', .slice a' its'.length c'] 31) = X at HB h0 h1
  obtain ⟨y0, y1, y2, y3, y4, -⟩ := row_cells h0
  obtain ⟨z0, z1, z2, z3, z4, -⟩ := row_cells h1
  obtain ⟨d, hd⟩ : ∃ d, Hid (cmpI (rankZ k) (rankZ k') = d) := ⟨_, rfl⟩
  rw [hd.out] at hR
  refine wp_region_quiet (C := fun w' => Below X.heap.size X w') (by kernel_rfl) (by kernel_rfl) (below_drewN (Below.refl _ _) 1) ?_
  refine wpQuiet_step (fun K hK => ?_)
  refine ⟨.agg #[.int .i64 k, .int .i64 x, .string s, .slice an ns.length cn, .slice a its.length c], fun w' hw' => ?_, hK _ ?_⟩
  · have t0 := stay hw' y0
    have t1 := stay hw' y1
    have t2 := stay hw' y2
    have t3 := stay hw' y3
    have t4 := stay hw' y4
    go_simp
  clear hK K
  refine wpQuiet_step (fun K hK => ?_)
  refine ⟨.int .i64 (rankZ k), fun w' hw' => ?_, hK _ ?_⟩
  · go_simp
    refine (rrank_any _ _ _ _ _ _ _ _ _ w').mono ?_
    rintro e w'' ⟨rfl, hb⟩
    exact ⟨rfl, hw'.trans (hb.mono hw'.size)⟩
  clear hK K
  refine wpQuiet_step (fun K hK => ?_)
  refine ⟨.agg #[.int .i64 k', .int .i64 x', .string s', .slice an' ns'.length cn', .slice a' its'.length c'], fun w' hw' => ?_, hK _ ?_⟩
  · have t0 := stay hw' z0
    have t1 := stay hw' z1
    have t2 := stay hw' z2
    have t3 := stay hw' z3
    have t4 := stay hw' z4
    go_simp
  clear hK K
  refine wpQuiet_step (fun K hK => ?_)
  refine ⟨.int .i64 (rankZ k'), fun w' hw' => ?_, hK _ ?_⟩
  · go_simp
    refine (rrank_any _ _ _ _ _ _ _ _ _ w').mono ?_
    rintro e w'' ⟨rfl, hb⟩
    exact ⟨rfl, hw'.trans (hb.mono hw'.size)⟩
  clear hK K
  refine wpQuiet_step (fun K hK => ?_)
  refine ⟨.int .i64 d, fun w' hw' => ?_, hK _ ?_⟩
  · go_simp
    refine (ints_any _ _ w').mono ?_
    rintro e w'' ⟨rfl, rfl⟩
    exact ⟨by rw [hd.out], hw'⟩
  clear hK K
  refine wpQuiet_step (fun K hK => ?_)
  go_simp
  refine ⟨_, fun _ _ => rfl, hK _ ?_⟩
  clear hK K
  refine wpQuiet_nil ?_
  intro Y hY
  have HB' : Below w.heap.size w Y := HB.trans (hY.mono HB.size)
  have h0' := (hY.block _ (Array.getElem?_eq_some_iff.1 h0).1).trans h0
  have h1' := (hY.block _ (Array.getElem?_eq_some_iff.1 h1).1).trans h1
  clear hY HB h0 h1 y0 y1 y2 y3 y4 z0 z1 z2 z3 z4
  obtain ⟨y0, y1, y2, y3, y4, -⟩ := row_cells h0'
  obtain ⟨z0, z1, z2, z3, z4, -⟩ := row_cells h1'
  clear h0' h1'
  by_cases hd0 : d = 0
  · subst hd0
    replace hR := hid_e (hR.out.trans (if_neg (fun e => e rfl)))
    replace hd := hid_e (cmpI_zero hd.out)
    by_cases k3 : k = 3
    · subst k3
      replace hR := hid_e (hR.out.trans (if_pos rfl))
      go_wp2_with fail
      refine (ints_any _ _ _).mono ?_
      rintro e w' ⟨rfl, rfl⟩
      go_wp2_with fail
      go_ret
      exact ⟨ret_int hR.out.symm, HB'⟩
    have e3 : (k == 3) = false := by simpa using k3
    replace hR := hid_e (hR.out.trans (if_neg k3))
    by_cases k4 : k = 4
    · subst k4
      replace hR := hid_e (hR.out.trans (if_pos rfl))
      go_wp2_with fail
      refine (texts_cmp _ _ hsz _).mono ?_
      rintro e w' ⟨rfl, mm, rfl⟩
      go_wp2_with fail
      go_ret
      exact ⟨ret_int hR.out.symm, below_drewN HB' mm⟩
    have e4 : (k == 4) = false := by simpa using k4
    replace hR := hid_e (hR.out.trans (if_neg k4))
    by_cases k6 : k = 6
    · subst k6
      replace hR := hid_e (hR.out.trans (if_pos rfl))
      obtain rfl : k' = 6 := rank_inj hd.out (by decide)
      go_wp2_with fail
      go_fit (lists6 x s an cn ns a c its x' s' an' cn' ns' a' c' its' Y hM hM' (hid_e (hN.out.keep HB')) (hid_e (hN'.out.keep HB')) hz (hid_e (hL.out.keep HB')) (hid_e (hL'.out.keep HB')) hI)
      rintro e w' ⟨rfl, hb⟩
      go_wp2_with fail
      go_ret
      exact ⟨ret_int hR.out.symm, HB'.trans (hb.mono HB'.size)⟩
    have e6 : (k == 6) = false := by simpa using k6
    replace hR := hid_e (hR.out.trans (if_neg k6))
    by_cases k5 : k = 5
    · subst k5
      replace hR := hid_e (hR.out.trans (if_pos rfl))
      obtain rfl : k' = 5 := rank_inj hd.out (by decide)
      go_wp2_with fail
      go_fit (lists5 x s an cn ns a c its x' s' an' cn' ns' a' c' its' Y hM hM' (hid_e (hL.out.keep HB')) (hid_e (hL'.out.keep HB')) hI)
      rintro e w' ⟨rfl, hb⟩
      go_wp2_with fail
      go_ret
      exact ⟨ret_int hR.out.symm, HB'.trans (hb.mono HB'.size)⟩
    have e5 : (k == 5) = false := by simpa using k5
    replace hR := hid_e (hR.out.trans (if_neg k5))
    go_wp2_with fail
    go_ret
    exact ⟨ret_int hR.out.symm, HB'⟩
  · have hd1 : (d == 0) = false := by simpa using hd0
    replace hR := hid_e (hR.out.trans (if_pos hd0))
    go_wp2_with fail
    go_ret
    exact ⟨ret_int hR.out.symm, HB'⟩

theorem rcompare_any (t u : Tr) (cs cs' : List Value) (w : World) (hV : VRep w t cs) (hV' : VRep w u cs') (hS : SmallT t) (hS' : SmallT u) :
    Calls Tryd.prog 21 #[.agg cs.toArray, .agg cs'.toArray] w fun e w' => e = .returned (.int .i64 (cmpT t u)) ∧ Below w.heap.size w w' := by
  match t, u, hV, hV', hS, hS' with
  | .node k x s ns its, .node k' x' s' ns' its', hV, hV', hS, hS' =>
    unfold VRep at hV hV'
    unfold SmallT at hS hS'
    obtain ⟨nm, a, c, rfl, hn, hc, hI⟩ := hV
    obtain ⟨nm', a', c', rfl, hn', hc', hI'⟩ := hV'
    obtain ⟨an, cn, rfl, -, -⟩ := id hn
    obtain ⟨an', cn', rfl, -, -⟩ := id hn'
    refine rcompare_one k x s an cn ns a c its k' x' s' an' cn' ns' a' c' its' w (by omega) (by omega) (by omega) (hid_e (fun n h => by have := hS.2.2.1 n h; omega)) (hid_e hn) (hid_e hn') (hid_e hI) (hid_e hI') (hid_e (fun i u v hu hv ds ds' w' h1 h2 => ?_))
    have hlt : SizeOf.sizeOf u < SizeOf.sizeOf its := tr_lt hu
    exact rcompare_any u v ds ds' w' h1 h2 (SmallL.at hS.2.2.2.2 hu) (SmallL.at hS'.2.2.2.2 hv)
termination_by SizeOf.sizeOf t
decreasing_by simp only [Tr.node.sizeOf_spec]; omega
end Go.Proofs.YthijpmomcompaaaDoor
