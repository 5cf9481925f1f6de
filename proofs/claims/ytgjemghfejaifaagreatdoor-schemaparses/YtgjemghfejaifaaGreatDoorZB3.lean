import Derived.Test.YtgjemghfejaifaaGreatDoorZB2
/-! Check of every value: the walk down. -/
namespace Go.Proofs.YtgjemghfejaifaaGreatDoor
open Go Go.RowKit Go.Maps

theorem aloneT_ok {d : Nat} {k x : Int} {s : ByteArray} {n m : Nat} (h : aloneT d k x s n m = 0) : (d : Int) ≤ deepB k ∧ 0 ≤ k ∧ k ≤ 6 ∧ keepsB k x s n m = true ∧ Lib.validD s.data.toList = true ∧ (k = 6 → n = m) := by
  unfold aloneT at h
  split at h
  · simp at h
  split at h
  · simp at h
  split at h
  · simp at h
  split at h
  · simp at h
  split at h
  · simp at h
  · rename_i h1 h2 h3 h4 h5
    refine ⟨by omega, by omega, by omega, by simpa using h3, by simpa using h4, fun hk => ?_⟩
    by_cases e : n = m
    · exact e
    · exact absurd ⟨hk, e⟩ h5
theorem aloneT_items {d : Nat} {k x : Int} {s : ByteArray} {n m : Nat} (h : aloneT d k x s n m = 0) (hm : m ≠ 0) : d ≤ 63 := by
  obtain ⟨h1, h2, h3, h4, -⟩ := aloneT_ok h
  unfold keepsB at h4
  simp only [Bool.and_eq_true, Bool.or_eq_true, beq_iff_eq] at h4
  have h5 := h4.2
  unfold deepB at h1
  rcases h5 with h5 | h5
  · omega
  · rw [if_pos (by simpa using h5)] at h1
    omega
theorem aloneT_obj {d : Nat} {x : Int} {s : ByteArray} {n m : Nat} (h : aloneT d 6 x s n m = 0) : d ≤ 63 ∧ n = m := by
  obtain ⟨h1, h2, h3, h4, -, h6⟩ := aloneT_ok h
  unfold deepB at h1
  rw [if_pos (by decide)] at h1
  exact ⟨by omega, h6 rfl⟩

set_option maxHeartbeats 4000000 in
set_option maxRecDepth 100000 in
theorem checkAt_code (k x : Int) (s : ByteArray) (an : Option Addr) (cn : Nat) (ns : List ByteArray) (ai : Option Addr) (ci : Nat) (its : List Tr) (d : Nat) (w : World) (hd : d ≤ 64) (hs : s.size ≤ 140737488351232) (hnl : ns.length ≤ 8796093021952) (hml : its.length ≤ 8796093021952) (hz : Hid (∀ n ∈ ns, n.size ≤ 140737488351232))
    (hR : Hid (Reads w (.slice an ns.length cn) ns)) (hL : Hid (ItemsAt' w ai its)) (hU : Hid (Lib.Utf8Tabs 1 2 w)) (h8 : 3 ≤ w.heap.size) (hI : Hid (CheckOks d its)) :
    Calls Tryz.prog 27 #[.agg #[.int .i64 k, .int .i64 x, .string s, .slice an ns.length cn, .slice ai its.length ci], .int .i64 (d : Int)] w fun e w' => e = .returned (.int .i64 (checkT d (.node k x s ns its))) ∧ Below w.heap.size w w' := by
  have hB : ∀ o, Below w.heap.size w (w.alloc o) := fun o => (Below.refl _ _).alloc (Nat.le_refl _) _
  obtain ⟨c, hc⟩ : ∃ c, Hid (checkT d (.node k x s ns its) = c) := ⟨_, hid_e rfl⟩
  rw [hc.out]
  obtain ⟨al, hal⟩ : ∃ c, Hid (aloneT d k x s ns.length its.length = c) := ⟨_, hid_e rfl⟩
  have hC : Hid ((if al = 0 then (if k = 6 then membersT (d + 1) [] ns its else itemsT (d + 1) its) else al) = c) := by
    rw [Hid, ← hc.out, checkT, hal.out]
  have hd0 : (0 : Int) ≤ (d : Int) := by omega
  have hd1 : (d : Int) ≤ 100 := by omega
  have hcall := fun o => hid_e (alone_code k x s an ns.length cn ai its.length ci d (w.alloc o) hs (hid_e (utf_below hU.out (hB o) h8)) (by rw [World.size_alloc]; omega))
  rw [hal.out] at hcall
  go_enter Tryz.func27, Tryz.ntmps27
  go_wp2_with fail
  go_fit (hcall _).out
  rintro e w1 ⟨rfl, hb1⟩
  clear hcall
  have y0 : w1.cell? ⟨w.heap.size, 0, none⟩ = some (.int .i64 k) := box_cells hb1 0
  have y1 : w1.cell? ⟨w.heap.size, 1, none⟩ = some (.int .i64 x) := box_cells hb1 1
  have y2 : w1.cell? ⟨w.heap.size, 2, none⟩ = some (.string s) := box_cells hb1 2
  have y3 : w1.cell? ⟨w.heap.size, 3, none⟩ = some (.slice an ns.length cn) := box_cells hb1 3
  have y4 : w1.cell? ⟨w.heap.size, 4, none⟩ = some (.slice ai its.length ci) := box_cells hb1 4
  have hbw1 := below_box hb1
  clear hb1 hB
  by_cases h0 : al = 0
  · subst h0
    by_cases h6 : k = 6
    · subst h6
      obtain ⟨hd3, hnm⟩ := aloneT_obj hal.out
      have hcall := hid_e (members_code 6 x s an ns.length cn ns ai ci its d w1 hd3 (hid_e rfl) (hid_e hnm.symm) (by omega) hz (hid_e (hR.out.keep hbw1)) (hid_e (itemsAt_keep hL.out hbw1)) (hid_e (utf_below hU.out hbw1 h8)) (Nat.le_trans h8 hbw1.size) hI)
      have hc' : Hid (membersT (d + 1) [] ns its = c) := by have h1 := hC.out; rw [if_pos rfl, if_pos rfl] at h1; exact h1
      rw [hc'.out, hnm] at hcall
      rw [hnm] at y3
      go_wp2_with fail
      go_fit hcall.out
      rintro e w2 ⟨rfl, hb2⟩
      go_wp2_with fail
      go_ret
      exact ⟨rfl, hbw1.trans (hb2.mono hbw1.size)⟩
    · have hc' : Hid (itemsT (d + 1) its = c) := by have h1 := hC.out; rw [if_pos rfl, if_neg h6] at h1; exact h1
      have h6' : (k == 6) = false := by simpa using h6
      go_wp2_with fail
      clear y0 y1 y2 y3 y4
      go_loopw [24] (fun i wr => ∃ q : Nat, q ≤ its.length ∧ i = .int .i64 q ∧ Below w.heap.size w wr ∧ Hid (itemsT (d + 1) (its.drop q) = c)) (fun i wr => its.length - (intOf i).toNat)
      case atStart => exact ⟨0, Nat.zero_le _, rfl, hbw1, hc'⟩
      case round =>
        obtain ⟨q, hq, rfl, hbw, hM⟩ := hrel
        by_cases hlt : q < its.length
        · obtain ⟨u, hu⟩ : ∃ u, Hid (its[q]? = some u) := ⟨_, hid_e (List.getElem?_eq_getElem hlt)⟩
          have hst := hid_e (itemsT_at (d := d + 1) hu.out)
          have hd3 : d ≤ 63 := aloneT_items hal.out (by omega)
          obtain ⟨b, o, rfl, hb, hV⟩ := hL.out.resolve_left (by intro e; subst e; simp at hlt)
          obtain ⟨cs, hCs, hr⟩ := VRepL.at its o q u hV hu.out
          obtain ⟨k2, x2, s2, an2, ln2, cn2, ai2, li2, ci2, rfl⟩ := vrep_five hr
          have z0 := stay hbw (hCs 0 _ rfl)
          have z1 := stay hbw (hCs 1 _ rfl)
          have z2 := stay hbw (hCs 2 _ rfl)
          have z3 := stay hbw (hCs 3 _ rfl)
          have z4 := stay hbw (hCs 4 _ rfl)
          simp only [Nat.add_zero] at z0
          obtain ⟨r, hr0⟩ : ∃ z, Hid (checkT (d + 1) u = z) := ⟨_, hid_e rfl⟩
          have hsz := hbw.size
          have hcall := fun p => hid_e (hI.out hd3 q u hu.out _ (wr.alloc p) (VRep.keep (hbw.alloc hsz p) _ _ hr) (utf_below hU.out (hbw.alloc hsz p) h8) (by rw [World.size_alloc]; omega))
          rw [hr0.out] at hcall
          have i1 : (q : Int) < (its.length : Int) := by omega
          clear hV hCs hr
          go_wp2_with fail
          go_fit (hcall _).out
          rintro e w3 ⟨rfl, hb3⟩
          have hbw3 : Below w.heap.size w w3 := (hbw.alloc hsz _).trans (hb3.mono (by rw [World.size_alloc]; omega))
          clear hb3 hcall z0 z1 z2 z3 z4
          by_cases h0 : r = 0
          · subst h0
            have hM3 : Hid (itemsT (d + 1) (its.drop (q + 1)) = c) := by rw [Hid, ← hM.out, hst.out, if_pos hr0.out]
            go_wp2_with fail
            go_roundw
            case rel => exact ⟨q + 1, by omega, by go_num, hbw3, hM3⟩
            case measure => simp [intOf]; omega
          · have hc2 : Hid (c = r) := by rw [Hid, ← hM.out, hst.out, if_neg (by rw [hr0.out]; exact h0), hr0.out]
            have h0' : (r == 0) = false := by simpa using h0
            go_wp2_with fail
            go_ret
            exact ⟨ret_int hc2.out.symm, hbw3⟩
        · have hc2 : Hid (c = 0) := by
            rw [Hid, ← hM.out, List.drop_eq_nil_of_le (by omega), itemsT]
          go_wp2_with fail
          go_ret
          exact ⟨ret_int hc2.out.symm, hbw⟩
  · have hc' : Hid (c = al) := by have h1 := hC.out; rw [if_neg h0] at h1; exact h1.symm
    have h0' : (al == 0) = false := by simpa using h0
    go_wp2_with fail
    go_ret
    exact ⟨ret_int hc'.out.symm, hbw1⟩

/-- Only where a value is a list or an object are its items gone through. -/
theorem check_deep (t : Tr) (d : Nat) (cs : List Value) (w : World) (hd : d ≤ 64) (hV : VRep w t cs) (hS : SmallT t) (hU : Lib.Utf8Tabs 1 2 w) (h8 : 3 ≤ w.heap.size) :
    Calls Tryz.prog 27 #[.agg cs.toArray, .int .i64 (d : Int)] w fun e w' => e = .returned (.int .i64 (checkT d t)) ∧ Below w.heap.size w w' := by
  match t, hV, hS with
  | .node k x s ns its, hV, hS =>
    unfold VRep at hV
    unfold SmallT at hS
    obtain ⟨nm, a, c, rfl, hn, hc, hI⟩ := hV
    obtain ⟨an, cn, rfl, -, -⟩ := id hn
    obtain ⟨hs1, hs2, hs3, hs4, hs5⟩ := hS
    refine checkAt_code k x s an cn ns a c its d w hd hs1 (by omega) (by omega) (hid_e hs3) (hid_e hn) (hid_e hI) (hid_e hU) h8 (hid_e (fun hd' i u hu ds w' h1 h2 h3 => ?_))
    have hlt : SizeOf.sizeOf u < SizeOf.sizeOf its := tr_lt hu
    have := check_deep u (d + 1) ds w' (by omega) h1 (SmallL.at hs5 hu) h2 h3
    rw [show (((d + 1 : Nat) : Int)) = (d : Int) + 1 by omega] at this
    exact this
termination_by SizeOf.sizeOf t
decreasing_by simp only [Tr.node.sizeOf_spec]; omega
end Go.Proofs.YtgjemghfejaifaaGreatDoor
