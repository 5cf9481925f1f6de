import Derived.Test.YtbcfkajcmbckbaaGreatDoorOA
import Derived.Test.YtbcfkajcmbckbaaGreatDoorUH
/-! The Values that the laws make, as trees. -/
namespace Go.Proofs.YtbcfkajcmbckbaaGreatDoor
open Go Go.RowKit

theorem row_two {w : World} {t1 t2 : Tr} {v1 v2 : V5} (h1 : VRep w t1 v1.cs) (h2 : VRep w t2 v2.cs) {g : Nat} {ty : TypeId} (hg : w.heap[g]? = some (.cells #[.int .i64 v1.k, .int .i64 v1.x, .string v1.s, .slice v1.an v1.ln v1.cn, .slice v1.ai v1.li v1.ci, .int .i64 v2.k, .int .i64 v2.x, .string v2.s, .slice v2.an v2.ln v2.cn, .slice v2.ai v2.li v2.ci] ty (0, 0))) : RowT w (some ⟨g, 0, none⟩) [t1, t2] := by
  refine .inr ⟨g, 0, rfl, (Array.getElem?_eq_some_iff.1 hg).1, rep_flat g [t1, t2] [v1, v2] 0 ⟨rfl, fun q t v ht hv => ?_⟩ (fun j u hj => ?_)⟩
  · rcases q with _ | _ | q
    · obtain rfl : t1 = t := by simpa using ht
      obtain rfl : v1 = v := by simpa using hv
      exact h1
    · obtain rfl : t2 = t := by simpa using ht
      obtain rfl : v2 = v := by simpa using hv
      exact h2
    · simp at ht
  · rw [cell_of hg, Nat.zero_add]
    simp only [flatV, List.flatMap_cons, List.flatMap_nil, V5.cs, five] at hj
    simpa using hj
theorem row_three {w : World} {t1 t2 t3 : Tr} {v1 v2 v3 : V5} (h1 : VRep w t1 v1.cs) (h2 : VRep w t2 v2.cs) (h3 : VRep w t3 v3.cs) {g : Nat} {ty : TypeId} (hg : w.heap[g]? = some (.cells #[.int .i64 v1.k, .int .i64 v1.x, .string v1.s, .slice v1.an v1.ln v1.cn, .slice v1.ai v1.li v1.ci, .int .i64 v2.k, .int .i64 v2.x, .string v2.s, .slice v2.an v2.ln v2.cn, .slice v2.ai v2.li v2.ci, .int .i64 v3.k, .int .i64 v3.x, .string v3.s, .slice v3.an v3.ln v3.cn, .slice v3.ai v3.li v3.ci] ty (0, 0))) : RowT w (some ⟨g, 0, none⟩) [t1, t2, t3] := by
  refine .inr ⟨g, 0, rfl, (Array.getElem?_eq_some_iff.1 hg).1, rep_flat g [t1, t2, t3] [v1, v2, v3] 0 ⟨rfl, fun q t v ht hv => ?_⟩ (fun j u hj => ?_)⟩
  · rcases q with _ | _ | _ | q
    · obtain rfl : t1 = t := by simpa using ht
      obtain rfl : v1 = v := by simpa using hv
      exact h1
    · obtain rfl : t2 = t := by simpa using ht
      obtain rfl : v2 = v := by simpa using hv
      exact h2
    · obtain rfl : t3 = t := by simpa using ht
      obtain rfl : v3 = v := by simpa using hv
      exact h3
    · simp at ht
  · rw [cell_of hg, Nat.zero_add]
    simp only [flatV, List.flatMap_cons, List.flatMap_nil, V5.cs, five] at hj
    simpa using hj
theorem below_drew_alloc (w : World) (o : Obj) : Below w.drew.heap.size w.drew (w.alloc o).drew := by
  have h := (Below.refl w.heap.size w).alloc (Nat.le_refl _) o
  exact ⟨h.os, h.tape, h.output, h.size, h.block⟩
/-- A list of so many. -/
abbrev listU (g n c : Nat) : V5 := ⟨5, 0, ⟨#[]⟩, none, 0, 0, some ⟨g, 0, none⟩, n, c⟩
theorem vrep_list {w : World} {g c : Nat} {l : List Tr} (h : RowT w (some ⟨g, 0, none⟩) l) (hc : l.length ≤ c ∧ c ≤ 9223372036854775807) : VRep w (listT l) (listU g l.length c).cs := by
  unfold listT VRep V5.cs
  exact ⟨_, some ⟨g, 0, none⟩, c, rfl, ⟨none, 0, rfl, ⟨Nat.le_refl _, by omega⟩, .inl rfl⟩, hc, h⟩
set_option maxHeartbeats 1000000 in
set_option maxRecDepth 100000 in
theorem list_any (g n c : Nat) (w : World) : Calls Tryz.prog 10 #[.slice (some ⟨g, 0, none⟩) n c] w fun e w' => e = .returned (listU g n c).v ∧ Below w.heap.size w w' := by
  unfold V5.v listU
  go_enter Tryz.func10, Tryz.ntmps10
  go_wp2
  go_returns
  exact ⟨rfl, (Below.refl _ w).alloc (Nat.le_refl _) _⟩
theorem object_v (s : ByteArray) (t : Tr) (u : V5) (w : World) (hV : VRep w t u.cs) :
    Calls Tryz.prog 5 #[.string s, u.v] w fun e w' => Below w.heap.size w w' ∧ ∃ bn bi, e = .returned (objU bn bi).v ∧ VRep w' (objT s t) (objU bn bi).cs :=
  (object_any s u w).mono fun _ _ ⟨hb, bn, bi, he, hn, hi⟩ => ⟨hb, bn, bi, he, vrep_obj hn hi (VRep.keep hb _ _ hV)⟩
theorem small_obj {s : ByteArray} {t : Tr} (hs : s.size ≤ 140737488351232) (h : SmallT t) : SmallT (objT s t) := by
  unfold objT
  simp only [SmallT, SmallL]
  exact ⟨by decide, by simp, fun n hn => by rw [List.mem_singleton.1 hn]; exact hs, by simp, h, trivial⟩
theorem small_list {a b : Tr} (ha : SmallT a) (hb : SmallT b) : SmallT (listT [a, b]) := by
  unfold listT
  simp only [SmallT, SmallL]
  exact ⟨by decide, by simp, fun n hn => by simp at hn, by simp, ha, hb, trivial⟩
theorem range_obj {s : ByteArray} {t : Tr} (h : RangeT t) : RangeT (objT s t) := by
  unfold objT
  simp only [RangeT, RangeL]
  exact ⟨by decide, h, trivial⟩
theorem range_list {a b : Tr} (ha : RangeT a) (hb : RangeT b) : RangeT (listT [a, b]) := by
  unfold listT
  simp only [RangeT, RangeL]
  exact ⟨by decide, ha, hb, trivial⟩
theorem smallL_mem : {l : List Tr} → (∀ t ∈ l, SmallT t) → SmallL l
  | [], _ => by unfold SmallL; trivial
  | t :: ts, h => by unfold SmallL; exact ⟨h t (by simp), smallL_mem fun x hx => h x (by simp [hx])⟩
theorem mem_smallL : {l : List Tr} → SmallL l → ∀ t ∈ l, SmallT t
  | [], _, t, h => by simp at h
  | u :: us, h, t, ht => by
    unfold SmallL at h
    rcases List.mem_cons.1 ht with rfl | ht
    · exact h.1
    · exact mem_smallL h.2 t ht
theorem small_rev {a : Tr} (h : SmallT a) : SmallT (revT a) := by
  obtain ⟨k, x, s, ns, its⟩ := a
  unfold revT
  simp only [Tr.names, Tr.items]
  simp only [SmallT] at h ⊢
  exact ⟨by decide, by simpa using h.2.1, fun n hn => h.2.2.1 n (List.mem_reverse.1 hn), by simpa using h.2.2.2.1, smallL_mem fun t ht => mem_smallL h.2.2.2.2 t (List.mem_reverse.1 ht)⟩
end Go.Proofs.YtbcfkajcmbckbaaGreatDoor
/-! How many parts Values have: what large's answer says. -/
namespace Go.Proofs.YtbcfkajcmbckbaaGreatDoor.Prt
open Go Go.RowKit

mutual
/-- How many Values and Names a Value has. -/
def partsT : Tr → Nat
  | .node _ _ _ ns its => 1 + ns.length + partsL its
def partsL : List Tr → Nat
  | [] => 0
  | t :: ts => partsT t + partsL ts
end
theorem partsL_snoc : (l : List Tr) → (u : Tr) → partsL (l ++ [u]) = partsL l + partsT u
  | [], u => by simp [partsL]
  | t :: ts, u => by simp [partsL, partsL_snoc ts u, Nat.add_assoc]
theorem partsL_take : (l : List Tr) → (q : Nat) → partsL (l.take q) ≤ partsL l
  | [], q => by simp
  | t :: ts, 0 => by simp [partsL]
  | t :: ts, q + 1 => by simp only [List.take_succ_cons, partsL]; have := partsL_take ts q; omega
theorem partsL_step {l : List Tr} {q : Nat} {u : Tr} (h : l[q]? = some u) : partsL (l.take (q + 1)) = partsL (l.take q) + partsT u := by
  rw [List.take_add_one, h]
  exact partsL_snoc _ u
/-- What Parts tells. -/
def PartsOk (m z : Int) (n : Nat) : Prop := 0 ≤ z ∧ z ≤ m + 1 + 8796093021952 ∧ (z ≤ m → z = n) ∧ (m < z → m < n)
theorem wrap_in (x : Int) (h0 : -9223372036854775808 ≤ x) (h1 : x ≤ 9223372036854775807) : IntKind.i64.wrap x = x := by
  rw [IntKind.wrap_i64]; omega
set_option maxHeartbeats 2000000 in
set_option maxRecDepth 100000 in
theorem parts_exact_one (k x : Int) (s : ByteArray) (an : Option Addr) (cn : Nat) (ns : List ByteArray) (ai : Option Addr) (ci : Nat) (its : List Tr) (m : Int) (w : World) (hm0 : 0 ≤ m) (hm1 : m ≤ 1000000000) (hns : ns.length ≤ 8796093021952) (hM : its.length ≤ 9223372036854775806) (hL : Hid (RowT w ai its))
    (hI : Hid (∀ (i : Nat) (u : Tr), its[i]? = some u → ∀ cs m' w', VRep w' u cs → 0 ≤ m' → m' ≤ 1000000000 → Calls Tryz.prog 11 #[.agg cs.toArray, .int .i64 m'] w' fun e w'' => (∃ z, e = .returned (.int .i64 z) ∧ PartsOk m' z (partsT u)) ∧ Below w'.heap.size w' w'')) :
    Calls Tryz.prog 11 #[.agg #[.int .i64 k, .int .i64 x, .string s, .slice an ns.length cn, .slice ai its.length ci], .int .i64 m] w fun e w' => (∃ z, e = .returned (.int .i64 z) ∧ PartsOk m z (partsT (.node k x s ns its))) ∧ Below w.heap.size w w' := by
  obtain ⟨P, hP⟩ : ∃ P, Hid (partsT (.node k x s ns its) = P) := ⟨_, rfl⟩
  rw [hP.out]
  have hP' : Hid (P = 1 + ns.length + partsL its) := by rw [Hid, ← hP.out]; unfold partsT; rfl
  have hw1 : IntKind.i64.wrap (1 + (ns.length : Int)) = 1 + (ns.length : Int) := wrap_in _ (by omega) (by omega)
  go_enter Tryz.func11, Tryz.ntmps11
  go_wp2_with fail
  clear hw1
  go_loopw [5, 6] (fun n i wr => ∃ (z : Int) (q : Nat), q ≤ its.length ∧ n = .int .i64 z ∧ i = .int .i64 q ∧ Below w.heap.size w wr ∧ wr.heap[w.heap.size]? = some (.cells #[.int .i64 k, .int .i64 x, .string s, .slice an ns.length cn, .slice ai its.length ci] 25 (0, 0)) ∧ 0 ≤ z ∧ z ≤ m + 1 + 8796093021952 ∧ Hid (z ≤ m → z = (1 + ns.length + partsL (its.take q) : Nat)) ∧ Hid (m < z → m < (P : Int))) (fun _ i _ => its.length - (intOf i).toNat)
  case atStart => exact ⟨1 + ns.length, 0, Nat.zero_le _, by first | rfl | (congr 1), rfl, (Below.refl _ w).alloc (Nat.le_refl _) _, heap_alloc_new w _, by omega, by omega, fun _ => by simp [partsL], fun h => by have := hP'.out; omega⟩
  case round =>
    obtain ⟨z, q, hq, rfl, rfl, hbel, hb0, hz0, hz1, hE, hG⟩ := hrel
    obtain ⟨-, -, -, -, y4, -⟩ := row_cells hb0
    by_cases hlt : q < its.length
    · have hd : decide ((q : Int) < (its.length : Int)) = true := by simp; omega
      by_cases hz : z ≤ m
      · have hd2 : decide (z ≤ m) = true := by simpa using hz
        obtain ⟨u, hu⟩ : ∃ u, Hid (its[q]? = some u) := ⟨_, List.getElem?_eq_getElem hlt⟩
        obtain ⟨b, o, rfl, hb, hV⟩ := hL.out.resolve_left (by intro e; subst e; simp at hlt)
        obtain ⟨cs, hC, hr⟩ := VRepL.at its o q u hV hu.out
        obtain ⟨k2, x2, s2, an2, ln2, cn2, ai2, li2, ci2, rfl⟩ := vrep_five hr
        have g0 := stay hbel (hC 0 _ rfl)
        have g1 := stay hbel (hC 1 _ rfl)
        have g2 := stay hbel (hC 2 _ rfl)
        have g3 := stay hbel (hC 3 _ rfl)
        have g4 := stay hbel (hC 4 _ rfl)
        simp only [Nat.add_zero] at g0
        have hcall := hid_e (hI.out q u hu.out _ (m - z) wr (VRep.keep hbel _ _ hr) (by omega) (by omega))
        clear hV hC hr
        have hw2 : IntKind.i64.wrap (m - z) = m - z := wrap_in _ (by omega) (by omega)
        go_wp2_with fail
        clear g0 g1 g2 g3 g4 hw2
        go_fit hcall.out
        rintro e w1 ⟨⟨z', rfl, hz2, hz3, hz4, hz5⟩, hb1⟩
        clear hcall y4
        have hbel1 : Below w.heap.size w w1 := hbel.trans (hb1.mono hbel.size)
        replace hb0 := (hb1.block _ (Array.getElem?_eq_some_iff.1 hb0).1).trans hb0
        have hw3 : IntKind.i64.wrap (z + z') = z + z' := wrap_in _ (by omega) (by omega)
        replace hz4 := hid_e hz4
        replace hz5 := hid_e hz5
        have hst := hid_e (partsL_step hu.out)
        have htk := hid_e (partsL_take its (q + 1))
        have hzE := hid_e (hE.out hz)
        go_wp2_with fail
        go_roundw
        case rel =>
          refine ⟨z + z', q + 1, by omega, by first | rfl | (congr 1), by simp, hbel1, hb0, by omega, by omega, fun h => ?_, fun h => ?_⟩
          · have h1 := hz4.out (by omega)
            have h2 := hzE.out
            have h3 := hst.out
            omega
          · have h1 := hz5.out (by omega)
            have h2 := hzE.out
            have h3 := hst.out
            have h4 := htk.out
            have h5 := hP'.out
            omega
        case measure => simp [intOf]; omega
      · have hd2 : decide (z ≤ m) = false := by simpa using hz
        go_wp2_with fail
        go_ret
        exact ⟨⟨z, rfl, hz0, hz1, fun h => by omega, hG.out⟩, hbel⟩
    · have hd : decide ((q : Int) < (its.length : Int)) = false := by simp; omega
      obtain rfl : q = its.length := by omega
      go_wp2_with fail
      go_ret
      refine ⟨⟨z, rfl, hz0, hz1, fun h => ?_, hG.out⟩, hbel⟩
      have h1 := hE.out h
      rw [List.take_length] at h1
      have h2 := hP'.out
      omega
theorem parts_exact (t : Tr) (cs : List Value) (m : Int) (w : World) (hV : VRep w t cs) (hS : SmallT t) (hm0 : 0 ≤ m) (hm1 : m ≤ 1000000000) :
    Calls Tryz.prog 11 #[.agg cs.toArray, .int .i64 m] w fun e w' => (∃ z, e = .returned (.int .i64 z) ∧ PartsOk m z (partsT t)) ∧ Below w.heap.size w w' := by
  match t, hV, hS with
  | .node k x s ns its, hV, hS =>
    unfold VRep at hV
    unfold SmallT at hS
    obtain ⟨nm, a, c, rfl, hn, hc, hI⟩ := hV
    obtain ⟨an, cn, rfl, -, -⟩ := id hn
    refine parts_exact_one k x s an cn ns a c its m w hm0 hm1 (by omega) (by omega) (hid_e hI) (hid_e (fun i u hu ds m' w' h1 h2 h3 => ?_))
    have hlt : SizeOf.sizeOf u < SizeOf.sizeOf its := tr_lt hu
    exact parts_exact u ds m' w' h1 (SmallL.at hS.2.2.2.2 hu) h2 h3
termination_by SizeOf.sizeOf t
decreasing_by simp only [Tr.node.sizeOf_spec]; omega
def LargeB (its : List Tr) (e : Ending) : Prop := ∃ z, e = .returned (.bool z) ∧ (z = false → partsL its ≤ 3000)
set_option maxHeartbeats 4000000 in
set_option maxRecDepth 100000 in
theorem large_exact (a : Option Addr) (c n : Nat) (its : List Tr) (w : World) (hn : its.length = n) (hnn : n ≤ 1000) (hV : RowT w a its) (hS : SmallL its) :
    Calls Tryz.prog 6 #[.slice a n c] w fun e w' => LargeB its e ∧ Below w.heap.size w w' := by
  have n0 : (0 : Int) ≤ (n : Int) := by omega
  have n1 : (n : Int) ≤ 1000 := by omega
  replace hn := hid_e hn
  replace hV := hid_e hV
  replace hS := hid_e hS
  go_enter Tryz.func6, Tryz.ntmps6
  go_wp2_with fail
  go_loopw [3, 4] (fun nv iv wr => ∃ (q : Nat) (z : Int), nv = .int .i64 z ∧ iv = .int .i64 q ∧ q ≤ n ∧ Hid (0 ≤ z ∧ z ≤ q * 8796093024953 ∧ (z ≤ 3000 → z = (partsL (its.take q) : Nat))) ∧ Hid (Below w.heap.size w wr)) (fun _ iv _ => n - (intOf iv).toNat)
  case atStart => exact ⟨0, 0, rfl, rfl, Nat.zero_le _, ⟨by omega, by omega, fun _ => by simp [partsL]⟩, Below.refl _ _⟩
  case round =>
    obtain ⟨q, z, rfl, rfl, hq, hz, hb⟩ := hrel
    by_cases hlt : q < n
    · have q1 : (q : Int) < (n : Int) := by omega
      have q0 : (0 : Int) ≤ (q : Int) := by omega
      obtain ⟨u, hu⟩ : ∃ u, Hid (its[q]? = some u) := ⟨its[q]'(by rw [hn.out]; omega), List.getElem?_eq_getElem (by rw [hn.out]; omega)⟩
      obtain ⟨b, o, rfl, hlb, hVL⟩ := (hV.out.keep hb.out).resolve_left (by intro e; rw [e] at hn; have := hn.out; simp at this; omega)
      obtain ⟨cs1, hc1, hv1⟩ := VRepL.at its o q u hVL hu.out
      obtain ⟨k1, x1, s1, an1, ln1, cn1, ai1, li1, ci1, rfl⟩ := vrep_five hv1
      have call := hid_e (parts_exact u _ 3000 wr hv1 (SmallL.at hS.out hu.out) (by decide) (by decide))
      have x10 := hc1 0 _ rfl
      have x11 := hc1 1 _ rfl
      have x12 := hc1 2 _ rfl
      have x13 := hc1 3 _ rfl
      have x14 := hc1 4 _ rfl
      simp only [Nat.add_zero] at x10
      clear hc1 hv1 hlb hVL
      go_wp2_with fail
      refine call.out.mono ?_
      rintro e w2 ⟨⟨m, rfl, hm⟩, hb2⟩
      have hb' := hid_e (hb.out.trans (hb2.mono hb.out.size))
      have hz' : Hid (0 ≤ z + m ∧ z + m ≤ ((q + 1 : Nat) : Int) * 8796093024953 ∧ (z + m ≤ 3000 → z + m = (partsL (its.take (q + 1)) : Nat))) := by
        obtain ⟨h1, h2, h3⟩ := hz.out
        obtain ⟨k1, k2, k3, -⟩ := hm
        have hp := partsL_step hu.out
        refine ⟨by omega, by omega, fun h => ?_⟩
        have e1 := h3 (by omega)
        have e2 := k3 (by omega)
        omega
      have z0 : -9223372036854775808 ≤ z + m := by have := hz'.out.1; omega
      have z1 : z + m ≤ 9223372036854775807 := by have := hz'.out.2.1; omega
      clear call x10 x11 x12 x13 x14 hb2 hb hm hz
      go_wp2_with fail
      exact ⟨⟨q + 1, z + m, by go_num, by go_num, by omega, hz', hb'⟩, by simp [intOf]; omega⟩
    · obtain rfl : q = n := by omega
      have q1 : ¬ (q : Int) < (q : Int) := by omega
      rw [List.take_of_length_le (by rw [hn.out]; omega)] at hz
      go_wp2_with fail
      go_ret
      refine ⟨show LargeB its _ from ⟨_, rfl, fun h => ?_⟩, hb.out⟩
      obtain ⟨h1, h2, h3⟩ := hz.out
      have h : ¬ (3000 : Int) < z := by simpa using h
      have := h3 (by omega)
      omega
end Go.Proofs.YtbcfkajcmbckbaaGreatDoor.Prt
