import Derived.Test.YtnccaidlcaeeaaaGreatDoorB5
import Derived.Test.YtnccaidlcaeeaaaGreatDoorZ2
/-! Parts: how many parts a value has, counted as far as a most. -/
namespace Go.Proofs.YtnccaidlcaeeaaaGreatDoor.Tree
open Go Go.RowKit

mutual
/-- How many Values and Names a Value has. -/
def partsT : Tr → Nat
  | .node _ _ _ ns its => 1 + ns.length + partsL its
def partsL : List Tr → Nat
  | [] => 0
  | t :: ts => partsT t + partsL ts
end
theorem partsL_snoc : (l : List Tr) → (u : Tr) → partsL (l ++ [u]) = partsL l + partsT u
  | [], u => by simp [partsL]
  | t :: ts, u => by simp [partsL, partsL_snoc ts u, Nat.add_assoc]
theorem partsL_take : (l : List Tr) → (q : Nat) → partsL (l.take q) ≤ partsL l
  | [], q => by simp
  | t :: ts, 0 => by simp [partsL]
  | t :: ts, q + 1 => by simp only [List.take_succ_cons, partsL]; have := partsL_take ts q; omega
theorem partsL_step {l : List Tr} {q : Nat} {u : Tr} (h : l[q]? = some u) : partsL (l.take (q + 1)) = partsL (l.take q) + partsT u := by
  rw [List.take_add_one, h]
  exact partsL_snoc _ u
/-- What Parts tells. -/
def PartsOk (m z : Int) (n : Nat) : Prop := 0 ≤ z ∧ z ≤ m + 1 + 8796093021952 ∧ (z ≤ m → z = n) ∧ (m < z → m < n)
theorem wrap_in (x : Int) (h0 : -9223372036854775808 ≤ x) (h1 : x ≤ 9223372036854775807) : IntKind.i64.wrap x = x := by
  rw [IntKind.wrap_i64]; omega
set_option maxHeartbeats 2000000 in
set_option maxRecDepth 100000 in
theorem parts_exact_one (k x : Int) (s : ByteArray) (an : Option Addr) (cn : Nat) (ns : List ByteArray) (ai : Option Addr) (ci : Nat) (its : List Tr) (m : Int) (w : World) (hm0 : 0 ≤ m) (hm1 : m ≤ 1000000000) (hns : ns.length ≤ 8796093021952) (hM : its.length ≤ 9223372036854775806) (hL : Hid (ItemsAt' w ai its))
    (hI : Hid (∀ (i : Nat) (u : Tr), its[i]? = some u → ∀ cs m' w', VRep w' u cs → 0 ≤ m' → m' ≤ 1000000000 → Calls Tryz.prog 16 #[.agg cs.toArray, .int .i64 m'] w' fun e w'' => (∃ z, e = .returned (.int .i64 z) ∧ PartsOk m' z (partsT u)) ∧ Below w'.heap.size w' w'')) :
    Calls Tryz.prog 16 #[.agg #[.int .i64 k, .int .i64 x, .string s, .slice an ns.length cn, .slice ai its.length ci], .int .i64 m] w fun e w' => (∃ z, e = .returned (.int .i64 z) ∧ PartsOk m z (partsT (.node k x s ns its))) ∧ Below w.heap.size w w' := by
  obtain ⟨P, hP⟩ : ∃ P, Hid (partsT (.node k x s ns its) = P) := ⟨_, rfl⟩
  rw [hP.out]
  have hP' : Hid (P = 1 + ns.length + partsL its) := by rw [Hid, ← hP.out]; unfold partsT; rfl
  have hw1 : IntKind.i64.wrap (1 + (ns.length : Int)) = 1 + (ns.length : Int) := wrap_in _ (by omega) (by omega)
  go_enter Tryz.func16, Tryz.ntmps16
  go_wp2_with fail
  clear hw1
  go_loopw [5, 6] (fun n i wr => ∃ (z : Int) (q : Nat), q ≤ its.length ∧ n = .int .i64 z ∧ i = .int .i64 q ∧ Below w.heap.size w wr ∧ wr.heap[w.heap.size]? = some (.cells #[.int .i64 k, .int .i64 x, .string s, .slice an ns.length cn, .slice ai its.length ci] 25 (0, 0)) ∧ 0 ≤ z ∧ z ≤ m + 1 + 8796093021952 ∧ Hid (z ≤ m → z = (1 + ns.length + partsL (its.take q) : Nat)) ∧ Hid (m < z → m < (P : Int))) (fun _ i _ => its.length - (intOf i).toNat)
  case atStart => exact ⟨1 + ns.length, 0, Nat.zero_le _, by first | rfl | (congr 1), rfl, (Below.refl _ w).alloc (Nat.le_refl _) _, heap_alloc_new w _, by omega, by omega, fun _ => by simp [partsL], fun h => by have := hP'.out; omega⟩
  case round =>
    obtain ⟨z, q, hq, rfl, rfl, hbel, hb0, hz0, hz1, hE, hG⟩ := hrel
    obtain ⟨-, -, -, -, y4, -⟩ := row_cells hb0
    by_cases hlt : q < its.length
    · have hd : decide ((q : Int) < (its.length : Int)) = true := by simp; omega
      by_cases hz : z ≤ m
      · have hd2 : decide (z ≤ m) = true := by simpa using hz
        obtain ⟨u, hu⟩ : ∃ u, Hid (its[q]? = some u) := ⟨_, List.getElem?_eq_getElem hlt⟩
        obtain ⟨b, o, rfl, hb, hV⟩ := hL.out.resolve_left (by intro e; subst e; simp at hlt)
        obtain ⟨cs, hC, hr⟩ := VRepL.at its o q u hV hu.out
        obtain ⟨k2, x2, s2, an2, ln2, cn2, ai2, li2, ci2, rfl⟩ := vrep_five hr
        have g0 := stay hbel (hC 0 _ rfl)
        have g1 := stay hbel (hC 1 _ rfl)
        have g2 := stay hbel (hC 2 _ rfl)
        have g3 := stay hbel (hC 3 _ rfl)
        have g4 := stay hbel (hC 4 _ rfl)
        simp only [Nat.add_zero] at g0
        have hcall := hid_e (hI.out q u hu.out _ (m - z) wr (VRep.keep hbel _ _ hr) (by omega) (by omega))
        clear hV hC hr
        have hw2 : IntKind.i64.wrap (m - z) = m - z := wrap_in _ (by omega) (by omega)
        go_wp2_with fail
        clear g0 g1 g2 g3 g4 hw2
        go_fit hcall.out
        rintro e w1 ⟨⟨z', rfl, hz2, hz3, hz4, hz5⟩, hb1⟩
        clear hcall y4
        have hbel1 : Below w.heap.size w w1 := hbel.trans (hb1.mono hbel.size)
        replace hb0 := (hb1.block _ (Array.getElem?_eq_some_iff.1 hb0).1).trans hb0
        have hw3 : IntKind.i64.wrap (z + z') = z + z' := wrap_in _ (by omega) (by omega)
        replace hz4 := hid_e hz4
        replace hz5 := hid_e hz5
        have hst := hid_e (partsL_step hu.out)
        have htk := hid_e (partsL_take its (q + 1))
        have hzE := hid_e (hE.out hz)
        go_wp2_with fail
        go_roundw
        case rel =>
          refine ⟨z + z', q + 1, by omega, by first | rfl | (congr 1), by simp, hbel1, hb0, by omega, by omega, fun h => ?_, fun h => ?_⟩
          · have h1 := hz4.out (by omega)
            have h2 := hzE.out
            have h3 := hst.out
            omega
          · have h1 := hz5.out (by omega)
            have h2 := hzE.out
            have h3 := hst.out
            have h4 := htk.out
            have h5 := hP'.out
            omega
        case measure => simp [intOf]; omega
      · have hd2 : decide (z ≤ m) = false := by simpa using hz
        go_wp2_with fail
        go_ret
        exact ⟨⟨z, rfl, hz0, hz1, fun h => by omega, hG.out⟩, hbel⟩
    · have hd : decide ((q : Int) < (its.length : Int)) = false := by simp; omega
      obtain rfl : q = its.length := by omega
      go_wp2_with fail
      go_ret
      refine ⟨⟨z, rfl, hz0, hz1, fun h => ?_, hG.out⟩, hbel⟩
      have h1 := hE.out h
      rw [List.take_length] at h1
      have h2 := hP'.out
      omega
theorem parts_exact (t : Tr) (cs : List Value) (m : Int) (w : World) (hV : VRep w t cs) (hS : SmallT t) (hm0 : 0 ≤ m) (hm1 : m ≤ 1000000000) :
    Calls Tryz.prog 16 #[.agg cs.toArray, .int .i64 m] w fun e w' => (∃ z, e = .returned (.int .i64 z) ∧ PartsOk m z (partsT t)) ∧ Below w.heap.size w w' := by
  match t, hV, hS with
  | .node k x s ns its, hV, hS =>
    unfold VRep at hV
    unfold SmallT at hS
    obtain ⟨nm, a, c, rfl, hn, hc, hI⟩ := hV
    obtain ⟨an, cn, rfl, -, -⟩ := id hn
    refine parts_exact_one k x s an cn ns a c its m w hm0 hm1 (by omega) (by omega) (hid_e hI) (hid_e (fun i u hu ds m' w' h1 h2 h3 => ?_))
    have hlt : SizeOf.sizeOf u < SizeOf.sizeOf its := tr_lt hu
    exact parts_exact u ds m' w' h1 (SmallL.at hS.2.2.2.2 hu) h2 h3
termination_by SizeOf.sizeOf t
decreasing_by simp only [Tr.node.sizeOf_spec]; omega

theorem itoa_20 (x : Int) (h0 : -9223372036854775808 ≤ x) (h1 : x ≤ 9223372036854775807) : (Lib.itoa x).length ≤ 20 := itoa_len x h0 h1
theorem nameSum_le : (ns : List ByteArray) → (∀ n ∈ ns, n.size ≤ 140737488351232) → nameSum ns ≤ ns.length * 844424930107395
  | [], _ => by rw [nameSum]; omega
  | n :: ns, h => by
    rw [nameSum, List.length_cons]
    have h1 := nameSum_le ns (fun m hm => h m (.tail _ hm))
    have h2 := qT_len n
    have h3 := h n (.head _)
    omega
mutual
/-- A value's text is no longer than its parts allow. -/
theorem lenT_parts : (t : Tr) → SmallT t → RangeT t → lenT t + 1 ≤ partsT t * 844424930107405
  | .node k x s ns its, hS, hR => by
    unfold SmallT at hS
    unfold RangeT at hR
    obtain ⟨s1, s2, s3, s4, s5⟩ := hS
    have h1 := nameSum_le ns s3
    have h2 := lenTL_parts its s5 hR.2
    have h3 := itoa_20 x hR.1.1 hR.1.2
    have h4 := qT_len s
    rw [lenT, partsT]
    split
    · omega
    split
    · omega
    split
    · omega
    split
    · omega
    · omega
theorem lenTL_parts : (l : List Tr) → SmallL l → RangeL l → lenTL l + l.length ≤ partsL l * 844424930107405
  | [], _, _ => by rw [lenTL]; simp
  | t :: ts, hS, hR => by
    unfold SmallL at hS
    unfold RangeL at hR
    have h1 := lenT_parts t hS.1 hR.1
    have h2 := lenTL_parts ts hS.2 hR.2
    rw [lenTL, partsL, List.length_cons]
    omega
end
set_option maxHeartbeats 1000000 in
set_option maxRecDepth 100000 in
/-- What large says: where it lets a value through, the value has no more than 10000 parts. -/
theorem large_parts (k x : Int) (s : ByteArray) (an : Option Addr) (ln cn : Nat) (ai : Option Addr) (li ci : Nat) (t : Tr) (w : World) (hV : Hid (VRep w t (five k x s (.slice an ln cn) (.slice ai li ci)))) (hS : Hid (SmallT t)) :
    Calls Tryz.prog 5 #[.agg #[.int .i64 k, .int .i64 x, .string s, .slice an ln cn, .slice ai li ci]] w fun e w' => (∃ z, e = .returned (.bool z) ∧ (z = false → partsT t ≤ 10000)) ∧ Below w.heap.size w w' := by
  have hcall := fun o => hid_e (parts_exact t (five k x s (.slice an ln cn) (.slice ai li ci)) 10000 (w.alloc o) (VRep.keep ((Below.refl _ w).alloc (Nat.le_refl _) o) _ _ hV.out) hS.out (by omega) (by omega))
  go_enter Tryz.func5, Tryz.ntmps5
  go_wp2_with fail
  go_fit (hcall _).out
  rintro e w1 ⟨⟨n, rfl, h0, h1, h2, h3⟩, hb1⟩
  replace h2 := hid_e h2
  clear h3 hcall
  go_wp2_with fail
  go_ret
  refine ⟨⟨_, rfl, fun hz => ?_⟩, below_box hb1⟩
  have hz' : ¬ (10000 < n) := by simpa using hz
  have := h2.out (by omega)
  omega
end Go.Proofs.YtnccaidlcaeeaaaGreatDoor.Tree
