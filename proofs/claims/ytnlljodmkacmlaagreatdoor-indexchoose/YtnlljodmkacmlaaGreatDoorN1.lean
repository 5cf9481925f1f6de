import Derived.Test.YtnlljodmkacmlaaGreatDoorU1
import Derived.Test.YtnlljodmkacmlaaGreatDoorC2
/-! cmp.Compare, strings.Compare, Rank. -/
namespace Go.Proofs.YtnlljodmkacmlaaGreatDoor.Chk
open Go Go.RowKit

set_option maxHeartbeats 1000000 in
theorem nan3 (x : Int) (w : World) : Calls Tryz.prog 119 #[.int .i64 x] w fun e w' => e = .returned (.bool false) ∧ w' = w := by
  go_enter Tryz.func119, Tryz.ntmps119
  go_wp2_with fail
  go_ret
  exact ⟨by simp, rfl⟩
set_option maxHeartbeats 1000000 in
theorem nan2 (x : Int) (w : World) : Calls Tryz.prog 120 #[.int .i64 x] w fun e w' => e = .returned (.bool false) ∧ w' = w := by
  go_enter Tryz.func120, Tryz.ntmps120
  go_wp2_with fail
  go_ret
  exact ⟨by simp, rfl⟩
theorem cmpI_lt {x y : Int} (h : x < y) : cmpI x y = -1 := by unfold cmpI; rw [if_pos h]
theorem cmpI_gt {x y : Int} (h : y < x) : cmpI x y = 1 := by unfold cmpI; rw [if_neg (by omega), if_pos h]
theorem cmpI_eq (x : Int) : cmpI x x = 0 := by unfold cmpI; simp
set_option maxHeartbeats 1000000 in
theorem cmp3 (x y : Int) (w : World) : Calls Tryz.prog 83 #[.int .i64 x, .int .i64 y] w fun e w' => e = .returned (.int .i64 (cmpI x y)) ∧ w' = w := by
  rcases Int.lt_trichotomy x y with h | rfl | h
  · rw [cmpI_lt h]
    go_enter Tryz.func83, Tryz.ntmps83
    go_wp2_with (go_at_call 119; refine (nan3 _ _).mono ?_; rintro e w' ⟨rfl, rfl⟩)
    go_ret
    exact ⟨rfl, rfl⟩
  · rw [cmpI_eq]
    go_enter Tryz.func83, Tryz.ntmps83
    go_wp2_with (go_at_call 119; refine (nan3 _ _).mono ?_; rintro e w' ⟨rfl, rfl⟩)
    go_ret
    exact ⟨rfl, rfl⟩
  · rw [cmpI_gt h]
    have h' : decide (x < y) = false := by simp; omega
    go_enter Tryz.func83, Tryz.ntmps83
    go_wp2_with (go_at_call 119; refine (nan3 _ _).mono ?_; rintro e w' ⟨rfl, rfl⟩)
    go_ret
    exact ⟨rfl, rfl⟩
set_option maxHeartbeats 1000000 in
theorem cmp2 (x y : Int) (w : World) : Calls Tryz.prog 85 #[.int .i64 x, .int .i64 y] w fun e w' => e = .returned (.int .i64 (cmpI x y)) ∧ w' = w := by
  rcases Int.lt_trichotomy x y with h | rfl | h
  · rw [cmpI_lt h]
    go_enter Tryz.func85, Tryz.ntmps85
    go_wp2_with (go_at_call 120; refine (nan2 _ _).mono ?_; rintro e w' ⟨rfl, rfl⟩)
    go_ret
    exact ⟨rfl, rfl⟩
  · rw [cmpI_eq]
    go_enter Tryz.func85, Tryz.ntmps85
    go_wp2_with (go_at_call 120; refine (nan2 _ _).mono ?_; rintro e w' ⟨rfl, rfl⟩)
    go_ret
    exact ⟨rfl, rfl⟩
  · rw [cmpI_gt h]
    have h' : decide (x < y) = false := by simp; omega
    go_enter Tryz.func85, Tryz.ntmps85
    go_wp2_with (go_at_call 120; refine (nan2 _ _).mono ?_; rintro e w' ⟨rfl, rfl⟩)
    go_ret
    exact ⟨rfl, rfl⟩
set_option maxHeartbeats 1000000 in
set_option maxRecDepth 100000 in
theorem cmpStr0 (a b : ByteArray) (w : World) : Calls Tryz.prog 114 #[.string a, .string b] w fun e w' => e = .returned (.int .i64 (cmpS a b)) ∧ w' = w := by
  go_enter Tryz.func114, Tryz.ntmps114
  go_wp2
  rw [run_callFunc_extern Tryz.func140 (by kernel_rfl) (by kernel_rfl) (by kernel_rfl) (e := Extern.BytealgCompare.compare) (by kernel_rfl), Lib.run_compareString]
  simp only [Result.andThen]
  rw [Oper.upon_value]
  go_wp2
  go_ret
  exact ⟨rfl, rfl⟩
set_option maxHeartbeats 1000000 in
theorem cmpStr (a b : ByteArray) (w : World) : Calls Tryz.prog 80 #[.string a, .string b] w fun e w' => e = .returned (.int .i64 (cmpS a b)) ∧ w' = w := by
  go_enter Tryz.func80, Tryz.ntmps80
  go_wp2_with (go_at_call 114; refine (cmpStr0 _ _ _).mono ?_; rintro e w' ⟨rfl, rfl⟩)
  go_ret
  exact ⟨rfl, rfl⟩
set_option maxHeartbeats 4000000 in
set_option maxRecDepth 100000 in
theorem rank_any (k x : Int) (s : ByteArray) (an : Option Addr) (ln cn : Nat) (ai : Option Addr) (li ci : Nat) (w : World) : Calls Tryz.prog 84 #[.agg #[.int .i64 k, .int .i64 x, .string s, .slice an ln cn, .slice ai li ci]] w fun e w' => e = .returned (.int .i64 (rankZ k)) ∧ Below w.heap.size w w' := by
  by_cases h0 : k = 0
  · subst h0
    rw [show rankZ 0 = 0 by decide]
    go_enter Tryz.func84, Tryz.ntmps84
    go_wp2_with fail
    go_ret
    exact ⟨rfl, (Below.refl _ w).alloc (Nat.le_refl _) _⟩
  have g0 : (k == 0) = false := by simpa using h0
  by_cases h3 : k = 3
  · subst h3
    rw [show rankZ 3 = 1 by decide]
    go_enter Tryz.func84, Tryz.ntmps84
    go_wp2_with fail
    go_ret
    exact ⟨rfl, (Below.refl _ w).alloc (Nat.le_refl _) _⟩
  have g3 : (k == 3) = false := by simpa using h3
  by_cases h4 : k = 4
  · subst h4
    rw [show rankZ 4 = 2 by decide]
    go_enter Tryz.func84, Tryz.ntmps84
    go_wp2_with fail
    go_ret
    exact ⟨rfl, (Below.refl _ w).alloc (Nat.le_refl _) _⟩
  have g4 : (k == 4) = false := by simpa using h4
  by_cases h6 : k = 6
  · subst h6
    rw [show rankZ 6 = 3 by decide]
    go_enter Tryz.func84, Tryz.ntmps84
    go_wp2_with fail
    go_ret
    exact ⟨rfl, (Below.refl _ w).alloc (Nat.le_refl _) _⟩
  have g6 : (k == 6) = false := by simpa using h6
  by_cases h5 : k = 5
  · subst h5
    rw [show rankZ 5 = 4 by decide]
    go_enter Tryz.func84, Tryz.ntmps84
    go_wp2_with fail
    go_ret
    exact ⟨rfl, (Below.refl _ w).alloc (Nat.le_refl _) _⟩
  have g5 : (k == 5) = false := by simpa using h5
  by_cases h1 : k = 1
  · subst h1
    rw [show rankZ 1 = 5 by decide]
    go_enter Tryz.func84, Tryz.ntmps84
    go_wp2_with fail
    go_ret
    exact ⟨rfl, (Below.refl _ w).alloc (Nat.le_refl _) _⟩
  have g1 : (k == 1) = false := by simpa using h1
  by_cases h2 : k = 2
  · subst h2
    rw [show rankZ 2 = 6 by decide]
    go_enter Tryz.func84, Tryz.ntmps84
    go_wp2_with fail
    go_ret
    exact ⟨rfl, (Below.refl _ w).alloc (Nat.le_refl _) _⟩
  have g2 : (k == 2) = false := by simpa using h2
  rw [show rankZ k = -1 by unfold rankZ; rw [if_neg h0, if_neg h3, if_neg h4, if_neg h6, if_neg h5, if_neg h1, if_neg h2]]
  go_enter Tryz.func84, Tryz.ntmps84
  go_wp2_with fail
  go_ret
  exact ⟨rfl, (Below.refl _ w).alloc (Nat.le_refl _) _⟩
end Go.Proofs.YtnlljodmkacmlaaGreatDoor.Chk
/-! members. -/
namespace Go.Proofs.YtnlljodmkacmlaaGreatDoor.Chk
open Go Go.RowKit

set_option maxHeartbeats 1000000 in
set_option maxRecDepth 100000 in
theorem members_any (k x : Int) (s : ByteArray) (an : Option Addr) (ln cn : Nat) (ai : Option Addr) (li ci : Nat) (w : World) : Calls Tryz.prog 121 #[.agg #[.int .i64 k, .int .i64 x, .string s, .slice an ln cn, .slice ai li ci]] w fun e w' => e = .returned (.int .i64 (min ln li : Nat)) ∧ Below w.heap.size w w' := by
  by_cases h : ln ≤ li
  · rw [Nat.min_eq_left h]
    go_enter Tryz.func121, Tryz.ntmps121
    go_wp2_with fail
    go_ret
    exact ⟨rfl, (Below.refl _ w).alloc (Nat.le_refl _) _⟩
  · rw [Nat.min_eq_right (by omega)]
    go_enter Tryz.func121, Tryz.ntmps121
    go_wp2_with fail
    go_ret
    exact ⟨rfl, (Below.refl _ w).alloc (Nat.le_refl _) _⟩

theorem cmpL_step {al bl : List Tr} {q : Nat} {u v : Tr} (h : al[q]? = some u) (h' : bl[q]? = some v) : cmpL (al.drop q) (bl.drop q) = if cmpT u v ≠ 0 then cmpT u v else cmpL (al.drop (q + 1)) (bl.drop (q + 1)) := by
  have d : ∀ {l : List Tr} {x : Tr}, l[q]? = some x → l.drop q = x :: l.drop (q + 1) := fun {l x} h => by
    obtain ⟨hq, hx⟩ := List.getElem?_eq_some_iff.1 h
    rw [← hx]
    exact List.drop_eq_getElem_cons hq
  rw [d h, d h', cmpL]
theorem cmpL_more {al bl : List Tr} {q : Nat} (h : q < al.length) (h' : bl.length ≤ q) : cmpL (al.drop q) (bl.drop q) = 1 := by
  rw [List.drop_of_length_le h', List.drop_eq_getElem_cons h, cmpL]
theorem cmpL_less {al bl : List Tr} {q : Nat} (h : al.length ≤ q) (h' : q < bl.length) : cmpL (al.drop q) (bl.drop q) = -1 := by
  rw [List.drop_of_length_le h, List.drop_eq_getElem_cons h', cmpL]
theorem cmpL_end {al bl : List Tr} {q : Nat} (h : al.length ≤ q) (h' : bl.length ≤ q) : cmpL (al.drop q) (bl.drop q) = 0 := by
  rw [List.drop_of_length_le h, List.drop_of_length_le h', cmpL]
/-- Items, in memory. -/
def ItemsAt (w : World) (a : Option Addr) (its : List Tr) : Prop := its = [] ∨ ∃ b o, a = some ⟨b, o, none⟩ ∧ b < w.heap.size ∧ VRepL w b o its
/-- What is compared at one place is compared rightly. -/
def CmpOk (its its' : List Tr) : Prop := ∀ (i : Nat) (u v : Tr), its[i]? = some u → its'[i]? = some v → ∀ cs cs' w', VRep w' u cs → VRep w' v cs' → Calls Tryz.prog 52 #[.agg cs.toArray, .agg cs'.toArray] w' fun e w'' => e = .returned (.int .i64 (cmpT u v)) ∧ Below w'.heap.size w' w''
set_option maxHeartbeats 4000000 in
set_option maxRecDepth 100000 in
theorem cfunc_any (its its' : List Tr) (a a' : Option Addr) (c c' : Nat) (w : World) (hM : its.length ≤ 9223372036854775806) (hM' : its'.length ≤ 9223372036854775806) (hL : Hid (ItemsAt w a its)) (hL' : Hid (ItemsAt w a' its')) (hI : Hid (CmpOk its its')) :
    Calls Tryz.prog 87 #[.slice a its.length c, .slice a' its'.length c', .func (.func 52) #[] #[]] w fun e w' => e = .returned (.int .i64 (cmpL its its')) ∧ Below w.heap.size w w' := by
  go_enter Tryz.func87, Tryz.ntmps87
  go_wp2_with fail
  go_loopw [13] (fun i wr => ∃ q : Nat, q ≤ its.length ∧ q ≤ its'.length ∧ i = .int .i64 q ∧ Below w.heap.size w wr ∧ Hid (cmpL its its' = cmpL (its.drop q) (its'.drop q))) (fun i _ => its.length - (intOf i).toNat)
  case atStart => exact ⟨0, Nat.zero_le _, Nat.zero_le _, rfl, Below.refl _ w, rfl⟩
  case round =>
    obtain ⟨q, hq, hq', rfl, hbel, hG⟩ := hrel
    by_cases hlt : q < its.length
    · have hd : decide ((q : Int) < (its.length : Int)) = true := by simp; omega
      obtain ⟨u, hu⟩ : ∃ u, Hid (its[q]? = some u) := ⟨_, List.getElem?_eq_getElem hlt⟩
      obtain ⟨b, o, rfl, hb, hV⟩ := hL.out.resolve_left (by intro e; subst e; simp at hlt)
      obtain ⟨cs, hC, h2⟩ := VRepL.at its o q u hV hu.out
      obtain ⟨k2, x2, s2, an2, ln2, cn2, ai2, li2, ci2, rfl⟩ := vrep_five h2
      replace h2 := hid_e h2
      have g0 := stay hbel (hC 0 _ rfl)
      have g1 := stay hbel (hC 1 _ rfl)
      have g2 := stay hbel (hC 2 _ rfl)
      have g3 := stay hbel (hC 3 _ rfl)
      have g4 := stay hbel (hC 4 _ rfl)
      simp only [Nat.add_zero] at g0
      clear hC hV
      by_cases hlt' : q < its'.length
      · have hd' : decide ((its'.length : Int) ≤ (q : Int)) = false := by simp; omega
        obtain ⟨v, hv⟩ : ∃ v, Hid (its'[q]? = some v) := ⟨_, List.getElem?_eq_getElem hlt'⟩
        obtain ⟨b', o', rfl, hb', hV'⟩ := hL'.out.resolve_left (by intro e; subst e; simp at hlt')
        obtain ⟨cs', hC', h2'⟩ := VRepL.at its' o' q v hV' hv.out
        obtain ⟨k3, x3, s3, an3, ln3, cn3, ai3, li3, ci3, rfl⟩ := vrep_five h2'
        replace h2' := hid_e h2'
        have f0 := fun o => cell_alloc' (stay hbel (hC' 0 _ rfl)) o
        have f1 := fun o => cell_alloc' (stay hbel (hC' 1 _ rfl)) o
        have f2 := fun o => cell_alloc' (stay hbel (hC' 2 _ rfl)) o
        have f3 := fun o => cell_alloc' (stay hbel (hC' 3 _ rfl)) o
        have f4 := fun o => cell_alloc' (stay hbel (hC' 4 _ rfl)) o
        simp only [Nat.add_zero] at f0
        clear hC' hV'
        have hcall := fun W (hW : Below w.heap.size w W) => hid_e (hI.out q u v hu.out hv.out _ _ W (VRep.keep hW _ _ h2.out) (VRep.keep hW _ _ h2'.out))
        have hst := hid_e (hG.out.trans (cmpL_step hu.out hv.out))
        generalize cmpT u v = z at hcall hst
        clear hI hL hL' hG
        go_wp2_with fail
        have hX := (hbel.alloc hbel.size (.cells #[.int .i64 k2, .int .i64 x2, .string s2, .slice an2 ln2 cn2, .slice ai2 li2 ci2] 28)).alloc (by simp only [World.size_alloc]; have := hbel.size; omega) (.cells #[.int .i64 k3, .int .i64 x3, .string s3, .slice an3 ln3 cn3, .slice ai3 li3 ci3] 28)
        go_fit (hcall _ hX).out
        rintro e w1 ⟨rfl, hb1⟩
        have hbel1 : Below w.heap.size w w1 := hX.trans (hb1.mono hX.size)
        clear hcall hX hb1 f0 f1 f2 f3 f4 g0 g1 g2 g3 g4
        by_cases hz : z = 0
        · subst hz
          replace hst := hid_e (hst.out.trans (if_neg (fun e => e rfl)))
          go_wp2_with fail
          go_roundw
          case rel => exact ⟨q + 1, by omega, by omega, by simp, hbel1, hst⟩
          case measure => simp [intOf]; omega
        · have hz' : (z == 0) = false := by simpa using hz
          replace hst := hid_e (hst.out.trans (if_pos hz))
          go_wp2_with fail
          go_ret
          exact ⟨ret_int hst.out.symm, hbel1⟩
      · have hd' : decide ((its'.length : Int) ≤ (q : Int)) = true := by simp; omega
        have hst := hid_e (hG.out.trans (cmpL_more hlt (by omega)))
        clear hI hL hL' hG
        go_wp2_with fail
        go_ret
        exact ⟨ret_int hst.out.symm, hbel.alloc hbel.size _⟩
    · have hd : decide ((q : Int) < (its.length : Int)) = false := by simp; omega
      by_cases hlt' : its.length < its'.length
      · have hd' : decide ((its.length : Int) < (its'.length : Int)) = true := by simp; omega
        have hst := hid_e (hG.out.trans (cmpL_less (by omega) (by omega)))
        clear hI hL hL' hG
        go_wp2_with fail
        go_ret
        exact ⟨ret_int hst.out.symm, hbel⟩
      · have hd' : decide ((its.length : Int) < (its'.length : Int)) = false := by simp; omega
        have hst := hid_e (hG.out.trans (cmpL_end (by omega) (by omega)))
        clear hI hL hL' hG
        go_wp2_with fail
        go_ret
        exact ⟨ret_int hst.out.symm, hbel⟩
end Go.Proofs.YtnlljodmkacmlaaGreatDoor.Chk
/-! Equal of every two values. -/
namespace Go.Proofs.YtnlljodmkacmlaaGreatDoor.Chk
open Go Go.RowKit

/-- Are two values the same? -/
noncomputable def eqT (t u : Tr) : Bool := @decide (t = u) (Classical.propDecidable _)
theorem eqT_true {t u : Tr} (h : t = u) : eqT t u = true := by unfold eqT; simpa using h
theorem eqT_false {t u : Tr} (h : t ≠ u) : eqT t u = false := by unfold eqT; simpa using h
theorem eqT_iff {t u : Tr} : eqT t u = true ↔ t = u := by unfold eqT; simp
theorem str_beq (a b : ByteArray) : (a.toList == b.toList) = decide (a = b) := by
  rw [Bool.eq_iff_iff, beq_iff_eq, decide_eq_true_eq, ByteArray.toList_eq, ByteArray.toList_eq]
  exact ⟨fun h => ByteArray.ext (Array.toList_inj.1 h), fun h => by rw [h]⟩
def EqOk (its its' : List Tr) : Prop := ∀ (i : Nat) (u v : Tr), its[i]? = some u → its'[i]? = some v → ∀ cs cs' w', VRep w' u cs → VRep w' v cs' → Calls Tryz.prog 104 #[.agg cs.toArray, .agg cs'.toArray] w' fun e w'' => e = .returned (.bool (eqT u v)) ∧ Below w'.heap.size w' w''
set_option maxHeartbeats 1600000 in
set_option maxRecDepth 100000 in
theorem equal_one (k x : Int) (s : ByteArray) (an : Option Addr) (cn : Nat) (ns : List ByteArray) (a : Option Addr) (c : Nat) (its : List Tr) (k' x' : Int) (s' : ByteArray) (an' : Option Addr) (cn' : Nat) (ns' : List ByteArray) (a' : Option Addr) (c' : Nat) (its' : List Tr) (w : World)
    (hM : its.length ≤ 9223372036854775806) (hnm : ns.length ≤ 9223372036854775806) (hN : Hid (Reads w (.slice an ns.length cn) ns)) (hN' : Hid (Reads w (.slice an' ns'.length cn') ns')) (hL : Hid (ItemsAt w a its)) (hL' : Hid (ItemsAt w a' its')) (hI : Hid (EqOk its its')) :
    Calls Tryz.prog 104 #[.agg #[.int .i64 k, .int .i64 x, .string s, .slice an ns.length cn, .slice a its.length c], .agg #[.int .i64 k', .int .i64 x', .string s', .slice an' ns'.length cn', .slice a' its'.length c']] w fun e w' => e = .returned (.bool (eqT (.node k x s ns its) (.node k' x' s' ns' its'))) ∧ Below w.heap.size w w' := by
  obtain ⟨R, hR⟩ : ∃ R, Hid (eqT (.node k x s ns its) (.node k' x' s' ns' its') = R) := ⟨_, rfl⟩
  rw [hR.out]
  have hF : Hid (¬ (k = k' ∧ x = x' ∧ s = s' ∧ ns = ns' ∧ its = its') → R = false) := fun h => by rw [← hR.out]; exact eqT_false (fun e => h (by injection e with e1 e2 e3 e4 e5; exact ⟨e1, e2, e3, e4, e5⟩))
  have hB2 : ∀ p q, Below w.heap.size w ((w.alloc p).alloc q) := fun p q => ((Below.refl _ w).alloc (Nat.le_refl _) p).alloc (by simp) q
  by_cases ek : k = k'
  rotate_left
  · have b1 : (k == k') = false := by simpa using ek
    obtain rfl : R = false := hF.out (fun h => ek h.1)
    clear hF hI hL hL' hN hN'
    go_enter Tryz.func104, Tryz.ntmps104
    go_wp2_with fail
    go_ret
    exact ⟨rfl, hB2 _ _⟩
  subst ek
  by_cases ex : x = x'
  rotate_left
  · have b1 : (x == x') = false := by simpa using ex
    obtain rfl : R = false := hF.out (fun h => ex h.2.1)
    clear hF hI hL hL' hN hN'
    go_enter Tryz.func104, Tryz.ntmps104
    go_wp2_with fail
    go_ret
    exact ⟨rfl, hB2 _ _⟩
  subst ex
  by_cases es : s = s'
  rotate_left
  · have b1 : (s.toList == s'.toList) = false := by rw [str_beq]; simpa using es
    obtain rfl : R = false := hF.out (fun h => es h.2.2.1)
    clear hF hI hL hL' hN hN'
    go_enter Tryz.func104, Tryz.ntmps104
    go_wp2_with fail
    go_ret
    exact ⟨rfl, hB2 _ _⟩
  subst es
  by_cases en : ns.length = ns'.length
  rotate_left
  · have b1 : (((ns.length : Nat) : Int) == (ns'.length : Int)) = false := by simp; omega
    obtain rfl : R = false := hF.out (fun h => en (by rw [h.2.2.2.1]))
    clear hF hI hL hL' hN hN'
    go_enter Tryz.func104, Tryz.ntmps104
    go_wp2_with fail
    go_ret
    exact ⟨rfl, hB2 _ _⟩
  by_cases ei : its.length = its'.length
  rotate_left
  · have b0 : (((ns.length : Nat) : Int) == (ns'.length : Int)) = true := by simp; omega
    have b1 : (((its.length : Nat) : Int) == (its'.length : Int)) = false := by simp; omega
    obtain rfl : R = false := hF.out (fun h => ei (by rw [h.2.2.2.2]))
    clear hF hI hL hL' hN hN'
    go_enter Tryz.func104, Tryz.ntmps104
    go_wp2_with fail
    go_ret
    exact ⟨rfl, hB2 _ _⟩
  have hA' : Hid (ns' = [] ∨ ∃ b o, an' = some ⟨b, o, none⟩ ∧ b < w.heap.size ∧ ∀ j s, ns'[j]? = some s → w.cell? ⟨b, o + j, none⟩ = some (.string s)) := by
    obtain ⟨_, _, e, _, hRd⟩ := hN'.out
    cases e
    exact hRd
  clear hN'
  rw [← en, ← ei]
  replace en := hid_e en
  replace ei := hid_e ei
  go_enter Tryz.func104, Tryz.ntmps104
  go_wp2_with fail
  go_loopw [5] (fun i wr => ∃ q : Nat, q ≤ ns.length ∧ i = .int .i64 q ∧ Below w.heap.size w wr ∧ wr.heap[w.heap.size]? = some (.cells #[.int .i64 k, .int .i64 x, .string s, .slice an ns.length cn, .slice a its.length c] 28 (0, 0)) ∧ wr.heap[w.heap.size + 1]? = some (.cells #[.int .i64 k, .int .i64 x, .string s, .slice an' ns.length cn', .slice a' its.length c'] 28 (0, 0)) ∧ Hid (∀ j, j < q → ns[j]? = ns'[j]?)) (fun i _ => ns.length - (intOf i).toNat)
  case atStart => exact ⟨0, Nat.zero_le _, rfl, hB2 _ _, new1 w _ _, new2 w _ _, fun j h => by omega⟩
  case round =>
    clear hB2
    obtain ⟨q, hq, rfl, HB, h0, h1, hE⟩ := hrel
    obtain ⟨-, -, -, y3, y4, -⟩ := row_cells h0
    obtain ⟨-, -, -, z3, -, -⟩ := row_cells h1
    by_cases hlt : q < ns.length
    · have hlt' : q < ns'.length := by have := en.out; omega
      obtain ⟨n, hn⟩ : ∃ n, Hid (ns[q]? = some n) := ⟨_, List.getElem?_eq_getElem hlt⟩
      obtain ⟨n', hn'⟩ : ∃ n, Hid (ns'[q]? = some n) := ⟨_, List.getElem?_eq_getElem hlt'⟩
      obtain ⟨_, _, e, _, hRd⟩ := hN.out
      cases e
      obtain ⟨gn, on, rfl, _, hRd⟩ := hRd.resolve_left (by intro e; subst e; simp at hlt)
      have c1 := stay HB (hRd q n hn.out)
      clear hRd
      obtain ⟨gn', on', rfl, _, hRd⟩ := hA'.out.resolve_left (by intro e; subst e; simp at hlt')
      have c2 := stay HB (hRd q n' hn'.out)
      clear hRd
      have hd : decide ((q : Int) < (ns.length : Int)) = true := by simp; omega
      have i1 : (q : Int) < (ns.length : Int) := by omega
      have i2 : (q : Int) < (ns'.length : Int) := by omega
      have i3 : (0 : Int) ≤ (q : Int) := by omega
      by_cases ee : n = n'
      · subst ee
        clear y4
        go_wp2_with fail
        go_quiet (fail)
        go_wp2_with fail
        go_roundw
        case rel => exact ⟨q + 1, by omega, by simp, below_drewN HB nq, h0, h1, fun j h => by
            by_cases ej : j = q
            · subst ej; rw [hn.out, hn'.out]
            · exact hE.out j (by omega)⟩
        case measure => simp [intOf]; omega
      · have bb : (n.toList == n'.toList) = false := by rw [str_beq]; simpa using ee
        obtain rfl : R = false := hF.out (fun h => ee (by have e := h.2.2.2.1; rw [e, hn'.out] at hn; exact (Option.some.inj hn.out).symm))
        clear y4
        go_wp2_with fail
        go_quiet (fail)
        go_wp2_with fail
        go_ret
        exact ⟨rfl, below_drewN HB nq⟩
    · have hd : decide ((q : Int) < (ns.length : Int)) = false := by simp; omega
      clear z3 y4
      have hns : Hid (ns = ns') := List.ext_getElem? (fun j => by
        by_cases hj : j < q
        · exact hE.out j hj
        · rw [List.getElem?_eq_none (by omega), List.getElem?_eq_none (by have := en.out; omega)])
      clear hE
      go_wp2_with fail
      clear y3
      go_loopw [6] (fun i wr => ∃ p : Nat, p ≤ its.length ∧ i = .int .i64 p ∧ Below w.heap.size w wr ∧ wr.heap[w.heap.size]? = some (.cells #[.int .i64 k, .int .i64 x, .string s, .slice an ns.length cn, .slice a its.length c] 28 (0, 0)) ∧ wr.heap[w.heap.size + 1]? = some (.cells #[.int .i64 k, .int .i64 x, .string s, .slice an' ns.length cn', .slice a' its.length c'] 28 (0, 0)) ∧ Hid (∀ j, j < p → its[j]? = its'[j]?)) (fun i _ => its.length - (intOf i).toNat)
      case atStart => exact ⟨0, Nat.zero_le _, rfl, HB, h0, h1, fun j h => by omega⟩
      case round =>
        clear HB h0 h1
        obtain ⟨p, hp, rfl, HB, h0, h1, hE⟩ := hrel
        obtain ⟨-, -, -, -, y4, -⟩ := row_cells h0
        obtain ⟨-, -, -, -, z4, -⟩ := row_cells h1
        by_cases hlt2 : p < its.length
        · have hlt3 : p < its'.length := by have := ei.out; omega
          obtain ⟨u, hu⟩ : ∃ u, Hid (its[p]? = some u) := ⟨_, List.getElem?_eq_getElem hlt2⟩
          obtain ⟨v, hv⟩ : ∃ v, Hid (its'[p]? = some v) := ⟨_, List.getElem?_eq_getElem hlt3⟩
          obtain ⟨b, o, rfl, hb, hV⟩ := hL.out.resolve_left (by intro e; subst e; simp at hlt2)
          obtain ⟨cs, hC, hr⟩ := VRepL.at its o p u hV hu.out
          obtain ⟨k2, x2, s2, an2, ln2, cn2, ai2, li2, ci2, rfl⟩ := vrep_five hr
          obtain ⟨b', o', rfl, hb', hV'⟩ := hL'.out.resolve_left (by intro e; subst e; simp at hlt3)
          obtain ⟨cs', hC', hr'⟩ := VRepL.at its' o' p v hV' hv.out
          obtain ⟨k3, x3, s3, an3, ln3, cn3, ai3, li3, ci3, rfl⟩ := vrep_five hr'
          have p0 := stay HB (hC 0 _ rfl)
          have r0 := stay HB (hC' 0 _ rfl)
          have p1 := stay HB (hC 1 _ rfl)
          have r1 := stay HB (hC' 1 _ rfl)
          have p2 := stay HB (hC 2 _ rfl)
          have r2 := stay HB (hC' 2 _ rfl)
          have p3 := stay HB (hC 3 _ rfl)
          have r3 := stay HB (hC' 3 _ rfl)
          have p4 := stay HB (hC 4 _ rfl)
          have r4 := stay HB (hC' 4 _ rfl)
          simp only [Nat.add_zero] at p0 r0
          have hcall := hid_e (fun W (hW : Below w.heap.size w W) => hI.out p u v hu.out hv.out _ _ W (VRep.keep hW _ _ hr) (VRep.keep hW _ _ hr'))
          obtain ⟨z, hz⟩ : ∃ z, Hid (eqT u v = z) := ⟨_, rfl⟩
          rw [hz.out] at hcall
          clear hV hV' hC hC' hr hr'
          have hd2 : decide ((p : Int) < (its.length : Int)) = true := by simp; omega
          have i1 : (p : Int) < (its.length : Int) := by omega
          have i2 : (p : Int) < (its'.length : Int) := by omega
          have i3 : (0 : Int) ≤ (p : Int) := by omega
          go_wp2_with fail
          refine wp_region_quiet (C := fun w' => Below wr.heap.size wr w') (by kernel_rfl) (by kernel_rfl) (below_drewN (Below.refl _ _) 1) ?_
          refine wpQuiet_step (fun K hK => ?_)
          go_simp
          refine ⟨_, fun _ _ => rfl, hK _ ?_⟩
          clear hK K
          refine wpQuiet_step (fun K hK => ?_)
          refine ⟨.slice (some ⟨b, o, none⟩) its.length c, fun w' hw' => ?_, hK _ ?_⟩
          · have t0 := stay hw' y4
            go_simp
          clear hK K
          refine wpQuiet_step (fun K hK => ?_)
          go_simp
          refine ⟨_, fun _ _ => rfl, hK _ ?_⟩
          clear hK K
          refine wpQuiet_step (fun K hK => ?_)
          go_simp
          refine ⟨_, fun _ _ => rfl, hK _ ?_⟩
          clear hK K
          refine wpQuiet_step (fun K hK => ?_)
          refine ⟨.agg #[.int .i64 k2, .int .i64 x2, .string s2, .slice an2 ln2 cn2, .slice ai2 li2 ci2], fun w' hw' => ?_, hK _ ?_⟩
          · have t0 := stay hw' p0
            have t1 := stay hw' p1
            have t2 := stay hw' p2
            have t3 := stay hw' p3
            have t4 := stay hw' p4
            go_simp
          clear hK K
          refine wpQuiet_step (fun K hK => ?_)
          go_simp
          refine ⟨_, fun _ _ => rfl, hK _ ?_⟩
          clear hK K
          refine wpQuiet_step (fun K hK => ?_)
          refine ⟨.slice (some ⟨b', o', none⟩) its.length c', fun w' hw' => ?_, hK _ ?_⟩
          · have t0 := stay hw' z4
            go_simp
          clear hK K
          refine wpQuiet_step (fun K hK => ?_)
          go_simp
          refine ⟨_, fun _ _ => rfl, hK _ ?_⟩
          clear hK K
          refine wpQuiet_step (fun K hK => ?_)
          go_simp
          refine ⟨_, fun _ _ => rfl, hK _ ?_⟩
          clear hK K
          refine wpQuiet_step (fun K hK => ?_)
          refine ⟨.agg #[.int .i64 k3, .int .i64 x3, .string s3, .slice an3 ln3 cn3, .slice ai3 li3 ci3], fun w' hw' => ?_, hK _ ?_⟩
          · have t0 := stay hw' r0
            have t1 := stay hw' r1
            have t2 := stay hw' r2
            have t3 := stay hw' r3
            have t4 := stay hw' r4
            go_simp
          clear hK K
          refine wpQuiet_step (fun K hK => ?_)
          refine ⟨.bool z, fun w' hw' => ?_, hK _ ?_⟩
          · go_simp
            refine (hcall.out w' (HB.trans (hw'.mono HB.size))).mono ?_
            rintro e w'' ⟨rfl, hb⟩
            exact ⟨rfl, hw'.trans (hb.mono hw'.size)⟩
          clear hK K
          refine wpQuiet_step (fun K hK => ?_)
          go_simp
          refine ⟨_, fun _ _ => rfl, hK _ ?_⟩
          clear hK K
          refine wpQuiet_nil ?_
          intro Y2 hY2
          have HB2 : Below w.heap.size w Y2 := HB.trans (hY2.mono HB.size)
          have h02 := (hY2.block _ (Array.getElem?_eq_some_iff.1 h0).1).trans h0
          have h12 := (hY2.block _ (Array.getElem?_eq_some_iff.1 h1).1).trans h1
          clear hY2 HB h0 h1 y4 z4 p0 p1 p2 p3 p4 r0 r1 r2 r3 r4 hcall
          cases z
          · obtain rfl : R = false := hF.out (fun h => by have e := h.2.2.2.2; rw [e, hv.out] at hu; have := Option.some.inj hu.out; rw [eqT_true this.symm] at hz; exact absurd hz.out (by decide))
            go_wp2_with fail
            go_ret
            exact ⟨rfl, HB2⟩
          · have huv : u = v := eqT_iff.1 hz.out
            go_wp2_with fail
            go_roundw
            case rel => exact ⟨p + 1, by omega, by simp, HB2, h02, h12, fun j h => by
                by_cases ej : j = p
                · subst ej; rw [hu.out, hv.out, huv]
                · exact hE.out j (by omega)⟩
            case measure => simp [intOf]; omega
        · have hd2 : decide ((p : Int) < (its.length : Int)) = false := by simp; omega
          have hits : Hid (its = its') := List.ext_getElem? (fun j => by
            by_cases hj : j < p
            · exact hE.out j hj
            · rw [List.getElem?_eq_none (by omega), List.getElem?_eq_none (by have := ei.out; omega)])
          obtain rfl : R = true := by rw [← hR.out]; exact eqT_true (by rw [hns.out, hits.out])
          clear z4
          go_wp2_with fail
          go_ret
          exact ⟨rfl, HB⟩

theorem equal_any (t u : Tr) (cs cs' : List Value) (w : World) (hV : VRep w t cs) (hV' : VRep w u cs') (hS : SmallT t) :
    Calls Tryz.prog 104 #[.agg cs.toArray, .agg cs'.toArray] w fun e w' => e = .returned (.bool (eqT t u)) ∧ Below w.heap.size w w' := by
  match t, u, hV, hV', hS with
  | .node k x s ns its, .node k' x' s' ns' its', hV, hV', hS =>
    unfold VRep at hV hV'
    unfold SmallT at hS
    obtain ⟨nm, a, c, rfl, hn, hc, hI⟩ := hV
    obtain ⟨nm', a', c', rfl, hn', hc', hI'⟩ := hV'
    obtain ⟨an, cn, rfl, -, -⟩ := id hn
    obtain ⟨an', cn', rfl, -, -⟩ := id hn'
    refine equal_one k x s an cn ns a c its k' x' s' an' cn' ns' a' c' its' w (by omega) (by omega) (hid_e hn) (hid_e hn') (hid_e hI) (hid_e hI') (hid_e (fun i u v hu hv ds ds' w' h1 h2 => ?_))
    have hlt : SizeOf.sizeOf u < SizeOf.sizeOf its := tr_lt hu
    exact equal_any u v ds ds' w' h1 h2 (SmallL.at hS.2.2.2.2 hu)
termination_by SizeOf.sizeOf t
decreasing_by simp only [Tr.node.sizeOf_spec]; omega
end Go.Proofs.YtnlljodmkacmlaaGreatDoor.Chk
