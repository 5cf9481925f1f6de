import Derived.Test.YtgigikcopedoeaaGreatC2
import Derived.Test.YtgigikcopedoeaaGreatV3
/-! Taken over from elder texts: r15p/T1.tpl, r3/K1.tpl, r3/K2.tpl, r3/K3.tpl, r3/K4.tpl, r3/M1.tpl, r3/M2.tpl, r3/M3.tpl. -/
namespace Go.Proofs.YtgigikcopedoeaaGreat.Tree
open Go Go.RowKit
set_option maxHeartbeats 1000000 in
theorem nan3 (x : Int) (w : World) : Calls Tryz.prog 120 #[.int .i64 x] w fun e w' => e = .returned (.bool false) ∧ w' = w := by
  go_enter Tryz.func120, Tryz.ntmps120
  go_wp2_with fail
  go_ret
  exact ⟨by simp, rfl⟩
set_option maxHeartbeats 1000000 in
theorem nan2 (x : Int) (w : World) : Calls Tryz.prog 121 #[.int .i64 x] w fun e w' => e = .returned (.bool false) ∧ w' = w := by
  go_enter Tryz.func121, Tryz.ntmps121
  go_wp2_with fail
  go_ret
  exact ⟨by simp, rfl⟩
theorem cmpI_lt {x y : Int} (h : x < y) : cmpI x y = -1 := by unfold cmpI; rw [if_pos h]
theorem cmpI_gt {x y : Int} (h : y < x) : cmpI x y = 1 := by unfold cmpI; rw [if_neg (by omega), if_pos h]
theorem cmpI_eq (x : Int) : cmpI x x = 0 := by unfold cmpI; simp
set_option maxHeartbeats 1000000 in
theorem cmp3 (x y : Int) (w : World) : Calls Tryz.prog 94 #[.int .i64 x, .int .i64 y] w fun e w' => e = .returned (.int .i64 (cmpI x y)) ∧ w' = w := by
  rcases Int.lt_trichotomy x y with h | rfl | h
  · rw [cmpI_lt h]
    go_enter Tryz.func94, Tryz.ntmps94
    go_wp2_with (go_at_call 120; refine (nan3 _ _).mono ?_; rintro e w' ⟨rfl, rfl⟩)
    go_ret
    exact ⟨rfl, rfl⟩
  · rw [cmpI_eq]
    go_enter Tryz.func94, Tryz.ntmps94
    go_wp2_with (go_at_call 120; refine (nan3 _ _).mono ?_; rintro e w' ⟨rfl, rfl⟩)
    go_ret
    exact ⟨rfl, rfl⟩
  · rw [cmpI_gt h]
    have h' : decide (x < y) = false := by simp; omega
    go_enter Tryz.func94, Tryz.ntmps94
    go_wp2_with (go_at_call 120; refine (nan3 _ _).mono ?_; rintro e w' ⟨rfl, rfl⟩)
    go_ret
    exact ⟨rfl, rfl⟩
set_option maxHeartbeats 1000000 in
theorem cmp2 (x y : Int) (w : World) : Calls Tryz.prog 96 #[.int .i64 x, .int .i64 y] w fun e w' => e = .returned (.int .i64 (cmpI x y)) ∧ w' = w := by
  rcases Int.lt_trichotomy x y with h | rfl | h
  · rw [cmpI_lt h]
    go_enter Tryz.func96, Tryz.ntmps96
    go_wp2_with (go_at_call 121; refine (nan2 _ _).mono ?_; rintro e w' ⟨rfl, rfl⟩)
    go_ret
    exact ⟨rfl, rfl⟩
  · rw [cmpI_eq]
    go_enter Tryz.func96, Tryz.ntmps96
    go_wp2_with (go_at_call 121; refine (nan2 _ _).mono ?_; rintro e w' ⟨rfl, rfl⟩)
    go_ret
    exact ⟨rfl, rfl⟩
  · rw [cmpI_gt h]
    have h' : decide (x < y) = false := by simp; omega
    go_enter Tryz.func96, Tryz.ntmps96
    go_wp2_with (go_at_call 121; refine (nan2 _ _).mono ?_; rintro e w' ⟨rfl, rfl⟩)
    go_ret
    exact ⟨rfl, rfl⟩
set_option maxHeartbeats 1000000 in
set_option maxRecDepth 100000 in
theorem cmpStr0 (a b : ByteArray) (w : World) : Calls Tryz.prog 99 #[.string a, .string b] w fun e w' => e = .returned (.int .i64 (cmpS a b)) ∧ w' = w := by
  go_enter Tryz.func99, Tryz.ntmps99
  go_wp2
  rw [run_callFunc_extern Tryz.func123 (by kernel_rfl) (by kernel_rfl) (by kernel_rfl) (e := Extern.BytealgCompare.compare) (by kernel_rfl), Lib.run_compareString]
  simp only [Result.andThen]
  rw [Oper.upon_value]
  go_wp2
  go_ret
  exact ⟨rfl, rfl⟩
set_option maxHeartbeats 1000000 in
theorem cmpStr (a b : ByteArray) (w : World) : Calls Tryz.prog 61 #[.string a, .string b] w fun e w' => e = .returned (.int .i64 (cmpS a b)) ∧ w' = w := by
  go_enter Tryz.func61, Tryz.ntmps61
  go_wp2_with (go_at_call 99; refine (cmpStr0 _ _ _).mono ?_; rintro e w' ⟨rfl, rfl⟩)
  go_ret
  exact ⟨rfl, rfl⟩
set_option maxHeartbeats 4000000 in
set_option maxRecDepth 100000 in
theorem rank_any (k x : Int) (s : ByteArray) (an : Option Addr) (ln cn : Nat) (ai : Option Addr) (li ci : Nat) (w : World) : Calls Tryz.prog 95 #[.agg #[.int .i64 k, .int .i64 x, .string s, .slice an ln cn, .slice ai li ci]] w fun e w' => e = .returned (.int .i64 (rankZ k)) ∧ Below w.heap.size w w' := by
  by_cases h0 : k = 0
  · subst h0
    rw [show rankZ 0 = 0 by decide]
    go_enter Tryz.func95, Tryz.ntmps95
    go_wp2_with fail
    go_ret
    exact ⟨rfl, (Below.refl _ w).alloc (Nat.le_refl _) _⟩
  have g0 : (k == 0) = false := by simpa using h0
  by_cases h3 : k = 3
  · subst h3
    rw [show rankZ 3 = 1 by decide]
    go_enter Tryz.func95, Tryz.ntmps95
    go_wp2_with fail
    go_ret
    exact ⟨rfl, (Below.refl _ w).alloc (Nat.le_refl _) _⟩
  have g3 : (k == 3) = false := by simpa using h3
  by_cases h4 : k = 4
  · subst h4
    rw [show rankZ 4 = 2 by decide]
    go_enter Tryz.func95, Tryz.ntmps95
    go_wp2_with fail
    go_ret
    exact ⟨rfl, (Below.refl _ w).alloc (Nat.le_refl _) _⟩
  have g4 : (k == 4) = false := by simpa using h4
  by_cases h6 : k = 6
  · subst h6
    rw [show rankZ 6 = 3 by decide]
    go_enter Tryz.func95, Tryz.ntmps95
    go_wp2_with fail
    go_ret
    exact ⟨rfl, (Below.refl _ w).alloc (Nat.le_refl _) _⟩
  have g6 : (k == 6) = false := by simpa using h6
  by_cases h5 : k = 5
  · subst h5
    rw [show rankZ 5 = 4 by decide]
    go_enter Tryz.func95, Tryz.ntmps95
    go_wp2_with fail
    go_ret
    exact ⟨rfl, (Below.refl _ w).alloc (Nat.le_refl _) _⟩
  have g5 : (k == 5) = false := by simpa using h5
  by_cases h1 : k = 1
  · subst h1
    rw [show rankZ 1 = 5 by decide]
    go_enter Tryz.func95, Tryz.ntmps95
    go_wp2_with fail
    go_ret
    exact ⟨rfl, (Below.refl _ w).alloc (Nat.le_refl _) _⟩
  have g1 : (k == 1) = false := by simpa using h1
  by_cases h2 : k = 2
  · subst h2
    rw [show rankZ 2 = 6 by decide]
    go_enter Tryz.func95, Tryz.ntmps95
    go_wp2_with fail
    go_ret
    exact ⟨rfl, (Below.refl _ w).alloc (Nat.le_refl _) _⟩
  have g2 : (k == 2) = false := by simpa using h2
  rw [show rankZ k = -1 by unfold rankZ; rw [if_neg h0, if_neg h3, if_neg h4, if_neg h6, if_neg h5, if_neg h1, if_neg h2]]
  go_enter Tryz.func95, Tryz.ntmps95
  go_wp2_with fail
  go_ret
  exact ⟨rfl, (Below.refl _ w).alloc (Nat.le_refl _) _⟩
set_option maxHeartbeats 4000000 in
set_option maxRecDepth 100000 in
theorem rrank_any (k x : Int) (s : ByteArray) (an : Option Addr) (ln cn : Nat) (ai : Option Addr) (li ci : Nat) (w : World) : Calls Tryz.prog 70 #[.agg #[.int .i64 k, .int .i64 x, .string s, .slice an ln cn, .slice ai li ci]] w fun e w' => e = .returned (.int .i64 (rankZ k)) ∧ Below w.heap.size w w' := by
  by_cases h0 : k = 0
  · subst h0
    rw [show rankZ 0 = 0 by decide]
    go_enter Tryz.func70, Tryz.ntmps70
    go_wp2_with fail
    go_ret
    exact ⟨rfl, (Below.refl _ w).alloc (Nat.le_refl _) _⟩
  have g0 : (k == 0) = false := by simpa using h0
  by_cases h3 : k = 3
  · subst h3
    rw [show rankZ 3 = 1 by decide]
    go_enter Tryz.func70, Tryz.ntmps70
    go_wp2_with fail
    go_ret
    exact ⟨rfl, (Below.refl _ w).alloc (Nat.le_refl _) _⟩
  have g3 : (k == 3) = false := by simpa using h3
  by_cases h4 : k = 4
  · subst h4
    rw [show rankZ 4 = 2 by decide]
    go_enter Tryz.func70, Tryz.ntmps70
    go_wp2_with fail
    go_ret
    exact ⟨rfl, (Below.refl _ w).alloc (Nat.le_refl _) _⟩
  have g4 : (k == 4) = false := by simpa using h4
  by_cases h6 : k = 6
  · subst h6
    rw [show rankZ 6 = 3 by decide]
    go_enter Tryz.func70, Tryz.ntmps70
    go_wp2_with fail
    go_ret
    exact ⟨rfl, (Below.refl _ w).alloc (Nat.le_refl _) _⟩
  have g6 : (k == 6) = false := by simpa using h6
  by_cases h5 : k = 5
  · subst h5
    rw [show rankZ 5 = 4 by decide]
    go_enter Tryz.func70, Tryz.ntmps70
    go_wp2_with fail
    go_ret
    exact ⟨rfl, (Below.refl _ w).alloc (Nat.le_refl _) _⟩
  have g5 : (k == 5) = false := by simpa using h5
  by_cases h1 : k = 1
  · subst h1
    rw [show rankZ 1 = 5 by decide]
    go_enter Tryz.func70, Tryz.ntmps70
    go_wp2_with fail
    go_ret
    exact ⟨rfl, (Below.refl _ w).alloc (Nat.le_refl _) _⟩
  have g1 : (k == 1) = false := by simpa using h1
  by_cases h2 : k = 2
  · subst h2
    rw [show rankZ 2 = 6 by decide]
    go_enter Tryz.func70, Tryz.ntmps70
    go_wp2_with fail
    go_ret
    exact ⟨rfl, (Below.refl _ w).alloc (Nat.le_refl _) _⟩
  have g2 : (k == 2) = false := by simpa using h2
  rw [show rankZ k = -1 by unfold rankZ; rw [if_neg h0, if_neg h3, if_neg h4, if_neg h6, if_neg h5, if_neg h1, if_neg h2]]
  go_enter Tryz.func70, Tryz.ntmps70
  go_wp2_with fail
  go_ret
  exact ⟨rfl, (Below.refl _ w).alloc (Nat.le_refl _) _⟩
set_option maxHeartbeats 1000000 in
set_option maxRecDepth 100000 in
theorem members_any (k x : Int) (s : ByteArray) (an : Option Addr) (ln cn : Nat) (ai : Option Addr) (li ci : Nat) (w : World) : Calls Tryz.prog 122 #[.agg #[.int .i64 k, .int .i64 x, .string s, .slice an ln cn, .slice ai li ci]] w fun e w' => e = .returned (.int .i64 (min ln li : Nat)) ∧ Below w.heap.size w w' := by
  by_cases h : ln ≤ li
  · rw [Nat.min_eq_left h]
    go_enter Tryz.func122, Tryz.ntmps122
    go_wp2_with fail
    go_ret
    exact ⟨rfl, (Below.refl _ w).alloc (Nat.le_refl _) _⟩
  · rw [Nat.min_eq_right (by omega)]
    go_enter Tryz.func122, Tryz.ntmps122
    go_wp2_with fail
    go_ret
    exact ⟨rfl, (Below.refl _ w).alloc (Nat.le_refl _) _⟩
theorem cmpL_step {al bl : List Tr} {q : Nat} {u v : Tr} (h : al[q]? = some u) (h' : bl[q]? = some v) : cmpL (al.drop q) (bl.drop q) = if cmpT u v ≠ 0 then cmpT u v else cmpL (al.drop (q + 1)) (bl.drop (q + 1)) := by
  have d : ∀ {l : List Tr} {x : Tr}, l[q]? = some x → l.drop q = x :: l.drop (q + 1) := fun {l x} h => by
    obtain ⟨hq, hx⟩ := List.getElem?_eq_some_iff.1 h
    rw [← hx]
    exact List.drop_eq_getElem_cons hq
  rw [d h, d h', cmpL]
theorem cmpL_more {al bl : List Tr} {q : Nat} (h : q < al.length) (h' : bl.length ≤ q) : cmpL (al.drop q) (bl.drop q) = 1 := by
  rw [List.drop_of_length_le h', List.drop_eq_getElem_cons h, cmpL]
theorem cmpL_less {al bl : List Tr} {q : Nat} (h : al.length ≤ q) (h' : q < bl.length) : cmpL (al.drop q) (bl.drop q) = -1 := by
  rw [List.drop_of_length_le h, List.drop_eq_getElem_cons h', cmpL]
theorem cmpL_end {al bl : List Tr} {q : Nat} (h : al.length ≤ q) (h' : bl.length ≤ q) : cmpL (al.drop q) (bl.drop q) = 0 := by
  rw [List.drop_of_length_le h, List.drop_of_length_le h', cmpL]
/-- Items, in memory. -/
def ItemsAt (w : World) (a : Option Addr) (its : List Tr) : Prop := its = [] ∨ ∃ b o, a = some ⟨b, o, none⟩ ∧ b < w.heap.size ∧ VRepL w b o its
/-- What is compared at one place is compared rightly. -/
def CmpOk (its its' : List Tr) : Prop := ∀ (i : Nat) (u v : Tr), its[i]? = some u → its'[i]? = some v → ∀ cs cs' w', VRep w' u cs → VRep w' v cs' → Calls Tryz.prog 59 #[.agg cs.toArray, .agg cs'.toArray] w' fun e w'' => e = .returned (.int .i64 (cmpT u v)) ∧ Below w'.heap.size w' w''
set_option maxHeartbeats 4000000 in
set_option maxRecDepth 100000 in
theorem cfunc_any (its its' : List Tr) (a a' : Option Addr) (c c' : Nat) (w : World) (hM : its.length ≤ 9223372036854775806) (hM' : its'.length ≤ 9223372036854775806) (hL : Hid (ItemsAt w a its)) (hL' : Hid (ItemsAt w a' its')) (hI : Hid (CmpOk its its')) :
    Calls Tryz.prog 98 #[.slice a its.length c, .slice a' its'.length c', .func (.func 59) #[] #[]] w fun e w' => e = .returned (.int .i64 (cmpL its its')) ∧ Below w.heap.size w w' := by
  go_enter Tryz.func98, Tryz.ntmps98
  go_wp2_with fail
  go_loopw [13] (fun i wr => ∃ q : Nat, q ≤ its.length ∧ q ≤ its'.length ∧ i = .int .i64 q ∧ Below w.heap.size w wr ∧ Hid (cmpL its its' = cmpL (its.drop q) (its'.drop q))) (fun i _ => its.length - (intOf i).toNat)
  case atStart => exact ⟨0, Nat.zero_le _, Nat.zero_le _, rfl, Below.refl _ w, rfl⟩
  case round =>
    obtain ⟨q, hq, hq', rfl, hbel, hG⟩ := hrel
    by_cases hlt : q < its.length
    · have hd : decide ((q : Int) < (its.length : Int)) = true := by simp; omega
      obtain ⟨u, hu⟩ : ∃ u, Hid (its[q]? = some u) := ⟨_, List.getElem?_eq_getElem hlt⟩
      obtain ⟨b, o, rfl, hb, hV⟩ := hL.out.resolve_left (by intro e; subst e; simp at hlt)
      obtain ⟨cs, hC, h2⟩ := VRepL.at its o q u hV hu.out
      obtain ⟨k2, x2, s2, an2, ln2, cn2, ai2, li2, ci2, rfl⟩ := vrep_five h2
      replace h2 := hid_e h2
      have g0 := stay hbel (hC 0 _ rfl)
      have g1 := stay hbel (hC 1 _ rfl)
      have g2 := stay hbel (hC 2 _ rfl)
      have g3 := stay hbel (hC 3 _ rfl)
      have g4 := stay hbel (hC 4 _ rfl)
      simp only [Nat.add_zero] at g0
      clear hC hV
      by_cases hlt' : q < its'.length
      · have hd' : decide ((its'.length : Int) ≤ (q : Int)) = false := by simp; omega
        obtain ⟨v, hv⟩ : ∃ v, Hid (its'[q]? = some v) := ⟨_, List.getElem?_eq_getElem hlt'⟩
        obtain ⟨b', o', rfl, hb', hV'⟩ := hL'.out.resolve_left (by intro e; subst e; simp at hlt')
        obtain ⟨cs', hC', h2'⟩ := VRepL.at its' o' q v hV' hv.out
        obtain ⟨k3, x3, s3, an3, ln3, cn3, ai3, li3, ci3, rfl⟩ := vrep_five h2'
        replace h2' := hid_e h2'
        have f0 := fun o => cell_alloc' (stay hbel (hC' 0 _ rfl)) o
        have f1 := fun o => cell_alloc' (stay hbel (hC' 1 _ rfl)) o
        have f2 := fun o => cell_alloc' (stay hbel (hC' 2 _ rfl)) o
        have f3 := fun o => cell_alloc' (stay hbel (hC' 3 _ rfl)) o
        have f4 := fun o => cell_alloc' (stay hbel (hC' 4 _ rfl)) o
        simp only [Nat.add_zero] at f0
        clear hC' hV'
        have hcall := fun W (hW : Below w.heap.size w W) => hid_e (hI.out q u v hu.out hv.out _ _ W (VRep.keep hW _ _ h2.out) (VRep.keep hW _ _ h2'.out))
        have hst := hid_e (hG.out.trans (cmpL_step hu.out hv.out))
        generalize cmpT u v = z at hcall hst
        clear hI hL hL' hG
        go_wp2_with fail
        have hX := (hbel.alloc hbel.size (.cells #[.int .i64 k2, .int .i64 x2, .string s2, .slice an2 ln2 cn2, .slice ai2 li2 ci2] 25)).alloc (by simp only [World.size_alloc]; have := hbel.size; omega) (.cells #[.int .i64 k3, .int .i64 x3, .string s3, .slice an3 ln3 cn3, .slice ai3 li3 ci3] 25)
        go_fit (hcall _ hX).out
        rintro e w1 ⟨rfl, hb1⟩
        have hbel1 : Below w.heap.size w w1 := hX.trans (hb1.mono hX.size)
        clear hcall hX hb1 f0 f1 f2 f3 f4 g0 g1 g2 g3 g4
        by_cases hz : z = 0
        · subst hz
          replace hst := hid_e (hst.out.trans (if_neg (fun e => e rfl)))
          go_wp2_with fail
          go_roundw
          case rel => exact ⟨q + 1, by omega, by omega, by simp, hbel1, hst⟩
          case measure => simp [intOf]; omega
        · have hz' : (z == 0) = false := by simpa using hz
          replace hst := hid_e (hst.out.trans (if_pos hz))
          go_wp2_with fail
          go_ret
          exact ⟨ret_int hst.out.symm, hbel1⟩
      · have hd' : decide ((its'.length : Int) ≤ (q : Int)) = true := by simp; omega
        have hst := hid_e (hG.out.trans (cmpL_more hlt (by omega)))
        clear hI hL hL' hG
        go_wp2_with fail
        go_ret
        exact ⟨ret_int hst.out.symm, hbel.alloc hbel.size _⟩
    · have hd : decide ((q : Int) < (its.length : Int)) = false := by simp; omega
      by_cases hlt' : its.length < its'.length
      · have hd' : decide ((its.length : Int) < (its'.length : Int)) = true := by simp; omega
        have hst := hid_e (hG.out.trans (cmpL_less (by omega) (by omega)))
        clear hI hL hL' hG
        go_wp2_with fail
        go_ret
        exact ⟨ret_int hst.out.symm, hbel⟩
      · have hd' : decide ((its.length : Int) < (its'.length : Int)) = false := by simp; omega
        have hst := hid_e (hG.out.trans (cmpL_end (by omega) (by omega)))
        clear hI hL hL' hG
        go_wp2_with fail
        go_ret
        exact ⟨ret_int hst.out.symm, hbel⟩
theorem drop_at {α : Type} {l : List α} {q : Nat} {x : α} (h : l[q]? = some x) : l.drop q = x :: l.drop (q + 1) := by
  obtain ⟨hq, hx⟩ := List.getElem?_eq_some_iff.1 h
  rw [← hx]
  exact List.drop_eq_getElem_cons hq
theorem cmpM_step {ns ms : List ByteArray} {al bl : List Tr} {q : Nat} {n m : ByteArray} {u v : Tr} (hn : ns[q]? = some n) (hm : ms[q]? = some m) (h : al[q]? = some u) (h' : bl[q]? = some v) :
    cmpM (ns.drop q) (al.drop q) (ms.drop q) (bl.drop q) = if cmpS n m ≠ 0 then cmpS n m else if cmpT u v ≠ 0 then cmpT u v else cmpM (ns.drop (q + 1)) (al.drop (q + 1)) (ms.drop (q + 1)) (bl.drop (q + 1)) := by
  rw [drop_at hn, drop_at hm, drop_at h, drop_at h', cmpM]
theorem cmpM_nil {ns ms : List ByteArray} {al bl : List Tr} (h : min (min ns.length al.length) (min ms.length bl.length) = 0) : cmpM ns al ms bl = cmpI (min ns.length al.length : Nat) (min ms.length bl.length : Nat) := by
  cases ns <;> cases al <;> cases ms <;> cases bl <;> first | rfl | (simp at h)
theorem cmpM_end {ns ms : List ByteArray} {al bl : List Tr} {q : Nat} (h : min (min ns.length al.length) (min ms.length bl.length) = q) : cmpM (ns.drop q) (al.drop q) (ms.drop q) (bl.drop q) = cmpI (min ns.length al.length : Nat) (min ms.length bl.length : Nat) := by
  rw [cmpM_nil (by simp only [List.length_drop]; omega)]
  simp only [List.length_drop]
  unfold cmpI
  have e1 : ((min (ns.length - q) (al.length - q) : Nat) : Int) = (min ns.length al.length : Nat) - (q : Nat) := by omega
  have e2 : ((min (ms.length - q) (bl.length - q) : Nat) : Int) = (min ms.length bl.length : Nat) - (q : Nat) := by omega
  rw [e1, e2]
  congr 1
  · exact propext ⟨fun _ => by omega, fun _ => by omega⟩
  · congr 1
    exact propext ⟨fun _ => by omega, fun _ => by omega⟩
set_option maxHeartbeats 8000000 in
set_option maxRecDepth 100000 in
theorem cmembers_any (k x : Int) (s : ByteArray) (an : Option Addr) (cn : Nat) (ns : List ByteArray) (a : Option Addr) (c : Nat) (its : List Tr) (k' x' : Int) (s' : ByteArray) (an' : Option Addr) (cn' : Nat) (ns' : List ByteArray) (a' : Option Addr) (c' : Nat) (its' : List Tr) (w : World)
    (hM : its.length ≤ 9223372036854775806) (hM' : its'.length ≤ 9223372036854775806) (hN : Hid (Reads w (.slice an ns.length cn) ns)) (hN' : Hid (Reads w (.slice an' ns'.length cn') ns')) (hL : Hid (ItemsAt w a its)) (hL' : Hid (ItemsAt w a' its')) (hI : Hid (CmpOk its its')) :
    Calls Tryz.prog 97 #[.agg #[.int .i64 k, .int .i64 x, .string s, .slice an ns.length cn, .slice a its.length c], .agg #[.int .i64 k', .int .i64 x', .string s', .slice an' ns'.length cn', .slice a' its'.length c']] w fun e w' => e = .returned (.int .i64 (cmpM ns its ns' its')) ∧ Below w.heap.size w w' := by
  go_enter Tryz.func97, Tryz.ntmps97
  go_wp2_with fail
  have HB : Below w.heap.size w ((w.alloc (.cells #[.int .i64 k, .int .i64 x, .string s, .slice an ns.length cn, .slice a its.length c] 25)).alloc (.cells #[.int .i64 k', .int .i64 x', .string s', .slice an' ns'.length cn', .slice a' its'.length c'] 25)) := ((Below.refl _ w).alloc (Nat.le_refl _) _).alloc (by simp) _
  have h0 := new1 w (.cells #[.int .i64 k, .int .i64 x, .string s, .slice an ns.length cn, .slice a its.length c] 25) (.cells #[.int .i64 k', .int .i64 x', .string s', .slice an' ns'.length cn', .slice a' its'.length c'] 25)
  have h1 := new2 w (.cells #[.int .i64 k, .int .i64 x, .string s, .slice an ns.length cn, .slice a its.length c] 25) (.cells #[.int .i64 k', .int .i64 x', .string s', .slice an' ns'.length cn', .slice a' its'.length c'] 25)
  generalize (w.alloc (.cells #[.int .i64 k, .int .i64 x, .string s, .slice an ns.length cn, .slice a its.length c] 25)).alloc (.cells #[.int .i64 k', .int .i64 x', .string s', .slice an' ns'.length cn', .slice a' its'.length c'] 25) = X at HB h0 h1
  obtain ⟨y0, y1, y2, y3, y4, -⟩ := row_cells h0
  obtain ⟨z0, z1, z2, z3, z4, -⟩ := row_cells h1
  refine wp_region_quiet (C := fun w' => Below X.heap.size X w') (by kernel_rfl) (by kernel_rfl) (below_drewN (Below.refl _ _) 1) ?_
  refine wpQuiet_step (fun K hK => ?_)
  refine ⟨.agg #[.int .i64 k, .int .i64 x, .string s, .slice an ns.length cn, .slice a its.length c], fun w' hw' => ?_, hK _ ?_⟩
  · have t0 := stay hw' y0
    have t1 := stay hw' y1
    have t2 := stay hw' y2
    have t3 := stay hw' y3
    have t4 := stay hw' y4
    go_simp
  clear hK K
  refine wpQuiet_step (fun K hK => ?_)
  refine ⟨.int .i64 (min ns.length its.length : Nat), fun w' hw' => ?_, hK _ ?_⟩
  · go_simp
    refine (members_any _ _ _ _ _ _ _ _ _ w').mono ?_
    rintro e w'' ⟨rfl, hb⟩
    exact ⟨rfl, hw'.trans (hb.mono hw'.size)⟩
  clear hK K
  refine wpQuiet_step (fun K hK => ?_)
  refine ⟨.agg #[.int .i64 k', .int .i64 x', .string s', .slice an' ns'.length cn', .slice a' its'.length c'], fun w' hw' => ?_, hK _ ?_⟩
  · have t0 := stay hw' z0
    have t1 := stay hw' z1
    have t2 := stay hw' z2
    have t3 := stay hw' z3
    have t4 := stay hw' z4
    go_simp
  clear hK K
  refine wpQuiet_step (fun K hK => ?_)
  refine ⟨.int .i64 (min ns'.length its'.length : Nat), fun w' hw' => ?_, hK _ ?_⟩
  · go_simp
    refine (members_any _ _ _ _ _ _ _ _ _ w').mono ?_
    rintro e w'' ⟨rfl, hb⟩
    exact ⟨rfl, hw'.trans (hb.mono hw'.size)⟩
  clear hK K
  refine wpQuiet_step (fun K hK => ?_)
  go_simp
  refine ⟨_, fun _ _ => rfl, hK _ ?_⟩
  clear hK K
  refine wpQuiet_step (fun K hK => ?_)
  go_simp
  refine ⟨_, fun _ _ => rfl, hK _ ?_⟩
  clear hK K
  refine wpQuiet_nil ?_
  intro Y hY
  have HB' : Below w.heap.size w Y := HB.trans (hY.mono HB.size)
  have h0' := (hY.block _ (Array.getElem?_eq_some_iff.1 h0).1).trans h0
  have h1' := (hY.block _ (Array.getElem?_eq_some_iff.1 h1).1).trans h1
  clear hY HB h0 h1 y0 y1 y2 y3 y4 z0 z1 z2 z3 z4
  obtain ⟨m1, hm1⟩ : ∃ m, Hid (min ns.length its.length = m) := ⟨_, rfl⟩
  obtain ⟨m2, hm2⟩ : ∃ m, Hid (min ns'.length its'.length = m) := ⟨_, rfl⟩
  rw [hm1.out, hm2.out]
  have hb1 : m1 ≤ 9223372036854775806 := by have := hm1.out; omega
  have hb2 : m2 ≤ 9223372036854775806 := by have := hm2.out; omega
  by_cases hle : m1 ≤ m2
  · have hmm : Hid (min m1 m2 = m1) := Nat.min_eq_left hle
    go_wp2_with fail
    clear hle
    go_loopw [17] (fun i wr => ∃ q : Nat, q ≤ m1 ∧ i = .int .i64 q ∧ Below w.heap.size w wr ∧ wr.heap[w.heap.size]? = some (.cells #[.int .i64 k, .int .i64 x, .string s, .slice an ns.length cn, .slice a its.length c] 25 (0, 0)) ∧ wr.heap[w.heap.size + 1]? = some (.cells #[.int .i64 k', .int .i64 x', .string s', .slice an' ns'.length cn', .slice a' its'.length c'] 25 (0, 0)) ∧ Hid (cmpM ns its ns' its' = cmpM (ns.drop q) (its.drop q) (ns'.drop q) (its'.drop q))) (fun i _ => m1 - (intOf i).toNat)
    case atStart => exact ⟨0, Nat.zero_le _, rfl, HB', h0', h1', rfl⟩
    case round =>
      clear HB' h0' h1'
      obtain ⟨q, hq, rfl, HB, h0, h1, hG⟩ := hrel
      obtain ⟨-, -, -, y3, y4, -⟩ := row_cells h0
      obtain ⟨-, -, -, z3, z4, -⟩ := row_cells h1
      by_cases hlt : q < m1
      · have hd : decide ((q : Int) < (m1 : Int)) = true := by simp; omega
        obtain ⟨l1, l2, l3, l4⟩ : q < ns.length ∧ q < its.length ∧ q < ns'.length ∧ q < its'.length := by have e1 := hm1.out; have e2 := hm2.out; have e3 := hmm.out; omega
        obtain ⟨n, hn⟩ : ∃ n, Hid (ns[q]? = some n) := ⟨_, List.getElem?_eq_getElem l1⟩
        obtain ⟨n', hn'⟩ : ∃ n, Hid (ns'[q]? = some n) := ⟨_, List.getElem?_eq_getElem l3⟩
        obtain ⟨u, hu⟩ : ∃ u, Hid (its[q]? = some u) := ⟨_, List.getElem?_eq_getElem l2⟩
        obtain ⟨v, hv⟩ : ∃ v, Hid (its'[q]? = some v) := ⟨_, List.getElem?_eq_getElem l4⟩
        obtain ⟨_, _, e, _, hR⟩ := hN.out
        cases e
        obtain ⟨gn, on, rfl, _, hR⟩ := hR.resolve_left (by intro e; subst e; simp at l1)
        have c1 := stay HB (hR q n hn.out)
        clear hR
        obtain ⟨_, _, e, _, hR⟩ := hN'.out
        cases e
        obtain ⟨gn', on', rfl, _, hR⟩ := hR.resolve_left (by intro e; subst e; simp at l3)
        have c2 := stay HB (hR q n' hn'.out)
        clear hR
        obtain ⟨b, o, rfl, hb, hV⟩ := hL.out.resolve_left (by intro e; subst e; simp at l2)
        obtain ⟨cs, hC, hr⟩ := VRepL.at its o q u hV hu.out
        obtain ⟨k2, x2, s2, an2, ln2, cn2, ai2, li2, ci2, rfl⟩ := vrep_five hr
        obtain ⟨b', o', rfl, hb', hV'⟩ := hL'.out.resolve_left (by intro e; subst e; simp at l4)
        obtain ⟨cs', hC', hr'⟩ := VRepL.at its' o' q v hV' hv.out
        obtain ⟨k3, x3, s3, an3, ln3, cn3, ai3, li3, ci3, rfl⟩ := vrep_five hr'
        have p0 := stay HB (hC 0 _ rfl)
        have r0 := stay HB (hC' 0 _ rfl)
        have p1 := stay HB (hC 1 _ rfl)
        have r1 := stay HB (hC' 1 _ rfl)
        have p2 := stay HB (hC 2 _ rfl)
        have r2 := stay HB (hC' 2 _ rfl)
        have p3 := stay HB (hC 3 _ rfl)
        have r3 := stay HB (hC' 3 _ rfl)
        have p4 := stay HB (hC 4 _ rfl)
        have r4 := stay HB (hC' 4 _ rfl)
        simp only [Nat.add_zero] at p0 r0
        have hcall := hid_e (fun W (hW : Below w.heap.size w W) => hI.out q u v hu.out hv.out _ _ W (VRep.keep hW _ _ hr) (VRep.keep hW _ _ hr'))
        have hst := hid_e (hG.out.trans (cmpM_step hn.out hn'.out hu.out hv.out))
        clear hV hV' hC hC' hr hr' hG
        obtain ⟨z, hz⟩ : ∃ z, Hid (cmpT u v = z) := ⟨_, rfl⟩
        obtain ⟨y, hy⟩ : ∃ y, Hid (cmpS n n' = y) := ⟨_, rfl⟩
        rw [hz.out, hy.out] at hst
        rw [hz.out] at hcall
        have i1 : (q : Int) < (ns.length : Int) := by omega
        have i2 : (q : Int) < (ns'.length : Int) := by omega
        have i3 : (q : Int) < (its.length : Int) := by omega
        have i4 : (q : Int) < (its'.length : Int) := by omega
        have i5 : (0 : Int) ≤ (q : Int) := by omega
        go_wp2_with fail
        refine wp_region_quiet (C := fun w' => Below wr.heap.size wr w') (by kernel_rfl) (by kernel_rfl) (below_drewN (Below.refl _ _) 1) ?_
        refine wpQuiet_step (fun K hK => ?_)
        go_simp
        refine ⟨_, fun _ _ => rfl, hK _ ?_⟩
        clear hK K
        refine wpQuiet_step (fun K hK => ?_)
        refine ⟨.slice (some ⟨gn, on, none⟩) ns.length cn, fun w' hw' => ?_, hK _ ?_⟩
        · have t0 := stay hw' y3
          go_simp
        clear hK K
        refine wpQuiet_step (fun K hK => ?_)
        go_simp
        refine ⟨_, fun _ _ => rfl, hK _ ?_⟩
        clear hK K
        refine wpQuiet_step (fun K hK => ?_)
        go_simp
        refine ⟨_, fun _ _ => rfl, hK _ ?_⟩
        clear hK K
        refine wpQuiet_step (fun K hK => ?_)
        refine ⟨.string n, fun w' hw' => ?_, hK _ ?_⟩
        · have t0 := stay hw' c1
          go_simp
        clear hK K
        refine wpQuiet_step (fun K hK => ?_)
        go_simp
        refine ⟨_, fun _ _ => rfl, hK _ ?_⟩
        clear hK K
        refine wpQuiet_step (fun K hK => ?_)
        refine ⟨.slice (some ⟨gn', on', none⟩) ns'.length cn', fun w' hw' => ?_, hK _ ?_⟩
        · have t0 := stay hw' z3
          go_simp
        clear hK K
        refine wpQuiet_step (fun K hK => ?_)
        go_simp
        refine ⟨_, fun _ _ => rfl, hK _ ?_⟩
        clear hK K
        refine wpQuiet_step (fun K hK => ?_)
        go_simp
        refine ⟨_, fun _ _ => rfl, hK _ ?_⟩
        clear hK K
        refine wpQuiet_step (fun K hK => ?_)
        refine ⟨.string n', fun w' hw' => ?_, hK _ ?_⟩
        · have t0 := stay hw' c2
          go_simp
        clear hK K
        refine wpQuiet_step (fun K hK => ?_)
        refine ⟨.int .i64 y, fun w' hw' => ?_, hK _ ?_⟩
        · go_simp
          refine (cmpStr n n' w').mono ?_
          rintro e w'' ⟨rfl, rfl⟩
          exact ⟨by rw [hy.out], hw'⟩
        clear hK K
        refine wpQuiet_step (fun K hK => ?_)
        go_simp
        refine ⟨_, fun _ _ => rfl, hK _ ?_⟩
        clear hK K
        refine wpQuiet_nil ?_
        intro Y1 hY1
        have HB1 : Below w.heap.size w Y1 := HB.trans (hY1.mono HB.size)
        have h01 := (hY1.block _ (Array.getElem?_eq_some_iff.1 h0).1).trans h0
        have h11 := (hY1.block _ (Array.getElem?_eq_some_iff.1 h1).1).trans h1
        replace p0 := stay hY1 p0
        replace p1 := stay hY1 p1
        replace p2 := stay hY1 p2
        replace p3 := stay hY1 p3
        replace p4 := stay hY1 p4
        replace r0 := stay hY1 r0
        replace r1 := stay hY1 r1
        replace r2 := stay hY1 r2
        replace r3 := stay hY1 r3
        replace r4 := stay hY1 r4
        replace y4 := stay hY1 y4
        replace z4 := stay hY1 z4
        clear hY1 HB h0 h1 y3 z3 c1 c2
        by_cases hy0 : y = 0
        · subst hy0
          replace hst := hid_e (hst.out.trans (if_neg (fun e => e rfl)))
          go_wp2_with fail
          refine wp_region_quiet (C := fun w' => Below Y1.heap.size Y1 w') (by kernel_rfl) (by kernel_rfl) (below_drewN (Below.refl _ _) 1) ?_
          refine wpQuiet_step (fun K hK => ?_)
          go_simp
          refine ⟨_, fun _ _ => rfl, hK _ ?_⟩
          clear hK K
          refine wpQuiet_step (fun K hK => ?_)
          refine ⟨.slice (some ⟨b, o, none⟩) its.length c, fun w' hw' => ?_, hK _ ?_⟩
          · have t0 := stay hw' y4
            go_simp
          clear hK K
          refine wpQuiet_step (fun K hK => ?_)
          go_simp
          refine ⟨_, fun _ _ => rfl, hK _ ?_⟩
          clear hK K
          refine wpQuiet_step (fun K hK => ?_)
          go_simp
          refine ⟨_, fun _ _ => rfl, hK _ ?_⟩
          clear hK K
          refine wpQuiet_step (fun K hK => ?_)
          refine ⟨.agg #[.int .i64 k2, .int .i64 x2, .string s2, .slice an2 ln2 cn2, .slice ai2 li2 ci2], fun w' hw' => ?_, hK _ ?_⟩
          · have t0 := stay hw' p0
            have t1 := stay hw' p1
            have t2 := stay hw' p2
            have t3 := stay hw' p3
            have t4 := stay hw' p4
            go_simp
          clear hK K
          refine wpQuiet_step (fun K hK => ?_)
          go_simp
          refine ⟨_, fun _ _ => rfl, hK _ ?_⟩
          clear hK K
          refine wpQuiet_step (fun K hK => ?_)
          refine ⟨.slice (some ⟨b', o', none⟩) its'.length c', fun w' hw' => ?_, hK _ ?_⟩
          · have t0 := stay hw' z4
            go_simp
          clear hK K
          refine wpQuiet_step (fun K hK => ?_)
          go_simp
          refine ⟨_, fun _ _ => rfl, hK _ ?_⟩
          clear hK K
          refine wpQuiet_step (fun K hK => ?_)
          go_simp
          refine ⟨_, fun _ _ => rfl, hK _ ?_⟩
          clear hK K
          refine wpQuiet_step (fun K hK => ?_)
          refine ⟨.agg #[.int .i64 k3, .int .i64 x3, .string s3, .slice an3 ln3 cn3, .slice ai3 li3 ci3], fun w' hw' => ?_, hK _ ?_⟩
          · have t0 := stay hw' r0
            have t1 := stay hw' r1
            have t2 := stay hw' r2
            have t3 := stay hw' r3
            have t4 := stay hw' r4
            go_simp
          clear hK K
          refine wpQuiet_step (fun K hK => ?_)
          refine ⟨.int .i64 z, fun w' hw' => ?_, hK _ ?_⟩
          · go_simp
            refine (hcall.out w' (HB1.trans (hw'.mono HB1.size))).mono ?_
            rintro e w'' ⟨rfl, hb⟩
            exact ⟨rfl, hw'.trans (hb.mono hw'.size)⟩
          clear hK K
          refine wpQuiet_step (fun K hK => ?_)
          go_simp
          refine ⟨_, fun _ _ => rfl, hK _ ?_⟩
          clear hK K
          refine wpQuiet_nil ?_
          intro Y2 hY2
          have HB2 : Below w.heap.size w Y2 := HB1.trans (hY2.mono HB1.size)
          have h02 := (hY2.block _ (Array.getElem?_eq_some_iff.1 h01).1).trans h01
          have h12 := (hY2.block _ (Array.getElem?_eq_some_iff.1 h11).1).trans h11
          clear hY2 HB1 h01 h11 y4 z4 p0 p1 p2 p3 p4 r0 r1 r2 r3 r4 hcall
          by_cases hz0 : z = 0
          · subst hz0
            replace hst := hid_e (hst.out.trans (if_neg (fun e => e rfl)))
            go_wp2_with fail
            go_roundw
            case rel => exact ⟨q + 1, by omega, by simp, HB2, h02, h12, hst⟩
            case measure => simp [intOf]; omega
          · have hz1 : (z == 0) = false := by simpa using hz0
            replace hst := hid_e (hst.out.trans (if_pos hz0))
            go_wp2_with fail
            go_ret
            exact ⟨ret_int hst.out.symm, HB2⟩
        · have hy1 : (y == 0) = false := by simpa using hy0
          replace hst := hid_e (hst.out.trans (if_pos hy0))
          go_wp2_with fail
          go_ret
          exact ⟨ret_int hst.out.symm, HB1⟩
      · have hd : decide ((q : Int) < (m1 : Int)) = false := by simp; omega
        have hst := hid_e (hG.out.trans (cmpM_end (by have e1 := hm1.out; have e2 := hm2.out; have e3 := hmm.out; omega)))
        rw [hm1.out, hm2.out] at hst
        clear hG y3 y4 z3 z4
        go_wp2_with fail
        refine (cmp3 _ _ _).mono ?_
        rintro e w' ⟨rfl, rfl⟩
        go_wp2_with fail
        go_ret
        exact ⟨ret_int hst.out.symm, HB⟩
  · have hmm : Hid (min m1 m2 = m2) := Nat.min_eq_right (by omega)
    go_wp2_with fail
    clear hle
    go_loopw [17] (fun i wr => ∃ q : Nat, q ≤ m2 ∧ i = .int .i64 q ∧ Below w.heap.size w wr ∧ wr.heap[w.heap.size]? = some (.cells #[.int .i64 k, .int .i64 x, .string s, .slice an ns.length cn, .slice a its.length c] 25 (0, 0)) ∧ wr.heap[w.heap.size + 1]? = some (.cells #[.int .i64 k', .int .i64 x', .string s', .slice an' ns'.length cn', .slice a' its'.length c'] 25 (0, 0)) ∧ Hid (cmpM ns its ns' its' = cmpM (ns.drop q) (its.drop q) (ns'.drop q) (its'.drop q))) (fun i _ => m2 - (intOf i).toNat)
    case atStart => exact ⟨0, Nat.zero_le _, rfl, HB', h0', h1', rfl⟩
    case round =>
      clear HB' h0' h1'
      obtain ⟨q, hq, rfl, HB, h0, h1, hG⟩ := hrel
      obtain ⟨-, -, -, y3, y4, -⟩ := row_cells h0
      obtain ⟨-, -, -, z3, z4, -⟩ := row_cells h1
      by_cases hlt : q < m2
      · have hd : decide ((q : Int) < (m2 : Int)) = true := by simp; omega
        obtain ⟨l1, l2, l3, l4⟩ : q < ns.length ∧ q < its.length ∧ q < ns'.length ∧ q < its'.length := by have e1 := hm1.out; have e2 := hm2.out; have e3 := hmm.out; omega
        obtain ⟨n, hn⟩ : ∃ n, Hid (ns[q]? = some n) := ⟨_, List.getElem?_eq_getElem l1⟩
        obtain ⟨n', hn'⟩ : ∃ n, Hid (ns'[q]? = some n) := ⟨_, List.getElem?_eq_getElem l3⟩
        obtain ⟨u, hu⟩ : ∃ u, Hid (its[q]? = some u) := ⟨_, List.getElem?_eq_getElem l2⟩
        obtain ⟨v, hv⟩ : ∃ v, Hid (its'[q]? = some v) := ⟨_, List.getElem?_eq_getElem l4⟩
        obtain ⟨_, _, e, _, hR⟩ := hN.out
        cases e
        obtain ⟨gn, on, rfl, _, hR⟩ := hR.resolve_left (by intro e; subst e; simp at l1)
        have c1 := stay HB (hR q n hn.out)
        clear hR
        obtain ⟨_, _, e, _, hR⟩ := hN'.out
        cases e
        obtain ⟨gn', on', rfl, _, hR⟩ := hR.resolve_left (by intro e; subst e; simp at l3)
        have c2 := stay HB (hR q n' hn'.out)
        clear hR
        obtain ⟨b, o, rfl, hb, hV⟩ := hL.out.resolve_left (by intro e; subst e; simp at l2)
        obtain ⟨cs, hC, hr⟩ := VRepL.at its o q u hV hu.out
        obtain ⟨k2, x2, s2, an2, ln2, cn2, ai2, li2, ci2, rfl⟩ := vrep_five hr
        obtain ⟨b', o', rfl, hb', hV'⟩ := hL'.out.resolve_left (by intro e; subst e; simp at l4)
        obtain ⟨cs', hC', hr'⟩ := VRepL.at its' o' q v hV' hv.out
        obtain ⟨k3, x3, s3, an3, ln3, cn3, ai3, li3, ci3, rfl⟩ := vrep_five hr'
        have p0 := stay HB (hC 0 _ rfl)
        have r0 := stay HB (hC' 0 _ rfl)
        have p1 := stay HB (hC 1 _ rfl)
        have r1 := stay HB (hC' 1 _ rfl)
        have p2 := stay HB (hC 2 _ rfl)
        have r2 := stay HB (hC' 2 _ rfl)
        have p3 := stay HB (hC 3 _ rfl)
        have r3 := stay HB (hC' 3 _ rfl)
        have p4 := stay HB (hC 4 _ rfl)
        have r4 := stay HB (hC' 4 _ rfl)
        simp only [Nat.add_zero] at p0 r0
        have hcall := hid_e (fun W (hW : Below w.heap.size w W) => hI.out q u v hu.out hv.out _ _ W (VRep.keep hW _ _ hr) (VRep.keep hW _ _ hr'))
        have hst := hid_e (hG.out.trans (cmpM_step hn.out hn'.out hu.out hv.out))
        clear hV hV' hC hC' hr hr' hG
        obtain ⟨z, hz⟩ : ∃ z, Hid (cmpT u v = z) := ⟨_, rfl⟩
        obtain ⟨y, hy⟩ : ∃ y, Hid (cmpS n n' = y) := ⟨_, rfl⟩
        rw [hz.out, hy.out] at hst
        rw [hz.out] at hcall
        have i1 : (q : Int) < (ns.length : Int) := by omega
        have i2 : (q : Int) < (ns'.length : Int) := by omega
        have i3 : (q : Int) < (its.length : Int) := by omega
        have i4 : (q : Int) < (its'.length : Int) := by omega
        have i5 : (0 : Int) ≤ (q : Int) := by omega
        go_wp2_with fail
        refine wp_region_quiet (C := fun w' => Below wr.heap.size wr w') (by kernel_rfl) (by kernel_rfl) (below_drewN (Below.refl _ _) 1) ?_
        refine wpQuiet_step (fun K hK => ?_)
        go_simp
        refine ⟨_, fun _ _ => rfl, hK _ ?_⟩
        clear hK K
        refine wpQuiet_step (fun K hK => ?_)
        refine ⟨.slice (some ⟨gn, on, none⟩) ns.length cn, fun w' hw' => ?_, hK _ ?_⟩
        · have t0 := stay hw' y3
          go_simp
        clear hK K
        refine wpQuiet_step (fun K hK => ?_)
        go_simp
        refine ⟨_, fun _ _ => rfl, hK _ ?_⟩
        clear hK K
        refine wpQuiet_step (fun K hK => ?_)
        go_simp
        refine ⟨_, fun _ _ => rfl, hK _ ?_⟩
        clear hK K
        refine wpQuiet_step (fun K hK => ?_)
        refine ⟨.string n, fun w' hw' => ?_, hK _ ?_⟩
        · have t0 := stay hw' c1
          go_simp
        clear hK K
        refine wpQuiet_step (fun K hK => ?_)
        go_simp
        refine ⟨_, fun _ _ => rfl, hK _ ?_⟩
        clear hK K
        refine wpQuiet_step (fun K hK => ?_)
        refine ⟨.slice (some ⟨gn', on', none⟩) ns'.length cn', fun w' hw' => ?_, hK _ ?_⟩
        · have t0 := stay hw' z3
          go_simp
        clear hK K
        refine wpQuiet_step (fun K hK => ?_)
        go_simp
        refine ⟨_, fun _ _ => rfl, hK _ ?_⟩
        clear hK K
        refine wpQuiet_step (fun K hK => ?_)
        go_simp
        refine ⟨_, fun _ _ => rfl, hK _ ?_⟩
        clear hK K
        refine wpQuiet_step (fun K hK => ?_)
        refine ⟨.string n', fun w' hw' => ?_, hK _ ?_⟩
        · have t0 := stay hw' c2
          go_simp
        clear hK K
        refine wpQuiet_step (fun K hK => ?_)
        refine ⟨.int .i64 y, fun w' hw' => ?_, hK _ ?_⟩
        · go_simp
          refine (cmpStr n n' w').mono ?_
          rintro e w'' ⟨rfl, rfl⟩
          exact ⟨by rw [hy.out], hw'⟩
        clear hK K
        refine wpQuiet_step (fun K hK => ?_)
        go_simp
        refine ⟨_, fun _ _ => rfl, hK _ ?_⟩
        clear hK K
        refine wpQuiet_nil ?_
        intro Y1 hY1
        have HB1 : Below w.heap.size w Y1 := HB.trans (hY1.mono HB.size)
        have h01 := (hY1.block _ (Array.getElem?_eq_some_iff.1 h0).1).trans h0
        have h11 := (hY1.block _ (Array.getElem?_eq_some_iff.1 h1).1).trans h1
        replace p0 := stay hY1 p0
        replace p1 := stay hY1 p1
        replace p2 := stay hY1 p2
        replace p3 := stay hY1 p3
        replace p4 := stay hY1 p4
        replace r0 := stay hY1 r0
        replace r1 := stay hY1 r1
        replace r2 := stay hY1 r2
        replace r3 := stay hY1 r3
        replace r4 := stay hY1 r4
        replace y4 := stay hY1 y4
        replace z4 := stay hY1 z4
        clear hY1 HB h0 h1 y3 z3 c1 c2
        by_cases hy0 : y = 0
        · subst hy0
          replace hst := hid_e (hst.out.trans (if_neg (fun e => e rfl)))
          go_wp2_with fail
          refine wp_region_quiet (C := fun w' => Below Y1.heap.size Y1 w') (by kernel_rfl) (by kernel_rfl) (below_drewN (Below.refl _ _) 1) ?_
          refine wpQuiet_step (fun K hK => ?_)
          go_simp
          refine ⟨_, fun _ _ => rfl, hK _ ?_⟩
          clear hK K
          refine wpQuiet_step (fun K hK => ?_)
          refine ⟨.slice (some ⟨b, o, none⟩) its.length c, fun w' hw' => ?_, hK _ ?_⟩
          · have t0 := stay hw' y4
            go_simp
          clear hK K
          refine wpQuiet_step (fun K hK => ?_)
          go_simp
          refine ⟨_, fun _ _ => rfl, hK _ ?_⟩
          clear hK K
          refine wpQuiet_step (fun K hK => ?_)
          go_simp
          refine ⟨_, fun _ _ => rfl, hK _ ?_⟩
          clear hK K
          refine wpQuiet_step (fun K hK => ?_)
          refine ⟨.agg #[.int .i64 k2, .int .i64 x2, .string s2, .slice an2 ln2 cn2, .slice ai2 li2 ci2], fun w' hw' => ?_, hK _ ?_⟩
          · have t0 := stay hw' p0
            have t1 := stay hw' p1
            have t2 := stay hw' p2
            have t3 := stay hw' p3
            have t4 := stay hw' p4
            go_simp
          clear hK K
          refine wpQuiet_step (fun K hK => ?_)
          go_simp
          refine ⟨_, fun _ _ => rfl, hK _ ?_⟩
          clear hK K
          refine wpQuiet_step (fun K hK => ?_)
          refine ⟨.slice (some ⟨b', o', none⟩) its'.length c', fun w' hw' => ?_, hK _ ?_⟩
          · have t0 := stay hw' z4
            go_simp
          clear hK K
          refine wpQuiet_step (fun K hK => ?_)
          go_simp
          refine ⟨_, fun _ _ => rfl, hK _ ?_⟩
          clear hK K
          refine wpQuiet_step (fun K hK => ?_)
          go_simp
          refine ⟨_, fun _ _ => rfl, hK _ ?_⟩
          clear hK K
          refine wpQuiet_step (fun K hK => ?_)
          refine ⟨.agg #[.int .i64 k3, .int .i64 x3, .string s3, .slice an3 ln3 cn3, .slice ai3 li3 ci3], fun w' hw' => ?_, hK _ ?_⟩
          · have t0 := stay hw' r0
            have t1 := stay hw' r1
            have t2 := stay hw' r2
            have t3 := stay hw' r3
            have t4 := stay hw' r4
            go_simp
          clear hK K
          refine wpQuiet_step (fun K hK => ?_)
          refine ⟨.int .i64 z, fun w' hw' => ?_, hK _ ?_⟩
          · go_simp
            refine (hcall.out w' (HB1.trans (hw'.mono HB1.size))).mono ?_
            rintro e w'' ⟨rfl, hb⟩
            exact ⟨rfl, hw'.trans (hb.mono hw'.size)⟩
          clear hK K
          refine wpQuiet_step (fun K hK => ?_)
          go_simp
          refine ⟨_, fun _ _ => rfl, hK _ ?_⟩
          clear hK K
          refine wpQuiet_nil ?_
          intro Y2 hY2
          have HB2 : Below w.heap.size w Y2 := HB1.trans (hY2.mono HB1.size)
          have h02 := (hY2.block _ (Array.getElem?_eq_some_iff.1 h01).1).trans h01
          have h12 := (hY2.block _ (Array.getElem?_eq_some_iff.1 h11).1).trans h11
          clear hY2 HB1 h01 h11 y4 z4 p0 p1 p2 p3 p4 r0 r1 r2 r3 r4 hcall
          by_cases hz0 : z = 0
          · subst hz0
            replace hst := hid_e (hst.out.trans (if_neg (fun e => e rfl)))
            go_wp2_with fail
            go_roundw
            case rel => exact ⟨q + 1, by omega, by simp, HB2, h02, h12, hst⟩
            case measure => simp [intOf]; omega
          · have hz1 : (z == 0) = false := by simpa using hz0
            replace hst := hid_e (hst.out.trans (if_pos hz0))
            go_wp2_with fail
            go_ret
            exact ⟨ret_int hst.out.symm, HB2⟩
        · have hy1 : (y == 0) = false := by simpa using hy0
          replace hst := hid_e (hst.out.trans (if_pos hy0))
          go_wp2_with fail
          go_ret
          exact ⟨ret_int hst.out.symm, HB1⟩
      · have hd : decide ((q : Int) < (m2 : Int)) = false := by simp; omega
        have hst := hid_e (hG.out.trans (cmpM_end (by have e1 := hm1.out; have e2 := hm2.out; have e3 := hmm.out; omega)))
        rw [hm1.out, hm2.out] at hst
        clear hG y3 y4 z3 z4
        go_wp2_with fail
        refine (cmp3 _ _ _).mono ?_
        rintro e w' ⟨rfl, rfl⟩
        go_wp2_with fail
        go_ret
        exact ⟨ret_int hst.out.symm, HB⟩
theorem ItemsAt.keep {w w' : World} {a : Option Addr} {its : List Tr} (h : ItemsAt w a its) (hb : Below w.heap.size w w') : ItemsAt w' a its := by
  rcases h with h | ⟨b, o, h1, h2, h3⟩
  · exact .inl h
  · exact .inr ⟨b, o, h1, Nat.lt_of_lt_of_le h2 hb.size, VRepL.keep hb h2 o its h3⟩
mutual
/-- No list of items is too long. -/
def Below1 : Tr → Prop
  | .node _ _ _ _ its => its.length ≤ 9223372036854775806 ∧ Below1L its
def Below1L : List Tr → Prop
  | [] => True
  | t :: ts => Below1 t ∧ Below1L ts
end
theorem Below1L.at : {its : List Tr} → {i : Nat} → {u : Tr} → Below1L its → its[i]? = some u → Below1 u
  | [], _, _, _, hu => by simp at hu
  | t :: ts, 0, u, h, hu => by
    unfold Below1L at h
    have : t = u := by simpa using hu
    exact this ▸ h.1
  | t :: ts, i + 1, u, h, hu => by
    unfold Below1L at h
    exact Below1L.at h.2 (by simpa using hu)
theorem Below1.at {k x : Int} {s : ByteArray} {ns : List ByteArray} {its : List Tr} {i : Nat} {u : Tr} (h : Below1 (.node k x s ns its)) (hu : its[i]? = some u) : Below1 u := by
  unfold Below1 at h
  exact Below1L.at h.2 hu
set_option maxHeartbeats 8000000 in
set_option maxRecDepth 100000 in
theorem compare_one (k x : Int) (s : ByteArray) (an : Option Addr) (cn : Nat) (ns : List ByteArray) (a : Option Addr) (c : Nat) (its : List Tr) (k' x' : Int) (s' : ByteArray) (an' : Option Addr) (cn' : Nat) (ns' : List ByteArray) (a' : Option Addr) (c' : Nat) (its' : List Tr) (w : World)
    (hM : its.length ≤ 9223372036854775806) (hM' : its'.length ≤ 9223372036854775806) (hN : Hid (Reads w (.slice an ns.length cn) ns)) (hN' : Hid (Reads w (.slice an' ns'.length cn') ns')) (hL : Hid (ItemsAt w a its)) (hL' : Hid (ItemsAt w a' its')) (hI : Hid (CmpOk its its')) :
    Calls Tryz.prog 59 #[.agg #[.int .i64 k, .int .i64 x, .string s, .slice an ns.length cn, .slice a its.length c], .agg #[.int .i64 k', .int .i64 x', .string s', .slice an' ns'.length cn', .slice a' its'.length c']] w fun e w' => e = .returned (.int .i64 (cmpT (.node k x s ns its) (.node k' x' s' ns' its'))) ∧ Below w.heap.size w w' := by
  obtain ⟨R, hR⟩ : ∃ R, Hid (cmpT (.node k x s ns its) (.node k' x' s' ns' its') = R) := ⟨_, rfl⟩
  rw [hR.out]
  replace hR := hid_e (hR.out.symm.trans (by unfold cmpT; rfl))
  go_enter Tryz.func59, Tryz.ntmps59
  go_wp2_with fail
  have HB : Below w.heap.size w ((w.alloc (.cells #[.int .i64 k, .int .i64 x, .string s, .slice an ns.length cn, .slice a its.length c] 25)).alloc (.cells #[.int .i64 k', .int .i64 x', .string s', .slice an' ns'.length cn', .slice a' its'.length c'] 25)) := ((Below.refl _ w).alloc (Nat.le_refl _) _).alloc (by simp) _
  have h0 := new1 w (.cells #[.int .i64 k, .int .i64 x, .string s, .slice an ns.length cn, .slice a its.length c] 25) (.cells #[.int .i64 k', .int .i64 x', .string s', .slice an' ns'.length cn', .slice a' its'.length c'] 25)
  have h1 := new2 w (.cells #[.int .i64 k, .int .i64 x, .string s, .slice an ns.length cn, .slice a its.length c] 25) (.cells #[.int .i64 k', .int .i64 x', .string s', .slice an' ns'.length cn', .slice a' its'.length c'] 25)
  generalize (w.alloc (.cells #[.int .i64 k, .int .i64 x, .string s, .slice an ns.length cn, .slice a its.length c] 25)).alloc (.cells #[.int .i64 k', .int .i64 x', .string s', .slice an' ns'.length cn', .slice a' its'.length c'] 25) = X at HB h0 h1
  obtain ⟨y0, y1, y2, y3, y4, -⟩ := row_cells h0
  obtain ⟨z0, z1, z2, z3, z4, -⟩ := row_cells h1
  obtain ⟨d, hd⟩ : ∃ d, Hid (cmpI (rankZ k) (rankZ k') = d) := ⟨_, rfl⟩
  rw [hd.out] at hR
  refine wp_region_quiet (C := fun w' => Below X.heap.size X w') (by kernel_rfl) (by kernel_rfl) (below_drewN (Below.refl _ _) 1) ?_
  refine wpQuiet_step (fun K hK => ?_)
  refine ⟨.agg #[.int .i64 k, .int .i64 x, .string s, .slice an ns.length cn, .slice a its.length c], fun w' hw' => ?_, hK _ ?_⟩
  · have t0 := stay hw' y0
    have t1 := stay hw' y1
    have t2 := stay hw' y2
    have t3 := stay hw' y3
    have t4 := stay hw' y4
    go_simp
  clear hK K
  refine wpQuiet_step (fun K hK => ?_)
  refine ⟨.int .i64 (rankZ k), fun w' hw' => ?_, hK _ ?_⟩
  · go_simp
    refine (rank_any _ _ _ _ _ _ _ _ _ w').mono ?_
    rintro e w'' ⟨rfl, hb⟩
    exact ⟨rfl, hw'.trans (hb.mono hw'.size)⟩
  clear hK K
  refine wpQuiet_step (fun K hK => ?_)
  refine ⟨.agg #[.int .i64 k', .int .i64 x', .string s', .slice an' ns'.length cn', .slice a' its'.length c'], fun w' hw' => ?_, hK _ ?_⟩
  · have t0 := stay hw' z0
    have t1 := stay hw' z1
    have t2 := stay hw' z2
    have t3 := stay hw' z3
    have t4 := stay hw' z4
    go_simp
  clear hK K
  refine wpQuiet_step (fun K hK => ?_)
  refine ⟨.int .i64 (rankZ k'), fun w' hw' => ?_, hK _ ?_⟩
  · go_simp
    refine (rank_any _ _ _ _ _ _ _ _ _ w').mono ?_
    rintro e w'' ⟨rfl, hb⟩
    exact ⟨rfl, hw'.trans (hb.mono hw'.size)⟩
  clear hK K
  refine wpQuiet_step (fun K hK => ?_)
  refine ⟨.int .i64 d, fun w' hw' => ?_, hK _ ?_⟩
  · go_simp
    refine (cmp3 _ _ w').mono ?_
    rintro e w'' ⟨rfl, rfl⟩
    exact ⟨by rw [hd.out], hw'⟩
  clear hK K
  refine wpQuiet_step (fun K hK => ?_)
  go_simp
  refine ⟨_, fun _ _ => rfl, hK _ ?_⟩
  clear hK K
  refine wpQuiet_nil ?_
  intro Y hY
  have HB' : Below w.heap.size w Y := HB.trans (hY.mono HB.size)
  have h0' := (hY.block _ (Array.getElem?_eq_some_iff.1 h0).1).trans h0
  have h1' := (hY.block _ (Array.getElem?_eq_some_iff.1 h1).1).trans h1
  clear hY HB h0 h1 y0 y1 y2 y3 y4 z0 z1 z2 z3 z4
  obtain ⟨y0, y1, y2, y3, y4, -⟩ := row_cells h0'
  obtain ⟨z0, z1, z2, z3, z4, -⟩ := row_cells h1'
  clear h0' h1'
  by_cases hd0 : d = 0
  · subst hd0
    replace hR := hid_e (hR.out.trans (if_neg (fun e => e rfl)))
    by_cases k3 : k = 3
    · subst k3
      replace hR := hid_e (hR.out.trans (if_pos rfl))
      go_wp2_with fail
      refine (cmp2 _ _ _).mono ?_
      rintro e w' ⟨rfl, rfl⟩
      go_wp2_with fail
      go_ret
      exact ⟨ret_int hR.out.symm, HB'⟩
    have e3 : (k == 3) = false := by simpa using k3
    replace hR := hid_e (hR.out.trans (if_neg k3))
    by_cases k4 : k = 4
    · subst k4
      replace hR := hid_e (hR.out.trans (if_pos rfl))
      go_wp2_with fail
      refine (cmpStr _ _ _).mono ?_
      rintro e w' ⟨rfl, rfl⟩
      go_wp2_with fail
      go_ret
      exact ⟨ret_int hR.out.symm, HB'⟩
    have e4 : (k == 4) = false := by simpa using k4
    replace hR := hid_e (hR.out.trans (if_neg k4))
    by_cases k6 : k = 6
    · subst k6
      replace hR := hid_e (hR.out.trans (if_pos rfl))
      go_wp2_with fail
      go_fit (cmembers_any 6 x s an cn ns a c its k' x' s' an' cn' ns' a' c' its' Y hM hM' (hid_e (hN.out.keep HB')) (hid_e (hN'.out.keep HB')) (hid_e (hL.out.keep HB')) (hid_e (hL'.out.keep HB')) hI)
      rintro e w' ⟨rfl, hb⟩
      go_wp2_with fail
      go_ret
      exact ⟨ret_int hR.out.symm, HB'.trans (hb.mono HB'.size)⟩
    have e6 : (k == 6) = false := by simpa using k6
    replace hR := hid_e (hR.out.trans (if_neg k6))
    by_cases k5 : k = 5
    · subst k5
      replace hR := hid_e (hR.out.trans (if_pos rfl))
      go_wp2_with fail
      go_fit (cfunc_any its its' a a' c c' Y hM hM' (hid_e (hL.out.keep HB')) (hid_e (hL'.out.keep HB')) hI)
      rintro e w' ⟨rfl, hb⟩
      go_wp2_with fail
      go_ret
      exact ⟨ret_int hR.out.symm, HB'.trans (hb.mono HB'.size)⟩
    have e5 : (k == 5) = false := by simpa using k5
    replace hR := hid_e (hR.out.trans (if_neg k5))
    go_wp2_with fail
    go_ret
    exact ⟨ret_int hR.out.symm, HB'⟩
  · have hd1 : (d == 0) = false := by simpa using hd0
    replace hR := hid_e (hR.out.trans (if_pos hd0))
    go_wp2_with fail
    go_ret
    exact ⟨ret_int hR.out.symm, HB'⟩
theorem compare_any (t u : Tr) (cs cs' : List Value) (w : World) (hV : VRep w t cs) (hV' : VRep w u cs') (hS : Below1 t) (hS' : Below1 u) :
    Calls Tryz.prog 59 #[.agg cs.toArray, .agg cs'.toArray] w fun e w' => e = .returned (.int .i64 (cmpT t u)) ∧ Below w.heap.size w w' := by
  match t, u, hV, hV', hS, hS' with
  | .node k x s ns its, .node k' x' s' ns' its', hV, hV', hS, hS' =>
    unfold VRep at hV hV'
    obtain ⟨nm, a, c, rfl, hn, hc, hI⟩ := hV
    obtain ⟨nm', a', c', rfl, hn', hc', hI'⟩ := hV'
    obtain ⟨an, cn, rfl, -, -⟩ := id hn
    obtain ⟨an', cn', rfl, -, -⟩ := id hn'
    refine compare_one k x s an cn ns a c its k' x' s' an' cn' ns' a' c' its' w (by unfold Below1 at hS; omega) (by unfold Below1 at hS'; omega) (hid_e hn) (hid_e hn') (hid_e hI) (hid_e hI') (hid_e (fun i u v hu hv ds ds' w' h1 h2 => ?_))
    have hlt : SizeOf.sizeOf u < SizeOf.sizeOf its := tr_lt hu
    exact compare_any u v ds ds' w' h1 h2 (Below1.at hS hu) (Below1.at hS' hv)
termination_by SizeOf.sizeOf t
decreasing_by simp only [Tr.node.sizeOf_spec]; omega
theorem small_below : (t : Tr) → SmallT t → Below1 t := by
  intro t
  refine Tr.rec (motive_1 := fun t => SmallT t → Below1 t) (motive_2 := fun l => SmallL l → Below1L l) ?_ ?_ ?_ t
  · intro k x s ns its ih h
    unfold SmallT at h
    unfold Below1
    exact ⟨by omega, ih h.2.2.2.2⟩
  · intro _; unfold Below1L; trivial
  · intro t ts h1 h2 h
    unfold SmallL at h
    unfold Below1L
    exact ⟨h1 h.1, h2 h.2⟩
set_option maxHeartbeats 1000000 in
theorem ints_any (x y : Int) (w : World) : Calls Tryz.prog 69 #[.int .i64 x, .int .i64 y] w fun e w' => e = .returned (.int .i64 (cmpI x y)) ∧ w' = w := by
  rcases Int.lt_trichotomy x y with h | rfl | h
  · rw [cmpI_lt h]
    go_enter Tryz.func69, Tryz.ntmps69
    go_wp2_with fail
    go_ret
    exact ⟨rfl, rfl⟩
  · rw [cmpI_eq]
    go_enter Tryz.func69, Tryz.ntmps69
    go_wp2_with fail
    go_ret
    exact ⟨rfl, rfl⟩
  · rw [cmpI_gt h]
    have h' : decide (x < y) = false := by simp; omega
    go_enter Tryz.func69, Tryz.ntmps69
    go_wp2_with fail
    go_ret
    exact ⟨rfl, rfl⟩
/-- The byte at a place of a text. -/
def byteAt (T : ByteArray) (n : Nat) : UInt8 := T.data.getD n 0
theorem byteAt_eq {T : ByteArray} {n : Nat} (h : n < T.size) : T[n] = byteAt T n := by
  have h' : n < T.data.size := h
  unfold byteAt
  rw [Array.getD_eq_getD_getElem?, Array.getElem?_eq_getElem h']
  rfl
theorem byteAt_list {T : ByteArray} {n : Nat} (h : n < T.size) : T.data.toList[n]? = some (byteAt T n) := by
  have h' : n < T.data.size := h
  unfold byteAt
  rw [Array.getD_eq_getD_getElem?, Array.getElem?_eq_getElem h', Array.getElem?_toList, Array.getElem?_eq_getElem h']
  rfl
theorem cb_step {a b : List UInt8} {q : Nat} {x y : UInt8} (h : a[q]? = some x) (h' : b[q]? = some y) : Lib.compareBytes (a.drop q) (b.drop q) = if x < y then -1 else if y < x then 1 else Lib.compareBytes (a.drop (q + 1)) (b.drop (q + 1)) := by
  have d : ∀ {l : List UInt8} {x : UInt8}, l[q]? = some x → l.drop q = x :: l.drop (q + 1) := fun {l x} h => by
    obtain ⟨hq, hx⟩ := List.getElem?_eq_some_iff.1 h
    rw [← hx]
    exact List.drop_eq_getElem_cons hq
  rw [d h, d h', Lib.compareBytes]
theorem cb_end {a b : List UInt8} {q : Nat} (hq : q ≤ a.length) (hq' : q ≤ b.length) (h : q = a.length ∨ q = b.length) : Lib.compareBytes (a.drop q) (b.drop q) = cmpI a.length b.length := by
  rcases h with rfl | rfl
  · rw [List.drop_length]
    cases hb : b.drop a.length with
    | nil => rw [Lib.compareBytes]; have := congrArg List.length hb; simp at this; rw [show (b.length : Int) = a.length by omega, cmpI]; simp
    | cons x r => rw [Lib.compareBytes]; have := congrArg List.length hb; simp at this; unfold cmpI; rw [if_pos (by omega)]
  · rw [List.drop_length]
    cases hb : a.drop b.length with
    | nil => rw [Lib.compareBytes]; have := congrArg List.length hb; simp at this; rw [show (a.length : Int) = b.length by omega, cmpI]; simp
    | cons x r => rw [Lib.compareBytes]; have := congrArg List.length hb; simp at this; unfold cmpI; rw [if_neg (by omega), if_pos (by omega)]
set_option maxHeartbeats 4000000 in
set_option maxRecDepth 100000 in
theorem texts_cmp (a b : ByteArray) (ha : a.size ≤ 9223372036854775806) (w : World) : Calls Tryz.prog 71 #[.string a, .string b] w fun e w' => e = .returned (.int .i64 (cmpS a b)) ∧ ∃ m, w' = w.drewN m := by
  have la : Hid (a.data.toList.length = a.size) := hid_e (by rw [Array.length_toList]; rfl)
  have lb : Hid (b.data.toList.length = b.size) := hid_e (by rw [Array.length_toList]; rfl)
  go_enter Tryz.func71, Tryz.ntmps71
  go_wp2_with fail
  go_loopw [5] (fun i wr => ∃ q m : Nat, q ≤ a.size ∧ q ≤ b.size ∧ i = .int .i64 q ∧ wr = w.drewN m ∧ Hid (cmpS a b = Lib.compareBytes (a.data.toList.drop q) (b.data.toList.drop q))) (fun i _ => a.size - (intOf i).toNat)
  case atStart => exact ⟨0, 0, Nat.zero_le _, Nat.zero_le _, rfl, rfl, rfl⟩
  case round =>
    obtain ⟨q, m, hq, hq', rfl, rfl, hG⟩ := hrel
    by_cases h1 : q < a.size
    · have hd1 : decide ((q : Int) < (a.size : Int)) = true := by simp; omega
      by_cases h2 : q < b.size
      · have hd2 : decide ((q : Int) < (b.size : Int)) = true := by simp; omega
        have e1 := byteAt_eq h1
        have e2 := byteAt_eq h2
        have hst := hid_e (hG.out.trans (cb_step (byteAt_list h1) (byteAt_list h2)))
        have i0 : (0 : Int) ≤ (q : Int) := by omega
        have i1 : (q : Int) < (a.size : Int) := by omega
        have i2 : (q : Int) < (b.size : Int) := by omega
        obtain ⟨x, hx⟩ : ∃ x, byteAt a q = x := ⟨_, rfl⟩
        obtain ⟨y, hy⟩ : ∃ y, byteAt b q = y := ⟨_, rfl⟩
        rw [hx] at e1 hst
        rw [hy] at e2 hst
        clear hx hy hG
        by_cases c1 : x < y
        · have hc1 : decide ((x.toNat : Int) < (y.toNat : Int)) = true := by simpa [UInt8.lt_iff_toNat_lt] using c1
          replace hst := hid_e (hst.out.trans (if_pos c1))
          go_wp2_with fail
          go_region
          go_wp2_with fail
          go_ret
          exact ⟨ret_int hst.out.symm, m + 1, rfl⟩
        · have hc1 : decide ((x.toNat : Int) < (y.toNat : Int)) = false := by simp; rw [UInt8.lt_iff_toNat_lt] at c1; omega
          replace hst := hid_e (hst.out.trans (if_neg c1))
          by_cases c2 : y < x
          · have hc2 : decide ((y.toNat : Int) < (x.toNat : Int)) = true := by simpa [UInt8.lt_iff_toNat_lt] using c2
            replace hst := hid_e (hst.out.trans (if_pos c2))
            go_wp2_with fail
            go_region
            go_wp2_with fail
            go_region
            go_wp2_with fail
            go_ret
            exact ⟨ret_int hst.out.symm, m + 2, rfl⟩
          · have hc2 : decide ((y.toNat : Int) < (x.toNat : Int)) = false := by simp; rw [UInt8.lt_iff_toNat_lt] at c2; omega
            replace hst := hid_e (hst.out.trans (if_neg c2))
            go_wp2_with fail
            go_region
            go_wp2_with fail
            go_region
            go_wp2_with fail
            go_roundw
            case rel => exact ⟨q + 1, m + 2, by omega, by omega, by simp, rfl, hst⟩
            case measure => simp [intOf]; omega
      · have hd2 : decide ((q : Int) < (b.size : Int)) = false := by simp; omega
        have hst := hid_e (hG.out.trans (cb_end (by rw [la.out]; omega) (by rw [lb.out]; omega) (.inr (by rw [lb.out]; omega))))
        rw [la.out, lb.out] at hst
        clear hG
        go_wp2_with fail
        refine (ints_any _ _ _).mono ?_
        rintro e w' ⟨rfl, rfl⟩
        go_wp2_with fail
        go_ret
        exact ⟨ret_int hst.out.symm, m, rfl⟩
    · have hd1 : decide ((q : Int) < (a.size : Int)) = false := by simp; omega
      have hst := hid_e (hG.out.trans (cb_end (by rw [la.out]; omega) (by rw [lb.out]; omega) (.inl (by rw [la.out]; omega))))
      rw [la.out, lb.out] at hst
      clear hG
      go_wp2_with fail
      refine (ints_any _ _ _).mono ?_
      rintro e w' ⟨rfl, rfl⟩
      go_wp2_with fail
      go_ret
      exact ⟨ret_int hst.out.symm, m, rfl⟩
/-- How many members an object has, how many items a list. -/
def mem6 (k : Int) (ln li : Nat) : Nat := if k = 6 then min ln li else li
set_option maxHeartbeats 1000000 in
set_option maxRecDepth 100000 in
theorem rmembers_any (k x : Int) (s : ByteArray) (an : Option Addr) (ln cn : Nat) (ai : Option Addr) (li ci : Nat) (w : World) : Calls Tryz.prog 106 #[.agg #[.int .i64 k, .int .i64 x, .string s, .slice an ln cn, .slice ai li ci]] w fun e w' => e = .returned (.int .i64 (mem6 k ln li)) ∧ Below w.heap.size w w' := by
  by_cases h6 : k = 6
  · subst h6
    by_cases h : ln < li
    · have hd : decide ((ln : Int) < (li : Int)) = true := by simp; omega
      rw [show mem6 6 ln li = ln by simp [mem6]; omega]
      go_enter Tryz.func106, Tryz.ntmps106
      go_wp2_with fail
      go_ret
      exact ⟨rfl, (Below.refl _ w).alloc (Nat.le_refl _) _⟩
    · have hd : decide ((ln : Int) < (li : Int)) = false := by simp; omega
      rw [show mem6 6 ln li = li by simp [mem6]; omega]
      go_enter Tryz.func106, Tryz.ntmps106
      go_wp2_with fail
      go_ret
      exact ⟨rfl, (Below.refl _ w).alloc (Nat.le_refl _) _⟩
  · have e6 : (k == 6) = false := by simpa using h6
    rw [show mem6 k ln li = li by simp [mem6, h6]]
    go_enter Tryz.func106, Tryz.ntmps106
    go_wp2_with fail
    go_ret
    exact ⟨rfl, (Below.refl _ w).alloc (Nat.le_refl _) _⟩
/-- What is compared at one place is compared rightly. -/
def RCmpOk (its its' : List Tr) : Prop := ∀ (i : Nat) (u v : Tr), its[i]? = some u → its'[i]? = some v → ∀ cs cs' w', VRep w' u cs → VRep w' v cs' → Calls Tryz.prog 45 #[.agg cs.toArray, .agg cs'.toArray] w' fun e w'' => e = .returned (.int .i64 (cmpT u v)) ∧ Below w'.heap.size w' w''
theorem cmpL_fin {al bl : List Tr} {q : Nat} (hq : q ≤ al.length) (hq' : q ≤ bl.length) (h : q = al.length ∨ q = bl.length) : cmpL (al.drop q) (bl.drop q) = cmpI al.length bl.length := by
  by_cases h1 : q < al.length
  · rw [cmpL_more h1 (by omega)]; unfold cmpI; rw [if_neg (by omega), if_pos (by omega)]
  · by_cases h2 : q < bl.length
    · rw [cmpL_less (by omega) h2]; unfold cmpI; rw [if_pos (by omega)]
    · rw [cmpL_end (by omega) (by omega)]; unfold cmpI; rw [if_neg (by omega), if_neg (by omega)]
set_option maxHeartbeats 8000000 in
set_option maxRecDepth 100000 in
theorem lists6 (x : Int) (s : ByteArray) (an : Option Addr) (cn : Nat) (ns : List ByteArray) (a : Option Addr) (c : Nat) (its : List Tr) (x' : Int) (s' : ByteArray) (an' : Option Addr) (cn' : Nat) (ns' : List ByteArray) (a' : Option Addr) (c' : Nat) (its' : List Tr) (w : World)
    (hM : its.length ≤ 9223372036854775806) (hM' : its'.length ≤ 9223372036854775806) (hN : Hid (Reads w (.slice an ns.length cn) ns)) (hN' : Hid (Reads w (.slice an' ns'.length cn') ns')) (hz : Hid (∀ n ∈ ns, n.size ≤ 9223372036854775806)) (hL : Hid (ItemsAt w a its)) (hL' : Hid (ItemsAt w a' its')) (hI : Hid (RCmpOk its its')) :
    Calls Tryz.prog 72 #[.agg #[.int .i64 6, .int .i64 x, .string s, .slice an ns.length cn, .slice a its.length c], .agg #[.int .i64 6, .int .i64 x', .string s', .slice an' ns'.length cn', .slice a' its'.length c']] w fun e w' => e = .returned (.int .i64 (cmpM ns its ns' its')) ∧ Below w.heap.size w w' := by
  obtain ⟨m1, hm1⟩ : ∃ m, Hid (min ns.length its.length = m) := ⟨_, rfl⟩
  obtain ⟨m2, hm2⟩ : ∃ m, Hid (min ns'.length its'.length = m) := ⟨_, rfl⟩
  have hr1 : ∀ W, Hid _ := fun W => hid_e (rmembers_any 6 x s an ns.length cn a its.length c W)
  have hr2 : ∀ W, Hid _ := fun W => hid_e (rmembers_any 6 x' s' an' ns'.length cn' a' its'.length c' W)
  rw [show mem6 6 ns.length its.length = m1 by rw [← hm1.out]; rfl] at hr1
  rw [show mem6 6 ns'.length its'.length = m2 by rw [← hm2.out]; rfl] at hr2
  have hb1 : m1 ≤ 9223372036854775806 := by have := hm1.out; omega
  have hb2 : m2 ≤ 9223372036854775806 := by have := hm2.out; omega
  go_enter Tryz.func72, Tryz.ntmps72
  go_wp2_with fail
  have HB : Below w.heap.size w ((w.alloc (.cells #[.int .i64 6, .int .i64 x, .string s, .slice an ns.length cn, .slice a its.length c] 25)).alloc (.cells #[.int .i64 6, .int .i64 x', .string s', .slice an' ns'.length cn', .slice a' its'.length c'] 25)) := ((Below.refl _ w).alloc (Nat.le_refl _) _).alloc (by simp) _
  have h0 := new1 w (.cells #[.int .i64 6, .int .i64 x, .string s, .slice an ns.length cn, .slice a its.length c] 25) (.cells #[.int .i64 6, .int .i64 x', .string s', .slice an' ns'.length cn', .slice a' its'.length c'] 25)
  have h1 := new2 w (.cells #[.int .i64 6, .int .i64 x, .string s, .slice an ns.length cn, .slice a its.length c] 25) (.cells #[.int .i64 6, .int .i64 x', .string s', .slice an' ns'.length cn', .slice a' its'.length c'] 25)
  generalize (w.alloc (.cells #[.int .i64 6, .int .i64 x, .string s, .slice an ns.length cn, .slice a its.length c] 25)).alloc (.cells #[.int .i64 6, .int .i64 x', .string s', .slice an' ns'.length cn', .slice a' its'.length c'] 25) = X at HB h0 h1
  go_fit (hr1 _).out
  rintro e X1 ⟨rfl, hX⟩
  replace HB := HB.trans (hX.mono HB.size)
  replace h0 := (hX.block _ (Array.getElem?_eq_some_iff.1 h0).1).trans h0
  replace h1 := (hX.block _ (Array.getElem?_eq_some_iff.1 h1).1).trans h1
  clear hX
  obtain ⟨z0, z1, z2, z3, z4, -⟩ := row_cells h1
  go_wp2_with fail
  clear z0 z1 z2 z3 z4
  go_fit (hr2 _).out
  rintro e X2 ⟨rfl, hX⟩
  replace HB := HB.trans (hX.mono HB.size)
  replace h0 := (hX.block _ (Array.getElem?_eq_some_iff.1 h0).1).trans h0
  replace h1 := (hX.block _ (Array.getElem?_eq_some_iff.1 h1).1).trans h1
  clear hX hr1 hr2
  go_wp2_with fail
  go_loopw [7] (fun i wr => ∃ q : Nat, q ≤ m1 ∧ q ≤ m2 ∧ i = .int .i64 q ∧ Below w.heap.size w wr ∧ wr.heap[w.heap.size]? = some (.cells #[.int .i64 6, .int .i64 x, .string s, .slice an ns.length cn, .slice a its.length c] 25 (0, 0)) ∧ wr.heap[w.heap.size + 1]? = some (.cells #[.int .i64 6, .int .i64 x', .string s', .slice an' ns'.length cn', .slice a' its'.length c'] 25 (0, 0)) ∧ Hid (cmpM ns its ns' its' = cmpM (ns.drop q) (its.drop q) (ns'.drop q) (its'.drop q))) (fun i _ => m1 - (intOf i).toNat)
  case atStart => exact ⟨0, Nat.zero_le _, Nat.zero_le _, rfl, HB, h0, h1, rfl⟩
  case round =>
    clear HB h0 h1
    obtain ⟨q, hq1, hq2, rfl, HB, h0, h1, hG⟩ := hrel
    obtain ⟨y0, -, -, y3, y4, -⟩ := row_cells h0
    obtain ⟨-, -, -, z3, z4, -⟩ := row_cells h1
    by_cases hlt : q < m1 ∧ q < m2
    · obtain ⟨ha, hb⟩ := hlt
      have hd1 : decide ((q : Int) < (m1 : Int)) = true := by simp; omega
      have hd2 : decide ((q : Int) < (m2 : Int)) = true := by simp; omega
      obtain ⟨l1, l2, l3, l4⟩ : q < ns.length ∧ q < its.length ∧ q < ns'.length ∧ q < its'.length := by have e1 := hm1.out; have e2 := hm2.out; omega
      obtain ⟨n, hn⟩ : ∃ n, Hid (ns[q]? = some n) := ⟨_, List.getElem?_eq_getElem l1⟩
      obtain ⟨n', hn'⟩ : ∃ n, Hid (ns'[q]? = some n) := ⟨_, List.getElem?_eq_getElem l3⟩
      obtain ⟨_, _, e, _, hR⟩ := hN.out
      cases e
      obtain ⟨gn, on, rfl, _, hR⟩ := hR.resolve_left (by intro e; subst e; simp at l1)
      have c1 := stay HB (hR q n hn.out)
      clear hR
      obtain ⟨_, _, e, _, hR⟩ := hN'.out
      cases e
      obtain ⟨gn', on', rfl, _, hR⟩ := hR.resolve_left (by intro e; subst e; simp at l3)
      have c2 := stay HB (hR q n' hn'.out)
      clear hR
      have htx := hid_e (fun W => texts_cmp n n' (hz.out n (List.mem_of_getElem? hn.out)) W)
      obtain ⟨u, hu⟩ : ∃ u, Hid (its[q]? = some u) := ⟨_, List.getElem?_eq_getElem l2⟩
      obtain ⟨v, hv⟩ : ∃ v, Hid (its'[q]? = some v) := ⟨_, List.getElem?_eq_getElem l4⟩
      obtain ⟨b, o, rfl, hb, hV⟩ := hL.out.resolve_left (by intro e; subst e; simp at l2)
      obtain ⟨cs, hC, hr⟩ := VRepL.at its o q u hV hu.out
      obtain ⟨k2, x2, s2, an2, ln2, cn2, ai2, li2, ci2, rfl⟩ := vrep_five hr
      obtain ⟨b', o', rfl, hb', hV'⟩ := hL'.out.resolve_left (by intro e; subst e; simp at l4)
      obtain ⟨cs', hC', hr'⟩ := VRepL.at its' o' q v hV' hv.out
      obtain ⟨k3, x3, s3, an3, ln3, cn3, ai3, li3, ci3, rfl⟩ := vrep_five hr'
      have p0 := stay HB (hC 0 _ rfl)
      have r0 := stay HB (hC' 0 _ rfl)
      have p1 := stay HB (hC 1 _ rfl)
      have r1 := stay HB (hC' 1 _ rfl)
      have p2 := stay HB (hC 2 _ rfl)
      have r2 := stay HB (hC' 2 _ rfl)
      have p3 := stay HB (hC 3 _ rfl)
      have r3 := stay HB (hC' 3 _ rfl)
      have p4 := stay HB (hC 4 _ rfl)
      have r4 := stay HB (hC' 4 _ rfl)
      simp only [Nat.add_zero] at p0 r0
      have hcall := hid_e (fun W (hW : Below w.heap.size w W) => hI.out q u v hu.out hv.out _ _ W (VRep.keep hW _ _ hr) (VRep.keep hW _ _ hr'))
      have hst := hid_e (hG.out.trans (cmpM_step hn.out hn'.out hu.out hv.out))
      clear hV hV' hC hC' hr hr' hG
      obtain ⟨z, hz9⟩ : ∃ z, Hid (cmpT u v = z) := ⟨_, rfl⟩
      obtain ⟨y, hy⟩ : ∃ y, Hid (cmpS n n' = y) := ⟨_, rfl⟩
      rw [hz9.out, hy.out] at hst
      have i1 : (q : Int) < (ns.length : Int) := by omega
      have i2 : (q : Int) < (ns'.length : Int) := by omega
      rw [hz9.out] at hcall
      have i3 : (q : Int) < (its.length : Int) := by omega
      have i4 : (q : Int) < (its'.length : Int) := by omega
      have i5 : (0 : Int) ≤ (q : Int) := by omega
      go_wp2_with fail
      clear y0
      refine wp_region_quiet (C := fun w' => Below wr.heap.size wr w') (by kernel_rfl) (by kernel_rfl) (below_drewN (Below.refl _ _) 1) ?_
      refine wpQuiet_step (fun K hK => ?_)
      go_simp
      refine ⟨_, fun _ _ => rfl, hK _ ?_⟩
      clear hK K
      refine wpQuiet_step (fun K hK => ?_)
      refine ⟨.slice (some ⟨gn, on, none⟩) ns.length cn, fun w' hw' => ?_, hK _ ?_⟩
      · have t0 := stay hw' y3
        go_simp
      clear hK K
      refine wpQuiet_step (fun K hK => ?_)
      go_simp
      refine ⟨_, fun _ _ => rfl, hK _ ?_⟩
      clear hK K
      refine wpQuiet_step (fun K hK => ?_)
      go_simp
      refine ⟨_, fun _ _ => rfl, hK _ ?_⟩
      clear hK K
      refine wpQuiet_step (fun K hK => ?_)
      refine ⟨.string n, fun w' hw' => ?_, hK _ ?_⟩
      · have t0 := stay hw' c1
        go_simp
      clear hK K
      refine wpQuiet_step (fun K hK => ?_)
      go_simp
      refine ⟨_, fun _ _ => rfl, hK _ ?_⟩
      clear hK K
      refine wpQuiet_step (fun K hK => ?_)
      refine ⟨.slice (some ⟨gn', on', none⟩) ns'.length cn', fun w' hw' => ?_, hK _ ?_⟩
      · have t0 := stay hw' z3
        go_simp
      clear hK K
      refine wpQuiet_step (fun K hK => ?_)
      go_simp
      refine ⟨_, fun _ _ => rfl, hK _ ?_⟩
      clear hK K
      refine wpQuiet_step (fun K hK => ?_)
      go_simp
      refine ⟨_, fun _ _ => rfl, hK _ ?_⟩
      clear hK K
      refine wpQuiet_step (fun K hK => ?_)
      refine ⟨.string n', fun w' hw' => ?_, hK _ ?_⟩
      · have t0 := stay hw' c2
        go_simp
      clear hK K
      refine wpQuiet_step (fun K hK => ?_)
      refine ⟨.int .i64 y, fun w' hw' => ?_, hK _ ?_⟩
      · go_simp
        refine (htx.out w').mono ?_
        rintro e w'' ⟨rfl, mm, rfl⟩
        exact ⟨by rw [hy.out], below_drewN hw' mm⟩
      clear hK K
      refine wpQuiet_step (fun K hK => ?_)
      go_simp
      refine ⟨_, fun _ _ => rfl, hK _ ?_⟩
      clear hK K
      refine wpQuiet_nil ?_
      intro Y1 hY1
      have HB1 : Below w.heap.size w Y1 := HB.trans (hY1.mono HB.size)
      have h01 := (hY1.block _ (Array.getElem?_eq_some_iff.1 h0).1).trans h0
      have h11 := (hY1.block _ (Array.getElem?_eq_some_iff.1 h1).1).trans h1
      replace p0 := stay hY1 p0
      replace p1 := stay hY1 p1
      replace p2 := stay hY1 p2
      replace p3 := stay hY1 p3
      replace p4 := stay hY1 p4
      replace r0 := stay hY1 r0
      replace r1 := stay hY1 r1
      replace r2 := stay hY1 r2
      replace r3 := stay hY1 r3
      replace r4 := stay hY1 r4
      replace y4 := stay hY1 y4
      replace z4 := stay hY1 z4
      clear hY1 HB h0 h1 y3 z3 c1 c2 htx
      by_cases hy0 : y = 0
      · subst hy0
        replace hst := hid_e (hst.out.trans (if_neg (fun e => e rfl)))
        go_wp2_with fail
        refine wp_region_quiet (C := fun w' => Below Y1.heap.size Y1 w') (by kernel_rfl) (by kernel_rfl) (below_drewN (Below.refl _ _) 1) ?_
        refine wpQuiet_step (fun K hK => ?_)
        go_simp
        refine ⟨_, fun _ _ => rfl, hK _ ?_⟩
        clear hK K
        refine wpQuiet_step (fun K hK => ?_)
        refine ⟨.slice (some ⟨b, o, none⟩) its.length c, fun w' hw' => ?_, hK _ ?_⟩
        · have t0 := stay hw' y4
          go_simp
        clear hK K
        refine wpQuiet_step (fun K hK => ?_)
        go_simp
        refine ⟨_, fun _ _ => rfl, hK _ ?_⟩
        clear hK K
        refine wpQuiet_step (fun K hK => ?_)
        go_simp
        refine ⟨_, fun _ _ => rfl, hK _ ?_⟩
        clear hK K
        refine wpQuiet_step (fun K hK => ?_)
        refine ⟨.agg #[.int .i64 k2, .int .i64 x2, .string s2, .slice an2 ln2 cn2, .slice ai2 li2 ci2], fun w' hw' => ?_, hK _ ?_⟩
        · have t0 := stay hw' p0
          have t1 := stay hw' p1
          have t2 := stay hw' p2
          have t3 := stay hw' p3
          have t4 := stay hw' p4
          go_simp
        clear hK K
        refine wpQuiet_step (fun K hK => ?_)
        go_simp
        refine ⟨_, fun _ _ => rfl, hK _ ?_⟩
        clear hK K
        refine wpQuiet_step (fun K hK => ?_)
        refine ⟨.slice (some ⟨b', o', none⟩) its'.length c', fun w' hw' => ?_, hK _ ?_⟩
        · have t0 := stay hw' z4
          go_simp
        clear hK K
        refine wpQuiet_step (fun K hK => ?_)
        go_simp
        refine ⟨_, fun _ _ => rfl, hK _ ?_⟩
        clear hK K
        refine wpQuiet_step (fun K hK => ?_)
        go_simp
        refine ⟨_, fun _ _ => rfl, hK _ ?_⟩
        clear hK K
        refine wpQuiet_step (fun K hK => ?_)
        refine ⟨.agg #[.int .i64 k3, .int .i64 x3, .string s3, .slice an3 ln3 cn3, .slice ai3 li3 ci3], fun w' hw' => ?_, hK _ ?_⟩
        · have t0 := stay hw' r0
          have t1 := stay hw' r1
          have t2 := stay hw' r2
          have t3 := stay hw' r3
          have t4 := stay hw' r4
          go_simp
        clear hK K
        refine wpQuiet_step (fun K hK => ?_)
        refine ⟨.int .i64 z, fun w' hw' => ?_, hK _ ?_⟩
        · go_simp
          refine (hcall.out w' (HB1.trans (hw'.mono HB1.size))).mono ?_
          rintro e w'' ⟨rfl, hb⟩
          exact ⟨rfl, hw'.trans (hb.mono hw'.size)⟩
        clear hK K
        refine wpQuiet_step (fun K hK => ?_)
        go_simp
        refine ⟨_, fun _ _ => rfl, hK _ ?_⟩
        clear hK K
        refine wpQuiet_nil ?_
        intro Y2 hY2
        have HB2 : Below w.heap.size w Y2 := HB1.trans (hY2.mono HB1.size)
        have h02 := (hY2.block _ (Array.getElem?_eq_some_iff.1 h01).1).trans h01
        have h12 := (hY2.block _ (Array.getElem?_eq_some_iff.1 h11).1).trans h11
        clear hY2 HB1 h01 h11 y4 z4 p0 p1 p2 p3 p4 r0 r1 r2 r3 r4 hcall
        by_cases hz0 : z = 0
        · subst hz0
          replace hst := hid_e (hst.out.trans (if_neg (fun e => e rfl)))
          go_wp2_with fail
          go_roundw
          case rel => exact ⟨q + 1, by omega, by omega, by simp, HB2, h02, h12, hst⟩
          case measure => simp [intOf]; omega
        · have hz1 : (z == 0) = false := by simpa using hz0
          replace hst := hid_e (hst.out.trans (if_pos hz0))
          go_wp2_with fail
          go_ret
          exact ⟨ret_int hst.out.symm, HB2⟩
      · have hy1 : (y == 0) = false := by simpa using hy0
        replace hst := hid_e (hst.out.trans (if_pos hy0))
        go_wp2_with fail
        go_ret
        exact ⟨ret_int hst.out.symm, HB1⟩
    · have hst := hid_e (hG.out.trans (cmpM_end (by have e1 := hm1.out; have e2 := hm2.out; omega)))
      rw [hm1.out, hm2.out] at hst
      clear hG y0 y3 y4 z3 z4
      by_cases ha : q < m1
      · have hd1 : decide ((q : Int) < (m1 : Int)) = true := by simp; omega
        have hd2 : decide ((q : Int) < (m2 : Int)) = false := by simp; omega
        go_wp2_with fail
        refine (ints_any _ _ _).mono ?_
        rintro e w' ⟨rfl, rfl⟩
        go_wp2_with fail
        go_ret
        exact ⟨ret_int hst.out.symm, HB⟩
      · have hd1 : decide ((q : Int) < (m1 : Int)) = false := by simp; omega
        go_wp2_with fail
        refine (ints_any _ _ _).mono ?_
        rintro e w' ⟨rfl, rfl⟩
        go_wp2_with fail
        go_ret
        exact ⟨ret_int hst.out.symm, HB⟩
set_option maxHeartbeats 8000000 in
set_option maxRecDepth 100000 in
theorem lists5 (x : Int) (s : ByteArray) (an : Option Addr) (cn : Nat) (ns : List ByteArray) (a : Option Addr) (c : Nat) (its : List Tr) (x' : Int) (s' : ByteArray) (an' : Option Addr) (cn' : Nat) (ns' : List ByteArray) (a' : Option Addr) (c' : Nat) (its' : List Tr) (w : World)
    (hM : its.length ≤ 9223372036854775806) (hM' : its'.length ≤ 9223372036854775806) (hL : Hid (ItemsAt w a its)) (hL' : Hid (ItemsAt w a' its')) (hI : Hid (RCmpOk its its')) :
    Calls Tryz.prog 72 #[.agg #[.int .i64 5, .int .i64 x, .string s, .slice an ns.length cn, .slice a its.length c], .agg #[.int .i64 5, .int .i64 x', .string s', .slice an' ns'.length cn', .slice a' its'.length c']] w fun e w' => e = .returned (.int .i64 (cmpL its its')) ∧ Below w.heap.size w w' := by
  obtain ⟨m1, hm1⟩ : ∃ m, Hid (its.length = m) := ⟨_, rfl⟩
  obtain ⟨m2, hm2⟩ : ∃ m, Hid (its'.length = m) := ⟨_, rfl⟩
  have hr1 : ∀ W, Hid _ := fun W => hid_e (rmembers_any 5 x s an ns.length cn a its.length c W)
  have hr2 : ∀ W, Hid _ := fun W => hid_e (rmembers_any 5 x' s' an' ns'.length cn' a' its'.length c' W)
  rw [show mem6 5 ns.length its.length = m1 by rw [← hm1.out]; rfl] at hr1
  rw [show mem6 5 ns'.length its'.length = m2 by rw [← hm2.out]; rfl] at hr2
  have hb1 : m1 ≤ 9223372036854775806 := by have := hm1.out; omega
  have hb2 : m2 ≤ 9223372036854775806 := by have := hm2.out; omega
  go_enter Tryz.func72, Tryz.ntmps72
  go_wp2_with fail
  have HB : Below w.heap.size w ((w.alloc (.cells #[.int .i64 5, .int .i64 x, .string s, .slice an ns.length cn, .slice a its.length c] 25)).alloc (.cells #[.int .i64 5, .int .i64 x', .string s', .slice an' ns'.length cn', .slice a' its'.length c'] 25)) := ((Below.refl _ w).alloc (Nat.le_refl _) _).alloc (by simp) _
  have h0 := new1 w (.cells #[.int .i64 5, .int .i64 x, .string s, .slice an ns.length cn, .slice a its.length c] 25) (.cells #[.int .i64 5, .int .i64 x', .string s', .slice an' ns'.length cn', .slice a' its'.length c'] 25)
  have h1 := new2 w (.cells #[.int .i64 5, .int .i64 x, .string s, .slice an ns.length cn, .slice a its.length c] 25) (.cells #[.int .i64 5, .int .i64 x', .string s', .slice an' ns'.length cn', .slice a' its'.length c'] 25)
  generalize (w.alloc (.cells #[.int .i64 5, .int .i64 x, .string s, .slice an ns.length cn, .slice a its.length c] 25)).alloc (.cells #[.int .i64 5, .int .i64 x', .string s', .slice an' ns'.length cn', .slice a' its'.length c'] 25) = X at HB h0 h1
  go_fit (hr1 _).out
  rintro e X1 ⟨rfl, hX⟩
  replace HB := HB.trans (hX.mono HB.size)
  replace h0 := (hX.block _ (Array.getElem?_eq_some_iff.1 h0).1).trans h0
  replace h1 := (hX.block _ (Array.getElem?_eq_some_iff.1 h1).1).trans h1
  clear hX
  obtain ⟨z0, z1, z2, z3, z4, -⟩ := row_cells h1
  go_wp2_with fail
  clear z0 z1 z2 z3 z4
  go_fit (hr2 _).out
  rintro e X2 ⟨rfl, hX⟩
  replace HB := HB.trans (hX.mono HB.size)
  replace h0 := (hX.block _ (Array.getElem?_eq_some_iff.1 h0).1).trans h0
  replace h1 := (hX.block _ (Array.getElem?_eq_some_iff.1 h1).1).trans h1
  clear hX hr1 hr2
  go_wp2_with fail
  go_loopw [7] (fun i wr => ∃ q : Nat, q ≤ m1 ∧ q ≤ m2 ∧ i = .int .i64 q ∧ Below w.heap.size w wr ∧ wr.heap[w.heap.size]? = some (.cells #[.int .i64 5, .int .i64 x, .string s, .slice an ns.length cn, .slice a its.length c] 25 (0, 0)) ∧ wr.heap[w.heap.size + 1]? = some (.cells #[.int .i64 5, .int .i64 x', .string s', .slice an' ns'.length cn', .slice a' its'.length c'] 25 (0, 0)) ∧ Hid (cmpL its its' = cmpL (its.drop q) (its'.drop q))) (fun i _ => m1 - (intOf i).toNat)
  case atStart => exact ⟨0, Nat.zero_le _, Nat.zero_le _, rfl, HB, h0, h1, rfl⟩
  case round =>
    clear HB h0 h1
    obtain ⟨q, hq1, hq2, rfl, HB, h0, h1, hG⟩ := hrel
    obtain ⟨y0, -, -, y3, y4, -⟩ := row_cells h0
    obtain ⟨-, -, -, z3, z4, -⟩ := row_cells h1
    by_cases hlt : q < m1 ∧ q < m2
    · obtain ⟨ha, hb⟩ := hlt
      have hd1 : decide ((q : Int) < (m1 : Int)) = true := by simp; omega
      have hd2 : decide ((q : Int) < (m2 : Int)) = true := by simp; omega
      obtain ⟨l2, l4⟩ : q < its.length ∧ q < its'.length := by have e1 := hm1.out; have e2 := hm2.out; omega
      obtain ⟨u, hu⟩ : ∃ u, Hid (its[q]? = some u) := ⟨_, List.getElem?_eq_getElem l2⟩
      obtain ⟨v, hv⟩ : ∃ v, Hid (its'[q]? = some v) := ⟨_, List.getElem?_eq_getElem l4⟩
      obtain ⟨b, o, rfl, hb, hV⟩ := hL.out.resolve_left (by intro e; subst e; simp at l2)
      obtain ⟨cs, hC, hr⟩ := VRepL.at its o q u hV hu.out
      obtain ⟨k2, x2, s2, an2, ln2, cn2, ai2, li2, ci2, rfl⟩ := vrep_five hr
      obtain ⟨b', o', rfl, hb', hV'⟩ := hL'.out.resolve_left (by intro e; subst e; simp at l4)
      obtain ⟨cs', hC', hr'⟩ := VRepL.at its' o' q v hV' hv.out
      obtain ⟨k3, x3, s3, an3, ln3, cn3, ai3, li3, ci3, rfl⟩ := vrep_five hr'
      have p0 := stay HB (hC 0 _ rfl)
      have r0 := stay HB (hC' 0 _ rfl)
      have p1 := stay HB (hC 1 _ rfl)
      have r1 := stay HB (hC' 1 _ rfl)
      have p2 := stay HB (hC 2 _ rfl)
      have r2 := stay HB (hC' 2 _ rfl)
      have p3 := stay HB (hC 3 _ rfl)
      have r3 := stay HB (hC' 3 _ rfl)
      have p4 := stay HB (hC 4 _ rfl)
      have r4 := stay HB (hC' 4 _ rfl)
      simp only [Nat.add_zero] at p0 r0
      have hcall := hid_e (fun W (hW : Below w.heap.size w W) => hI.out q u v hu.out hv.out _ _ W (VRep.keep hW _ _ hr) (VRep.keep hW _ _ hr'))
      have hst := hid_e (hG.out.trans (cmpL_step hu.out hv.out))
      clear hV hV' hC hC' hr hr' hG
      obtain ⟨z, hz9⟩ : ∃ z, Hid (cmpT u v = z) := ⟨_, rfl⟩
      rw [hz9.out] at hst
      rw [hz9.out] at hcall
      have i3 : (q : Int) < (its.length : Int) := by omega
      have i4 : (q : Int) < (its'.length : Int) := by omega
      have i5 : (0 : Int) ≤ (q : Int) := by omega
      go_wp2_with fail
      clear y0
      clear y3 z3
      refine wp_region_quiet (C := fun w' => Below wr.heap.size wr w') (by kernel_rfl) (by kernel_rfl) (below_drewN (Below.refl _ _) 1) ?_
      refine wpQuiet_step (fun K hK => ?_)
      go_simp
      refine ⟨_, fun _ _ => rfl, hK _ ?_⟩
      clear hK K
      refine wpQuiet_step (fun K hK => ?_)
      refine ⟨.slice (some ⟨b, o, none⟩) its.length c, fun w' hw' => ?_, hK _ ?_⟩
      · have t0 := stay hw' y4
        go_simp
      clear hK K
      refine wpQuiet_step (fun K hK => ?_)
      go_simp
      refine ⟨_, fun _ _ => rfl, hK _ ?_⟩
      clear hK K
      refine wpQuiet_step (fun K hK => ?_)
      go_simp
      refine ⟨_, fun _ _ => rfl, hK _ ?_⟩
      clear hK K
      refine wpQuiet_step (fun K hK => ?_)
      refine ⟨.agg #[.int .i64 k2, .int .i64 x2, .string s2, .slice an2 ln2 cn2, .slice ai2 li2 ci2], fun w' hw' => ?_, hK _ ?_⟩
      · have t0 := stay hw' p0
        have t1 := stay hw' p1
        have t2 := stay hw' p2
        have t3 := stay hw' p3
        have t4 := stay hw' p4
        go_simp
      clear hK K
      refine wpQuiet_step (fun K hK => ?_)
      go_simp
      refine ⟨_, fun _ _ => rfl, hK _ ?_⟩
      clear hK K
      refine wpQuiet_step (fun K hK => ?_)
      refine ⟨.slice (some ⟨b', o', none⟩) its'.length c', fun w' hw' => ?_, hK _ ?_⟩
      · have t0 := stay hw' z4
        go_simp
      clear hK K
      refine wpQuiet_step (fun K hK => ?_)
      go_simp
      refine ⟨_, fun _ _ => rfl, hK _ ?_⟩
      clear hK K
      refine wpQuiet_step (fun K hK => ?_)
      go_simp
      refine ⟨_, fun _ _ => rfl, hK _ ?_⟩
      clear hK K
      refine wpQuiet_step (fun K hK => ?_)
      refine ⟨.agg #[.int .i64 k3, .int .i64 x3, .string s3, .slice an3 ln3 cn3, .slice ai3 li3 ci3], fun w' hw' => ?_, hK _ ?_⟩
      · have t0 := stay hw' r0
        have t1 := stay hw' r1
        have t2 := stay hw' r2
        have t3 := stay hw' r3
        have t4 := stay hw' r4
        go_simp
      clear hK K
      refine wpQuiet_step (fun K hK => ?_)
      refine ⟨.int .i64 z, fun w' hw' => ?_, hK _ ?_⟩
      · go_simp
        refine (hcall.out w' (HB.trans (hw'.mono HB.size))).mono ?_
        rintro e w'' ⟨rfl, hb⟩
        exact ⟨rfl, hw'.trans (hb.mono hw'.size)⟩
      clear hK K
      refine wpQuiet_step (fun K hK => ?_)
      go_simp
      refine ⟨_, fun _ _ => rfl, hK _ ?_⟩
      clear hK K
      refine wpQuiet_nil ?_
      intro Y2 hY2
      have HB2 : Below w.heap.size w Y2 := HB.trans (hY2.mono HB.size)
      have h02 := (hY2.block _ (Array.getElem?_eq_some_iff.1 h0).1).trans h0
      have h12 := (hY2.block _ (Array.getElem?_eq_some_iff.1 h1).1).trans h1
      clear hY2 HB h0 h1 y4 z4 p0 p1 p2 p3 p4 r0 r1 r2 r3 r4 hcall
      by_cases hz0 : z = 0
      · subst hz0
        replace hst := hid_e (hst.out.trans (if_neg (fun e => e rfl)))
        go_wp2_with fail
        go_roundw
        case rel => exact ⟨q + 1, by omega, by omega, by simp, HB2, h02, h12, hst⟩
        case measure => simp [intOf]; omega
      · have hz1 : (z == 0) = false := by simpa using hz0
        replace hst := hid_e (hst.out.trans (if_pos hz0))
        go_wp2_with fail
        go_ret
        exact ⟨ret_int hst.out.symm, HB2⟩
    · have hst := hid_e (hG.out.trans (cmpL_fin (by have e1 := hm1.out; omega) (by have e2 := hm2.out; omega) (by have e1 := hm1.out; have e2 := hm2.out; omega)))
      rw [hm1.out, hm2.out] at hst
      clear hG y0 y3 y4 z3 z4
      by_cases ha : q < m1
      · have hd1 : decide ((q : Int) < (m1 : Int)) = true := by simp; omega
        have hd2 : decide ((q : Int) < (m2 : Int)) = false := by simp; omega
        go_wp2_with fail
        refine (ints_any _ _ _).mono ?_
        rintro e w' ⟨rfl, rfl⟩
        go_wp2_with fail
        go_ret
        exact ⟨ret_int hst.out.symm, HB⟩
      · have hd1 : decide ((q : Int) < (m1 : Int)) = false := by simp; omega
        go_wp2_with fail
        refine (ints_any _ _ _).mono ?_
        rintro e w' ⟨rfl, rfl⟩
        go_wp2_with fail
        go_ret
        exact ⟨ret_int hst.out.symm, HB⟩
set_option maxHeartbeats 8000000 in
set_option maxRecDepth 100000 in
theorem rcompare_one (k x : Int) (s : ByteArray) (an : Option Addr) (cn : Nat) (ns : List ByteArray) (a : Option Addr) (c : Nat) (its : List Tr) (k' x' : Int) (s' : ByteArray) (an' : Option Addr) (cn' : Nat) (ns' : List ByteArray) (a' : Option Addr) (c' : Nat) (its' : List Tr) (w : World)
    (hM : its.length ≤ 9223372036854775806) (hM' : its'.length ≤ 9223372036854775806) (hsz : s.size ≤ 9223372036854775806) (hz : Hid (∀ n ∈ ns, n.size ≤ 9223372036854775806)) (hN : Hid (Reads w (.slice an ns.length cn) ns)) (hN' : Hid (Reads w (.slice an' ns'.length cn') ns')) (hL : Hid (ItemsAt w a its)) (hL' : Hid (ItemsAt w a' its')) (hI : Hid (RCmpOk its its')) :
    Calls Tryz.prog 45 #[.agg #[.int .i64 k, .int .i64 x, .string s, .slice an ns.length cn, .slice a its.length c], .agg #[.int .i64 k', .int .i64 x', .string s', .slice an' ns'.length cn', .slice a' its'.length c']] w fun e w' => e = .returned (.int .i64 (cmpT (.node k x s ns its) (.node k' x' s' ns' its'))) ∧ Below w.heap.size w w' := by
  obtain ⟨R, hR⟩ : ∃ R, Hid (cmpT (.node k x s ns its) (.node k' x' s' ns' its') = R) := ⟨_, rfl⟩
  rw [hR.out]
  replace hR := hid_e (hR.out.symm.trans (by unfold cmpT; rfl))
  go_enter Tryz.func45, Tryz.ntmps45
  go_wp2_with fail
  have HB : Below w.heap.size w ((w.alloc (.cells #[.int .i64 k, .int .i64 x, .string s, .slice an ns.length cn, .slice a its.length c] 25)).alloc (.cells #[.int .i64 k', .int .i64 x', .string s', .slice an' ns'.length cn', .slice a' its'.length c'] 25)) := ((Below.refl _ w).alloc (Nat.le_refl _) _).alloc (by simp) _
  have h0 := new1 w (.cells #[.int .i64 k, .int .i64 x, .string s, .slice an ns.length cn, .slice a its.length c] 25) (.cells #[.int .i64 k', .int .i64 x', .string s', .slice an' ns'.length cn', .slice a' its'.length c'] 25)
  have h1 := new2 w (.cells #[.int .i64 k, .int .i64 x, .string s, .slice an ns.length cn, .slice a its.length c] 25) (.cells #[.int .i64 k', .int .i64 x', .string s', .slice an' ns'.length cn', .slice a' its'.length c'] 25)
  generalize (w.alloc (.cells #[.int .i64 k, .int .i64 x, .string s, .slice an ns.length cn, .slice a its.length c] 25)).alloc (.cells #[.int .i64 k', .int .i64 x', .string s', .slice an' ns'.length cn', .slice a' its'.length c'] 25) = X at HB h0 h1
  obtain ⟨y0, y1, y2, y3, y4, -⟩ := row_cells h0
  obtain ⟨z0, z1, z2, z3, z4, -⟩ := row_cells h1
  obtain ⟨d, hd⟩ : ∃ d, Hid (cmpI (rankZ k) (rankZ k') = d) := ⟨_, rfl⟩
  rw [hd.out] at hR
  refine wp_region_quiet (C := fun w' => Below X.heap.size X w') (by kernel_rfl) (by kernel_rfl) (below_drewN (Below.refl _ _) 1) ?_
  refine wpQuiet_step (fun K hK => ?_)
  refine ⟨.agg #[.int .i64 k, .int .i64 x, .string s, .slice an ns.length cn, .slice a its.length c], fun w' hw' => ?_, hK _ ?_⟩
  · have t0 := stay hw' y0
    have t1 := stay hw' y1
    have t2 := stay hw' y2
    have t3 := stay hw' y3
    have t4 := stay hw' y4
    go_simp
  clear hK K
  refine wpQuiet_step (fun K hK => ?_)
  refine ⟨.int .i64 (rankZ k), fun w' hw' => ?_, hK _ ?_⟩
  · go_simp
    refine (rrank_any _ _ _ _ _ _ _ _ _ w').mono ?_
    rintro e w'' ⟨rfl, hb⟩
    exact ⟨rfl, hw'.trans (hb.mono hw'.size)⟩
  clear hK K
  refine wpQuiet_step (fun K hK => ?_)
  refine ⟨.agg #[.int .i64 k', .int .i64 x', .string s', .slice an' ns'.length cn', .slice a' its'.length c'], fun w' hw' => ?_, hK _ ?_⟩
  · have t0 := stay hw' z0
    have t1 := stay hw' z1
    have t2 := stay hw' z2
    have t3 := stay hw' z3
    have t4 := stay hw' z4
    go_simp
  clear hK K
  refine wpQuiet_step (fun K hK => ?_)
  refine ⟨.int .i64 (rankZ k'), fun w' hw' => ?_, hK _ ?_⟩
  · go_simp
    refine (rrank_any _ _ _ _ _ _ _ _ _ w').mono ?_
    rintro e w'' ⟨rfl, hb⟩
    exact ⟨rfl, hw'.trans (hb.mono hw'.size)⟩
  clear hK K
  refine wpQuiet_step (fun K hK => ?_)
  refine ⟨.int .i64 d, fun w' hw' => ?_, hK _ ?_⟩
  · go_simp
    refine (ints_any _ _ w').mono ?_
    rintro e w'' ⟨rfl, rfl⟩
    exact ⟨by rw [hd.out], hw'⟩
  clear hK K
  refine wpQuiet_step (fun K hK => ?_)
  go_simp
  refine ⟨_, fun _ _ => rfl, hK _ ?_⟩
  clear hK K
  refine wpQuiet_nil ?_
  intro Y hY
  have HB' : Below w.heap.size w Y := HB.trans (hY.mono HB.size)
  have h0' := (hY.block _ (Array.getElem?_eq_some_iff.1 h0).1).trans h0
  have h1' := (hY.block _ (Array.getElem?_eq_some_iff.1 h1).1).trans h1
  clear hY HB h0 h1 y0 y1 y2 y3 y4 z0 z1 z2 z3 z4
  obtain ⟨y0, y1, y2, y3, y4, -⟩ := row_cells h0'
  obtain ⟨z0, z1, z2, z3, z4, -⟩ := row_cells h1'
  clear h0' h1'
  by_cases hd0 : d = 0
  · subst hd0
    replace hR := hid_e (hR.out.trans (if_neg (fun e => e rfl)))
    replace hd := hid_e (cmpI_zero hd.out)
    by_cases k3 : k = 3
    · subst k3
      replace hR := hid_e (hR.out.trans (if_pos rfl))
      go_wp2_with fail
      refine (ints_any _ _ _).mono ?_
      rintro e w' ⟨rfl, rfl⟩
      go_wp2_with fail
      go_ret
      exact ⟨ret_int hR.out.symm, HB'⟩
    have e3 : (k == 3) = false := by simpa using k3
    replace hR := hid_e (hR.out.trans (if_neg k3))
    by_cases k4 : k = 4
    · subst k4
      replace hR := hid_e (hR.out.trans (if_pos rfl))
      go_wp2_with fail
      refine (texts_cmp _ _ hsz _).mono ?_
      rintro e w' ⟨rfl, mm, rfl⟩
      go_wp2_with fail
      go_ret
      exact ⟨ret_int hR.out.symm, below_drewN HB' mm⟩
    have e4 : (k == 4) = false := by simpa using k4
    replace hR := hid_e (hR.out.trans (if_neg k4))
    by_cases k6 : k = 6
    · subst k6
      replace hR := hid_e (hR.out.trans (if_pos rfl))
      obtain rfl : k' = 6 := rank_inj hd.out (by decide)
      go_wp2_with fail
      go_fit (lists6 x s an cn ns a c its x' s' an' cn' ns' a' c' its' Y hM hM' (hid_e (hN.out.keep HB')) (hid_e (hN'.out.keep HB')) hz (hid_e (hL.out.keep HB')) (hid_e (hL'.out.keep HB')) hI)
      rintro e w' ⟨rfl, hb⟩
      go_wp2_with fail
      go_ret
      exact ⟨ret_int hR.out.symm, HB'.trans (hb.mono HB'.size)⟩
    have e6 : (k == 6) = false := by simpa using k6
    replace hR := hid_e (hR.out.trans (if_neg k6))
    by_cases k5 : k = 5
    · subst k5
      replace hR := hid_e (hR.out.trans (if_pos rfl))
      obtain rfl : k' = 5 := rank_inj hd.out (by decide)
      go_wp2_with fail
      go_fit (lists5 x s an cn ns a c its x' s' an' cn' ns' a' c' its' Y hM hM' (hid_e (hL.out.keep HB')) (hid_e (hL'.out.keep HB')) hI)
      rintro e w' ⟨rfl, hb⟩
      go_wp2_with fail
      go_ret
      exact ⟨ret_int hR.out.symm, HB'.trans (hb.mono HB'.size)⟩
    have e5 : (k == 5) = false := by simpa using k5
    replace hR := hid_e (hR.out.trans (if_neg k5))
    go_wp2_with fail
    go_ret
    exact ⟨ret_int hR.out.symm, HB'⟩
  · have hd1 : (d == 0) = false := by simpa using hd0
    replace hR := hid_e (hR.out.trans (if_pos hd0))
    go_wp2_with fail
    go_ret
    exact ⟨ret_int hR.out.symm, HB'⟩
theorem rcompare_any (t u : Tr) (cs cs' : List Value) (w : World) (hV : VRep w t cs) (hV' : VRep w u cs') (hS : SmallT t) (hS' : SmallT u) :
    Calls Tryz.prog 45 #[.agg cs.toArray, .agg cs'.toArray] w fun e w' => e = .returned (.int .i64 (cmpT t u)) ∧ Below w.heap.size w w' := by
  match t, u, hV, hV', hS, hS' with
  | .node k x s ns its, .node k' x' s' ns' its', hV, hV', hS, hS' =>
    unfold VRep at hV hV'
    unfold SmallT at hS hS'
    obtain ⟨nm, a, c, rfl, hn, hc, hI⟩ := hV
    obtain ⟨nm', a', c', rfl, hn', hc', hI'⟩ := hV'
    obtain ⟨an, cn, rfl, -, -⟩ := id hn
    obtain ⟨an', cn', rfl, -, -⟩ := id hn'
    refine rcompare_one k x s an cn ns a c its k' x' s' an' cn' ns' a' c' its' w (by omega) (by omega) (by omega) (hid_e (fun n h => by have := hS.2.2.1 n h; omega)) (hid_e hn) (hid_e hn') (hid_e hI) (hid_e hI') (hid_e (fun i u v hu hv ds ds' w' h1 h2 => ?_))
    have hlt : SizeOf.sizeOf u < SizeOf.sizeOf its := tr_lt hu
    exact rcompare_any u v ds ds' w' h1 h2 (SmallL.at hS.2.2.2.2 hu) (SmallL.at hS'.2.2.2.2 hv)
termination_by SizeOf.sizeOf t
decreasing_by simp only [Tr.node.sizeOf_spec]; omega
end Go.Proofs.YtgigikcopedoeaaGreat.Tree
