import Derived.Test.YthijpmomcompaaaDoorK1
/-! members. -/
namespace Go.Proofs.YthijpmomcompaaaDoor
open Go Go.RowKit

set_option maxHeartbeats 1000000 in
set_option maxRecDepth 100000 in
theorem members_any (k x : Int) (s : ByteArray) (an : Option Addr) (ln cn : Nat) (ai : Option Addr) (li ci : Nat) (w : World) : Calls Tryd.prog 45 #[.agg #[.int .i64 k, .int .i64 x, .string s, .slice an ln cn, .slice ai li ci]] w fun e w' => e = .returned (.int .i64 (min ln li : Nat)) ∧ Below w.heap.size w w' := by
  by_cases h : ln ≤ li
  · rw [Nat.min_eq_left h]
    go_enter Tryd.func45, Tryd.ntmps45
    go_wp2_with fail
    go_ret
    exact ⟨rfl, (Below.refl _ w).alloc (Nat.le_refl _) _⟩
  · rw [Nat.min_eq_right (by omega)]
    go_enter Tryd.func45, Tryd.ntmps45
    go_wp2_with fail
    go_ret
    exact ⟨rfl, (Below.refl _ w).alloc (Nat.le_refl _) _⟩

theorem cmpL_step {al bl : List Tr} {q : Nat} {u v : Tr} (h : al[q]? = some u) (h' : bl[q]? = some v) : cmpL (al.drop q) (bl.drop q) = if cmpT u v ≠ 0 then cmpT u v else cmpL (al.drop (q + 1)) (bl.drop (q + 1)) := by
  have d : ∀ {l : List Tr} {x : Tr}, l[q]? = some x → l.drop q = x :: l.drop (q + 1) := fun {l x} h => by
    obtain ⟨hq, hx⟩ := List.getElem?_eq_some_iff.1 h
    rw [← hx]
    exact List.drop_eq_getElem_cons hq
  rw [d h, d h', cmpL]
theorem cmpL_more {al bl : List Tr} {q : Nat} (h : q < al.length) (h' : bl.length ≤ q) : cmpL (al.drop q) (bl.drop q) = 1 := by
  rw [List.drop_of_length_le h', List.drop_eq_getElem_cons h, cmpL]
theorem cmpL_less {al bl : List Tr} {q : Nat} (h : al.length ≤ q) (h' : q < bl.length) : cmpL (al.drop q) (bl.drop q) = -1 := by
  rw [List.drop_of_length_le h, List.drop_eq_getElem_cons h', cmpL]
theorem cmpL_end {al bl : List Tr} {q : Nat} (h : al.length ≤ q) (h' : bl.length ≤ q) : cmpL (al.drop q) (bl.drop q) = 0 := by
  rw [List.drop_of_length_le h, List.drop_of_length_le h', cmpL]
/-- Items, in memory. -/
def ItemsAt (w : World) (a : Option Addr) (its : List Tr) : Prop := its = [] ∨ ∃ b o, a = some ⟨b, o, none⟩ ∧ b < w.heap.size ∧ VRepL w b o its
/-- What is compared at one place is compared rightly. -/
def CmpOk (its its' : List Tr) : Prop := ∀ (i : Nat) (u v : Tr), its[i]? = some u → its'[i]? = some v → ∀ cs cs' w', VRep w' u cs → VRep w' v cs' → Calls Tryd.prog 19 #[.agg cs.toArray, .agg cs'.toArray] w' fun e w'' => e = .returned (.int .i64 (cmpT u v)) ∧ Below w'.heap.size w' w''
set_option maxHeartbeats 4000000 in
set_option maxRecDepth 100000 in
theorem cfunc_any (its its' : List Tr) (a a' : Option Addr) (c c' : Nat) (w : World) (hM : its.length ≤ 9223372036854775806) (hM' : its'.length ≤ 9223372036854775806) (hL : Hid (ItemsAt w a its)) (hL' : Hid (ItemsAt w a' its')) (hI : Hid (CmpOk its its')) :
    Calls Tryd.prog 33 #[.slice a its.length c, .slice a' its'.length c', .func (.func 19) #[] #[]] w fun e w' => e = .returned (.int .i64 (cmpL its its')) ∧ Below w.heap.size w w' := by
  go_enter Tryd.func33, Tryd.ntmps33
  go_wp2_with fail
  go_loopw [13] (fun i wr => ∃ q : Nat, q ≤ its.length ∧ q ≤ its'.length ∧ i = .int .i64 q ∧ Below w.heap.size w wr ∧ Hid (cmpL its its' = cmpL (its.drop q) (its'.drop q))) (fun i _ => its.length - (intOf i).toNat)
  case atStart => exact ⟨0, Nat.zero_le _, Nat.zero_le _, rfl, Below.refl _ w, rfl⟩
  case round =>
    obtain ⟨q, hq, hq', rfl, hbel, hG⟩ := hrel
    by_cases hlt : q < its.length
    · have hd : decide ((q : Int) < (its.length : Int)) = true := by simp; omega
      obtain ⟨u, hu⟩ : ∃ u, Hid (its[q]? = some u) := ⟨_, List.getElem?_eq_getElem hlt⟩
      obtain ⟨b, o, rfl, hb, hV⟩ := hL.out.resolve_left (by intro e; subst e; simp at hlt)
      obtain ⟨cs, hC, h2⟩ := VRepL.at its o q u hV hu.out
      obtain ⟨k2, x2, s2, an2, ln2, cn2, ai2, li2, ci2, rfl⟩ := vrep_five h2
      replace h2 := hid_e h2
      have g0 := stay hbel (hC 0 _ rfl)
      have g1 := stay hbel (hC 1 _ rfl)
      have g2 := stay hbel (hC 2 _ rfl)
      have g3 := stay hbel (hC 3 _ rfl)
      have g4 := stay hbel (hC 4 _ rfl)
      simp only [Nat.add_zero] at g0
      clear hC hV
      by_cases hlt' : q < its'.length
      · have hd' : decide ((its'.length : Int) ≤ (q : Int)) = false := by simp; omega
        obtain ⟨v, hv⟩ : ∃ v, Hid (its'[q]? = some v) := ⟨_, List.getElem?_eq_getElem hlt'⟩
        obtain ⟨b', o', rfl, hb', hV'⟩ := hL'.out.resolve_left (by intro e; subst e; simp at hlt')
        obtain ⟨cs', hC', h2'⟩ := VRepL.at its' o' q v hV' hv.out
        obtain ⟨k3, x3, s3, an3, ln3, cn3, ai3, li3, ci3, rfl⟩ := vrep_five h2'
        replace h2' := hid_e h2'
        have f0 := fun o => cell_alloc' (stay hbel (hC' 0 _ rfl)) o
        have f1 := fun o => cell_alloc' (stay hbel (hC' 1 _ rfl)) o
        have f2 := fun o => cell_alloc' (stay hbel (hC' 2 _ rfl)) o
        have f3 := fun o => cell_alloc' (stay hbel (hC' 3 _ rfl)) o
        have f4 := fun o => cell_alloc' (stay hbel (hC' 4 _ rfl)) o
        simp only [Nat.add_zero] at f0
        clear hC' hV'
        have hcall := fun W (hW : Below w.heap.size w W) => hid_e (hI.out q u v hu.out hv.out _ _ W (VRep.keep hW _ _ h2.out) (VRep.keep hW _ _ h2'.out))
        have hst := hid_e (hG.out.trans (cmpL_step hu.out hv.out))
        generalize cmpT u v = z at hcall hst
        clear hI hL hL' hG
        go_wp2_with fail
        have hX := (hbel.alloc hbel.size (.cells #[.int .i64 k2, .int .i64 x2, .string s2, .slice an2 ln2 cn2, .slice ai2 li2 ci2] 31)).alloc (by simp only [World.size_alloc]; have := hbel.size; omega) (.cells #[.int .i64 k3, .int .i64 x3, .string s3, .slice an3 ln3 cn3, .slice ai3 li3 ci3] 31)
        go_fit (hcall _ hX).out
        rintro e w1 ⟨rfl, hb1⟩
        have hbel1 : Below w.heap.size w w1 := hX.trans (hb1.mono hX.size)
        clear hcall hX hb1 f0 f1 f2 f3 f4 g0 g1 g2 g3 g4
        by_cases hz : z = 0
        · subst hz
          replace hst := hid_e (hst.out.trans (if_neg (fun e => e rfl)))
          go_wp2_with fail
          go_roundw
          case rel => exact ⟨q + 1, by omega, by omega, by simp, hbel1, hst⟩
          case measure => simp [intOf]; omega
        · have hz' : (z == 0) = false := by simpa using hz
          replace hst := hid_e (hst.out.trans (if_pos hz))
          go_wp2_with fail
          go_ret
          exact ⟨ret_int hst.out.symm, hbel1⟩
      · have hd' : decide ((its'.length : Int) ≤ (q : Int)) = true := by simp; omega
        have hst := hid_e (hG.out.trans (cmpL_more hlt (by omega)))
        clear hI hL hL' hG
        go_wp2_with fail
        go_ret
        exact ⟨ret_int hst.out.symm, hbel.alloc hbel.size _⟩
    · have hd : decide ((q : Int) < (its.length : Int)) = false := by simp; omega
      by_cases hlt' : its.length < its'.length
      · have hd' : decide ((its.length : Int) < (its'.length : Int)) = true := by simp; omega
        have hst := hid_e (hG.out.trans (cmpL_less (by omega) (by omega)))
        clear hI hL hL' hG
        go_wp2_with fail
        go_ret
        exact ⟨ret_int hst.out.symm, hbel⟩
      · have hd' : decide ((its.length : Int) < (its'.length : Int)) = false := by simp; omega
        have hst := hid_e (hG.out.trans (cmpL_end (by omega) (by omega)))
        clear hI hL hL' hG
        go_wp2_with fail
        go_ret
        exact ⟨ret_int hst.out.symm, hbel⟩
end Go.Proofs.YthijpmomcompaaaDoor
