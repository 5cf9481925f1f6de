import Derived.Test.YthijpmomcompaaaDoorK4
/-! The document's ints, Texts, members. -/
namespace Go.Proofs.YthijpmomcompaaaDoor
open Go Go.RowKit

set_option maxHeartbeats 1000000 in
theorem ints_any (x y : Int) (w : World) : Calls Tryd.prog 34 #[.int .i64 x, .int .i64 y] w fun e w' => e = .returned (.int .i64 (cmpI x y)) ∧ w' = w := by
  rcases Int.lt_trichotomy x y with h | rfl | h
  · rw [cmpI_lt h]
    go_enter Tryd.func34, Tryd.ntmps34
    go_wp2_with fail
    go_ret
    exact ⟨rfl, rfl⟩
  · rw [cmpI_eq]
    go_enter Tryd.func34, Tryd.ntmps34
    go_wp2_with fail
    go_ret
    exact ⟨rfl, rfl⟩
  · rw [cmpI_gt h]
    have h' : decide (x < y) = false := by simp; omega
    go_enter Tryd.func34, Tryd.ntmps34
    go_wp2_with fail
    go_ret
    exact ⟨rfl, rfl⟩
/-- The byte at a place of a text. -/
def byteAt (T : ByteArray) (n : Nat) : UInt8 := T.data.getD n 0
theorem byteAt_eq {T : ByteArray} {n : Nat} (h : n < T.size) : T[n] = byteAt T n := by
  have h' : n < T.data.size := h
  unfold byteAt
  rw [Array.getD_eq_getD_getElem?, Array.getElem?_eq_getElem h']
  rfl
theorem byteAt_list {T : ByteArray} {n : Nat} (h : n < T.size) : T.data.toList[n]? = some (byteAt T n) := by
  have h' : n < T.data.size := h
  unfold byteAt
  rw [Array.getD_eq_getD_getElem?, Array.getElem?_eq_getElem h', Array.getElem?_toList, Array.getElem?_eq_getElem h']
  rfl
theorem cb_step {a b : List UInt8} {q : Nat} {x y : UInt8} (h : a[q]? = some x) (h' : b[q]? = some y) : Lib.compareBytes (a.drop q) (b.drop q) = if x < y then -1 else if y < x then 1 else Lib.compareBytes (a.drop (q + 1)) (b.drop (q + 1)) := by
  have d : ∀ {l : List UInt8} {x : UInt8}, l[q]? = some x → l.drop q = x :: l.drop (q + 1) := fun {l x} h => by
    obtain ⟨hq, hx⟩ := List.getElem?_eq_some_iff.1 h
    rw [← hx]
    exact List.drop_eq_getElem_cons hq
  rw [d h, d h', Lib.compareBytes]
theorem cb_end {a b : List UInt8} {q : Nat} (hq : q ≤ a.length) (hq' : q ≤ b.length) (h : q = a.length ∨ q = b.length) : Lib.compareBytes (a.drop q) (b.drop q) = cmpI a.length b.length := by
  rcases h with rfl | rfl
  · rw [List.drop_length]
    cases hb : b.drop a.length with
    | nil => rw [Lib.compareBytes]; have := congrArg List.length hb; simp at this; rw [show (b.length : Int) = a.length by omega, cmpI]; simp
    | cons x r => rw [Lib.compareBytes]; have := congrArg List.length hb; simp at this; unfold cmpI; rw [if_pos (by omega)]
  · rw [List.drop_length]
    cases hb : a.drop b.length with
    | nil => rw [Lib.compareBytes]; have := congrArg List.length hb; simp at this; rw [show (a.length : Int) = b.length by omega, cmpI]; simp
    | cons x r => rw [Lib.compareBytes]; have := congrArg List.length hb; simp at this; unfold cmpI; rw [if_neg (by omega), if_pos (by omega)]
set_option maxHeartbeats 4000000 in
set_option maxRecDepth 100000 in
theorem texts_cmp (a b : ByteArray) (ha : a.size ≤ 9223372036854775806) (w : World) : Calls Tryd.prog 36 #[.string a, .string b] w fun e w' => e = .returned (.int .i64 (cmpS a b)) ∧ ∃ m, w' = w.drewN m := by
  have la : Hid (a.data.toList.length = a.size) := hid_e (by rw [Array.length_toList]; rfl)
  have lb : Hid (b.data.toList.length = b.size) := hid_e (by rw [Array.length_toList]; rfl)
  go_enter Tryd.func36, Tryd.ntmps36
  go_wp2_with fail
  go_loopw [5] (fun i wr => ∃ q m : Nat, q ≤ a.size ∧ q ≤ b.size ∧ i = .int .i64 q ∧ wr = w.drewN m ∧ Hid (cmpS a b = Lib.compareBytes (a.data.toList.drop q) (b.data.toList.drop q))) (fun i _ => a.size - (intOf i).toNat)
  case atStart => exact ⟨0, 0, Nat.zero_le _, Nat.zero_le _, rfl, rfl, rfl⟩
  case round =>
    obtain ⟨q, m, hq, hq', rfl, rfl, hG⟩ := hrel
    by_cases h1 : q < a.size
    · have hd1 : decide ((q : Int) < (a.size : Int)) = true := by simp; omega
      by_cases h2 : q < b.size
      · have hd2 : decide ((q : Int) < (b.size : Int)) = true := by simp; omega
        have e1 := byteAt_eq h1
        have e2 := byteAt_eq h2
        have hst := hid_e (hG.out.trans (cb_step (byteAt_list h1) (byteAt_list h2)))
        have i0 : (0 : Int) ≤ (q : Int) := by omega
        have i1 : (q : Int) < (a.size : Int) := by omega
        have i2 : (q : Int) < (b.size : Int) := by omega
        obtain ⟨x, hx⟩ : ∃ x, byteAt a q = x := ⟨_, rfl⟩
        obtain ⟨y, hy⟩ : ∃ y, byteAt b q = y := ⟨_, rfl⟩
        rw [hx] at e1 hst
        rw [hy] at e2 hst
        clear hx hy hG
        by_cases c1 : x < y
        · have hc1 : decide ((x.toNat : Int) < (y.toNat : Int)) = true := by simpa [UInt8.lt_iff_toNat_lt] using c1
          replace hst := hid_e (hst.out.trans (if_pos c1))
          go_wp2_with fail
          go_region
          go_wp2_with fail
          go_ret
          exact ⟨ret_int hst.out.symm, m + 1, rfl⟩
        · have hc1 : decide ((x.toNat : Int) < (y.toNat : Int)) = false := by simp; rw [UInt8.lt_iff_toNat_lt] at c1; omega
          replace hst := hid_e (hst.out.trans (if_neg c1))
          by_cases c2 : y < x
          · have hc2 : decide ((y.toNat : Int) < (x.toNat : Int)) = true := by simpa [UInt8.lt_iff_toNat_lt] using c2
            replace hst := hid_e (hst.out.trans (if_pos c2))
            go_wp2_with fail
            go_region
            go_wp2_with fail
            go_region
            go_wp2_with fail
            go_ret
            exact ⟨ret_int hst.out.symm, m + 2, rfl⟩
          · have hc2 : decide ((y.toNat : Int) < (x.toNat : Int)) = false := by simp; rw [UInt8.lt_iff_toNat_lt] at c2; omega
            replace hst := hid_e (hst.out.trans (if_neg c2))
            go_wp2_with fail
            go_region
            go_wp2_with fail
            go_region
            go_wp2_with fail
            go_roundw
            case rel => exact ⟨q + 1, m + 2, by omega, by omega, by simp, rfl, hst⟩
            case measure => simp [intOf]; omega
      · have hd2 : decide ((q : Int) < (b.size : Int)) = false := by simp; omega
        have hst := hid_e (hG.out.trans (cb_end (by rw [la.out]; omega) (by rw [lb.out]; omega) (.inr (by rw [lb.out]; omega))))
        rw [la.out, lb.out] at hst
        clear hG
        go_wp2_with fail
        refine (ints_any _ _ _).mono ?_
        rintro e w' ⟨rfl, rfl⟩
        go_wp2_with fail
        go_ret
        exact ⟨ret_int hst.out.symm, m, rfl⟩
    · have hd1 : decide ((q : Int) < (a.size : Int)) = false := by simp; omega
      have hst := hid_e (hG.out.trans (cb_end (by rw [la.out]; omega) (by rw [lb.out]; omega) (.inl (by rw [la.out]; omega))))
      rw [la.out, lb.out] at hst
      clear hG
      go_wp2_with fail
      refine (ints_any _ _ _).mono ?_
      rintro e w' ⟨rfl, rfl⟩
      go_wp2_with fail
      go_ret
      exact ⟨ret_int hst.out.symm, m, rfl⟩
/-- How many members an object has, how many items a list. -/
def mem6 (k : Int) (ln li : Nat) : Nat := if k = 6 then min ln li else li
set_option maxHeartbeats 1000000 in
set_option maxRecDepth 100000 in
theorem rmembers_any (k x : Int) (s : ByteArray) (an : Option Addr) (ln cn : Nat) (ai : Option Addr) (li ci : Nat) (w : World) : Calls Tryd.prog 46 #[.agg #[.int .i64 k, .int .i64 x, .string s, .slice an ln cn, .slice ai li ci]] w fun e w' => e = .returned (.int .i64 (mem6 k ln li)) ∧ Below w.heap.size w w' := by
  by_cases h6 : k = 6
  · subst h6
    by_cases h : ln < li
    · have hd : decide ((ln : Int) < (li : Int)) = true := by simp; omega
      rw [show mem6 6 ln li = ln by simp [mem6]; omega]
      go_enter Tryd.func46, Tryd.ntmps46
      go_wp2_with fail
      go_ret
      exact ⟨rfl, (Below.refl _ w).alloc (Nat.le_refl _) _⟩
    · have hd : decide ((ln : Int) < (li : Int)) = false := by simp; omega
      rw [show mem6 6 ln li = li by simp [mem6]; omega]
      go_enter Tryd.func46, Tryd.ntmps46
      go_wp2_with fail
      go_ret
      exact ⟨rfl, (Below.refl _ w).alloc (Nat.le_refl _) _⟩
  · have e6 : (k == 6) = false := by simpa using h6
    rw [show mem6 k ln li = li by simp [mem6, h6]]
    go_enter Tryd.func46, Tryd.ntmps46
    go_wp2_with fail
    go_ret
    exact ⟨rfl, (Below.refl _ w).alloc (Nat.le_refl _) _⟩
end Go.Proofs.YthijpmomcompaaaDoor
