import Derived.Test.YtifmmodgagdjfaaDoorRA1
/-! The document's has and plain. -/
namespace Go.Proofs.YtifmmodgagdjfaaDoor
open Go Go.RowKit

theorem k_reads_take {W : World} {a : Option Addr} {c n : Nat} {l : List ByteArray} (h : Reads W (.slice a n c) l) {q : Nat} (hq : q ≤ l.length) : Reads W (.slice a q c) (l.take q) := by
  obtain ⟨a', c', e, hc, hA⟩ := h
  cases e
  have hlen : (l.take q).length = q := by simp; omega
  refine ⟨a, c, by rw [hlen], ⟨by rw [hlen]; omega, hc.2⟩, ?_⟩
  rcases hA with h0 | ⟨b, o, h1, h2, h3⟩
  · exact .inl (by rw [h0]; simp)
  · exact .inr ⟨b, o, h1, h2, fun j s hj => h3 j s (by
      have hjl := (List.getElem?_eq_some_iff.1 hj).1
      rw [List.getElem?_take_of_lt (by omega)] at hj
      exact hj)⟩
theorem k_reads_at {w : World} {a : Option Addr} {c n : Nat} {l : List ByteArray} (h : Reads w (.slice a n c) l) {q : Nat} (hq : q < l.length) : ∃ g o, a = some ⟨g, o, none⟩ ∧ w.cell? ⟨g, o + q, none⟩ = some (.string l[q]) := by
  obtain ⟨a', c', e, hc, hA⟩ := h
  cases e
  obtain ⟨b, o, rfl, _, hA⟩ := hA.resolve_left (by intro e; subst e; simp at hq)
  exact ⟨b, o, rfl, hA q _ (List.getElem?_eq_getElem hq)⟩
theorem k_reads_n {w : World} {a : Option Addr} {c n : Nat} {l : List ByteArray} (h : Reads w (.slice a n c) l) : l.length = n := by
  obtain ⟨a', c', e, _⟩ := h
  cases e
  rfl
/-- Is the text among these? -/
def hasB (l : List ByteArray) (s : ByteArray) : Bool := l.any fun x => decide (x = s)
theorem hasB_true {l : List ByteArray} {s : ByteArray} {q : Nat} (h : l[q]? = some s) : hasB l s = true := by
  unfold hasB
  rw [List.any_eq_true]
  exact ⟨s, List.mem_of_getElem? h, by simp⟩
theorem hasB_false {l : List ByteArray} {s : ByteArray} (h : ∀ j : Nat, j < l.length → l[j]? ≠ some s) : hasB l s = false := by
  rw [Bool.eq_false_iff]
  intro e
  unfold hasB at e
  rw [List.any_eq_true] at e
  obtain ⟨x, hx, e⟩ := e
  obtain ⟨j, hj⟩ := List.mem_iff_getElem?.1 hx
  have : x = s := by simpa using e
  subst this
  exact h j (List.getElem?_eq_some_iff.1 hj).1 hj
set_option maxHeartbeats 1000000 in
set_option maxRecDepth 100000 in
theorem has_any (a : Option Addr) (n c : Nat) (l : List ByteArray) (s : ByteArray) (w : World) (hN : Hid (Reads w (.slice a n c) l)) : Calls Tryd.prog 50 #[.slice a n c, .string s] w fun e w' => e = .returned (.bool (hasB l s)) ∧ Below w.heap.size w w' := by
  have hl := hN.out.len
  have hn := k_reads_n hN.out
  subst hn
  go_enter Tryd.func50, Tryd.ntmps50
  go_wp2_with fail
  go_loopw [5] (fun i wr => ∃ q : Nat, q ≤ l.length ∧ i = .int .i64 q ∧ Below w.heap.size w wr ∧ Hid (∀ j : Nat, j < q → l[j]? ≠ some s)) (fun i _ => l.length - (intOf i).toNat)
  case atStart => exact ⟨0, Nat.zero_le _, rfl, Below.refl _ w, hid_e (fun j h => by omega)⟩
  case round =>
    obtain ⟨q, hq, rfl, HB, hno⟩ := hrel
    by_cases hlt : q < l.length
    · have hd : decide ((q : Int) < (l.length : Int)) = true := by simp; omega
      obtain ⟨g, o, rfl, c1⟩ := k_reads_at hN.out hlt
      have n1 := stay HB c1
      obtain ⟨x, hx⟩ : ∃ x, Hid (l[q] = x) := ⟨_, hid_e rfl⟩
      rw [hx.out] at n1
      have i1 : (q : Int) < (l.length : Int) := by omega
      have i2 : (0 : Int) ≤ (q : Int) := by omega
      clear c1
      by_cases he : x = s
      · subst he
        have hb : (x.toList == x.toList) = true := by simp
        have hout : Hid (hasB l x = true) := hid_e (hasB_true (q := q) (by rw [List.getElem?_eq_getElem hlt, hx.out]))
        go_wp2_with fail
        go_ret
        exact ⟨by rw [hout.out]; rfl, HB⟩
      · have hb : (x.toList == s.toList) = false := by rw [str_beq]; simpa using he
        go_wp2_with fail
        go_roundw
        case rel => exact ⟨q + 1, by omega, by simp, HB, hid_e (fun j hj => by
          by_cases ej : j = q
          · subst ej; rw [List.getElem?_eq_getElem hlt, hx.out]; simpa using he
          · exact hno.out j (by omega))⟩
        case measure => simp [intOf]; omega
    · have hd : decide ((q : Int) < (l.length : Int)) = false := by simp; omega
      have hout : Hid (hasB l s = false) := hid_e (hasB_false (fun j hj => hno.out j (by omega)))
      go_wp2_with fail
      go_ret
      exact ⟨by rw [hout.out]; rfl, HB⟩
theorem hasB_name (l : List ByteArray) (s : ByteArray) : hasB l s = hasName l s := by
  unfold hasB hasName
  congr 1
  funext t
  have : (t = s) ↔ (t.data = s.data) := ⟨fun h => by rw [h], fun h => ByteArray.ext h⟩
  exact decide_eq_decide.2 this
theorem has_code (a : Option Addr) (n c : Nat) (l : List ByteArray) (s : ByteArray) (w : World) (hN : Hid (Reads w (.slice a n c) l)) : Calls Tryd.prog 50 #[.slice a n c, .string s] w fun e w' => e = .returned (.bool (hasName l s)) ∧ Below w.heap.size w w' := by
  rw [← hasB_name]
  exact has_any a n c l s w hN
/-- What plain tells. -/
def plainB (k x : Int) (s : ByteArray) (n m : Nat) : Bool :=
  (x == 0 || k == 3) && (decide (s = ⟨#[]⟩) || k == 4) && (if (k == 6) = true then ((n : Int) == (m : Int)) else ((n : Int) == 0 && (k == 5 || (m : Int) == 0)))
set_option maxHeartbeats 2000000 in
theorem plain_code (k x : Int) (s : ByteArray) (an : Option Addr) (N cn : Nat) (ai : Option Addr) (M ci : Nat) (w : World) : Calls Tryd.prog 48 #[.agg #[.int .i64 k, .int .i64 x, .string s, .slice an N cn, .slice ai M ci]] w fun e w' => e = .returned (.bool (plainB k x s N M)) ∧ Below w.heap.size w w' := by
  have hB : ∀ o, Below w.heap.size w (w.alloc o) := fun o => (Below.refl _ _).alloc (Nat.le_refl _) _
  obtain ⟨R, hR⟩ : ∃ R, Hid (plainB k x s N M = R) := ⟨_, hid_e rfl⟩
  rw [hR.out]
  have hR' := hid_e hR.out
  unfold plainB at hR
  by_cases hs : s = ⟨#[]⟩
  · subst hs
    go_enter Tryd.func48, Tryd.ntmps48
    go_wp2_with fail
    all_goals (go_ret; exact ⟨ret_bool (by rw [← hR.out]; simp [*]), hB _⟩)
  · have hs' : s.toList.isEmpty = false := not_empty (fun e => hs (ByteArray.ext (Array.eq_empty_of_size_eq_zero e)))
    have hsd : decide (s = ⟨#[]⟩) = false := by simpa using hs
    rw [hsd] at hR
    go_enter Tryd.func48, Tryd.ntmps48
    go_wp2_with fail
    all_goals (go_ret; exact ⟨ret_bool (by rw [← hR.out]; simp [*]), hB _⟩)
/-- What check asks of a value's own cells, but for the depth. -/
def restB (k x : Int) (s : ByteArray) (n m : Nat) : Bool := decide (k < 0) || decide (6 < k) || !plainB k x s n m || !Lib.validD s.data.toList
theorem alone_rest (d k x : Int) (s : ByteArray) (n m : Nat) : aloneT d k x s n m = if deepB k < d then 17 else if restB k x s n m = true then 18 else 0 := by
  unfold aloneT restB
  by_cases h1 : deepB k < d
  · rw [if_pos h1, if_pos h1]
  rw [if_neg h1, if_neg h1]
  by_cases h2 : k < 0 ∨ 6 < k
  · rw [if_pos h2, if_pos]
    rcases h2 with h | h <;> simp [h]
  rw [if_neg h2]
  have h3 : ¬ k < 0 := fun h => h2 (.inl h)
  have h4 : ¬ 6 < k := fun h => h2 (.inr h)
  have hp : plainB k x s n m = (keepsB k x s n m && !(decide (k = 6) && decide (n ≠ m))) := by
    unfold plainB keepsB
    by_cases h6 : k = 6
    · subst h6
      by_cases e : n = m
      · subst e; simp
      · have : ¬ ((n : Int) = (m : Int)) := by omega
        simp [e, this]
    · by_cases h5 : k = 5
      · subst h5; simp
      · have e5 : (k == 5) = false := by simpa using h5
        have e6 : (k == 6) = false := by simpa using h6
        have d6 : decide (k = 6) = false := by simpa using h6
        rw [e5, e6, d6]
        cases (x == 0 || k == 3) <;> cases (decide (s = ⟨#[]⟩) || k == 4) <;> cases ((n : Int) == 0) <;> cases ((m : Int) == 0) <;> rfl
  rw [hp]
  cases hk : keepsB k x s n m
  · simp
  · cases hv : Lib.validD s.data.toList
    · simp
    · by_cases h6 : k = 6
      · subst h6
        by_cases e : n = m
        · subst e; simp
        · simp [e]
      · simp [h3, h4, h6]
end Go.Proofs.YtifmmodgagdjfaaDoor
