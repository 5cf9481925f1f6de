import Derived.Test.YtgigikcopedoeaaGreatLH
/-! The small parts of ParseSort. -/
namespace Go.Proofs.YtgigikcopedoeaaGreat.Tree
open Go Go.RowKit

def clashT : List ByteArray → List ByteArray → Bool
  | a :: A, b :: B => decide (a = b) && clashT A B
  | _, _ => true
theorem clash_true : (A B : List ByteArray) → (∀ j : Nat, j < A.length → j < B.length → A[j]? = B[j]?) → clashT A B = true
  | [], _, _ => by simp [clashT]
  | _ :: _, [], _ => by simp [clashT]
  | a :: A, b :: B, h => by
    have h0 := h 0 (by simp) (by simp)
    simp at h0
    rw [clashT, clash_true A B (fun j h1 h2 => by simpa using h (j + 1) (by simp; omega) (by simp; omega))]
    simp [h0]
theorem clash_false : (A B : List ByteArray) → (q : Nat) → q < A.length → q < B.length → A[q]? ≠ B[q]? → clashT A B = false
  | [], _, _, h, _, _ => by simp at h
  | _ :: _, [], _, _, h, _ => by simp at h
  | a :: A, b :: B, 0, _, _, h => by
    have : ¬ a = b := by simpa using h
    simp [clashT, this]
  | a :: A, b :: B, q + 1, h1, h2, h => by
    rw [clashT, clash_false A B q (by simpa using h1) (by simpa using h2) (by simpa using h)]
    simp
theorem reads_at {w : World} {a : Option Addr} {c n : Nat} {l : List ByteArray} (h : Reads w (.slice a n c) l) {q : Nat} (hq : q < l.length) : ∃ g o, a = some ⟨g, o, none⟩ ∧ w.cell? ⟨g, o + q, none⟩ = some (.string l[q]) := by
  obtain ⟨a', c', e, hc, hA⟩ := h
  cases e
  obtain ⟨b, o, rfl, _, hA⟩ := hA.resolve_left (by intro e; subst e; simp at hq)
  exact ⟨b, o, rfl, hA q _ (List.getElem?_eq_getElem hq)⟩
set_option maxHeartbeats 2000000 in
set_option maxRecDepth 100000 in
theorem rclash_any (a : Option Addr) (c : Nat) (b : Option Addr) (d : Nat) (A B : List ByteArray) (w : World) (hA : Hid (Reads w (.slice a A.length c) A)) (hB : Hid (Reads w (.slice b B.length d) B)) :
    Calls Tryz.prog 67 #[.slice a A.length c, .slice b B.length d] w fun e w' => e = .returned (.bool (clashT A B)) ∧ Below w.heap.size w w' := by
  have hAl := hA.out.len
  have hBl := hB.out.len
  go_enter Tryz.func67, Tryz.ntmps67
  go_wp2_with fail
  go_loopw [5] (fun i wr => ∃ q : Nat, q ≤ A.length ∧ i = .int .i64 q ∧ Below w.heap.size w wr ∧ Hid (∀ j : Nat, j < q → A[j]? = B[j]?)) (fun i _ => A.length - (intOf i).toNat)
  case atStart => exact ⟨0, Nat.zero_le _, rfl, Below.refl _ w, hid_f (fun j h => by omega)⟩
  case round =>
    obtain ⟨q, hq, rfl, HB, hsame⟩ := hrel
    by_cases h1 : q < A.length
    · have hd1 : decide ((q : Int) < (A.length : Int)) = true := by simp; omega
      by_cases h2 : q < B.length
      · have hd2 : decide ((q : Int) < (B.length : Int)) = true := by simp; omega
        obtain ⟨g1, o1, rfl, c1⟩ := reads_at hA.out h1
        obtain ⟨g2, o2, rfl, c2⟩ := reads_at hB.out h2
        have n1 := stay HB c1
        have n2 := stay HB c2
        obtain ⟨x, hx⟩ : ∃ x, Hid (A[q] = x) := ⟨_, hid_f rfl⟩
        obtain ⟨y, hy⟩ : ∃ y, Hid (B[q] = y) := ⟨_, hid_f rfl⟩
        rw [hx.out] at n1
        rw [hy.out] at n2
        have i1 : (q : Int) < (A.length : Int) := by omega
        have i2 : (q : Int) < (B.length : Int) := by omega
        have i3 : (0 : Int) ≤ (q : Int) := by omega
        clear c1 c2
        by_cases he : x = y
        · subst he
          have hsm : Hid (A[q]? = B[q]?) := hid_f (by rw [List.getElem?_eq_getElem h1, List.getElem?_eq_getElem h2, hx.out, hy.out])
          go_wp2_with fail
          go_quiet (fail)
          go_wp2_with fail
          go_roundw
          case rel => exact ⟨q + 1, by omega, by simp, below_drewN HB nq, hid_f (fun j hj => by
            by_cases ej : j = q
            · subst ej; exact hsm.out
            · exact hsame.out j (by omega))⟩
          case measure => simp [intOf]; omega
        · have hne : (x.toList == y.toList) = false := by rw [toList_beq]; simpa using he
          have hf : Hid (clashT A B = false) := hid_f (clash_false A B q h1 h2 (by rw [List.getElem?_eq_getElem h1, List.getElem?_eq_getElem h2, hx.out, hy.out]; simpa using he))
          go_wp2_with fail
          go_quiet (fail)
          go_wp2_with fail
          go_ret
          exact ⟨by rw [hf.out]; rfl, below_drewN HB nq⟩
      · have hd2 : decide ((q : Int) < (B.length : Int)) = false := by simp; omega
        have hf : Hid (clashT A B = true) := hid_f (clash_true A B (fun j h3 h4 => hsame.out j (by omega)))
        go_wp2_with fail
        go_ret
        exact ⟨by rw [hf.out]; rfl, HB⟩
    · have hd1 : decide ((q : Int) < (A.length : Int)) = false := by simp; omega
      have hf : Hid (clashT A B = true) := hid_f (clash_true A B (fun j h3 h4 => hsame.out j (by omega)))
      go_wp2_with fail
      go_ret
      exact ⟨by rw [hf.out]; rfl, HB⟩

theorem clash_eq : (A B : List ByteArray) → A.length = B.length → clashT A B = decide (A = B)
  | [], [], _ => by simp [clashT]
  | [], _ :: _, h => by simp at h
  | _ :: _, [], h => by simp at h
  | a :: A, b :: B, h => by
    rw [clashT, clash_eq A B (by simpa using h)]
    by_cases e : a = b <;> by_cases e' : A = B <;> simp [e, e']
set_option maxHeartbeats 2000000 in
set_option maxRecDepth 100000 in
theorem texts_any (a : Option Addr) (c : Nat) (b : Option Addr) (d : Nat) (A B : List ByteArray) (w : World) (hA : Reads w (.slice a A.length c) A) (hB : Reads w (.slice b B.length d) B) :
    Calls Tryz.prog 43 #[.slice a A.length c, .slice b B.length d] w fun e w' => e = .returned (.bool (decide (A = B))) ∧ Below w.heap.size w w' := by
  have hc := hid_e (rclash_any a c b d A B w hA hB)
  by_cases h : A.length = B.length
  · rw [clash_eq A B h] at hc
    obtain ⟨m, hm⟩ : ∃ m, Hid (A.length = m) := ⟨_, rfl⟩
    obtain ⟨Z, hZ⟩ : ∃ Z, Hid (decide (A = B) = Z) := ⟨_, rfl⟩
    rw [hZ.out] at hc ⊢
    rw [← h, hm.out] at hc ⊢
    clear hA hB h hZ
    go_enter Tryz.func43, Tryz.ntmps43
    go_wp2_with (go_at_call 67; refine hc.out.mono ?_; rintro e w1 ⟨rfl, hb⟩; replace hb := hid_e hb)
    go_ret
    exact ⟨rfl, hb.out⟩
  · have hne : decide (A = B) = false := decide_eq_false (fun e => h (by rw [e]))
    rw [hne]
    have h' : ¬ (A.length : Int) = (B.length : Int) := by omega
    clear hA hB hc hne
    go_enter Tryz.func43, Tryz.ntmps43
    go_wp2_with fail
    go_ret
    exact ⟨rfl, Below.refl _ _⟩
theorem sequal_any (a : Option Addr) (c : Nat) (b : Option Addr) (d : Nat) (A B : List ByteArray) (w : World) (hA : Reads w (.slice a A.length c) A) (hB : Reads w (.slice b B.length d) B) :
    Calls Tryz.prog 65 #[.slice a A.length c, .slice b B.length d] w fun e w' => e = .returned (.bool (decide (A = B))) ∧ Below w.heap.size w w' := by
  have hAl := hA.len
  have hBl := hB.len
  have hget : ∀ (l : List ByteArray) (j : Nat) (h : j < l.length), l[j] = l.getD j ByteArray.empty := fun l j h => by simp [List.getD, List.getElem?_eq_getElem h]
  rcases Nat.eq_zero_or_pos A.length with h0 | h0
  · rw [h0]
    refine (Tryz.slices_Equal_string_empty a b c B.length d w (by omega)).mono ?_
    rintro e w' ⟨rfl, rfl⟩
    have hA0 : A = [] := List.eq_nil_of_length_eq_zero h0
    subst hA0
    exact ⟨by cases B <;> simp, Below.refl _ _⟩
  · rcases Nat.eq_zero_or_pos B.length with h1 | h1
    · have hB0 : B = [] := List.eq_nil_of_length_eq_zero h1
      subst hB0
      have hne : decide (A = []) = false := decide_eq_false (fun e => by rw [e] at h0; simp at h0)
      rw [hne]
      have h' : ¬ (A.length : Int) = 0 := by omega
      clear hA hB hne hget
      rw [List.length_nil]
      go_enter Tryz.func65, Tryz.ntmps65
      go_wp2_with fail
      go_ret
      exact ⟨rfl, Below.refl _ _⟩
    · obtain ⟨g1, o1, rfl, -⟩ := reads_at hA h0
      obtain ⟨g2, o2, rfl, -⟩ := reads_at hB h1
      refine (Tryz.slices_Equal_string g1 o1 A.length c g2 o2 B.length d A B w (Nat.le_refl _) (Nat.le_refl _) (by omega) (by omega) (fun j hj => ?_) (fun j hj => ?_)).mono ?_
      · obtain ⟨g, o, e, h⟩ := reads_at hA hj
        cases e
        rw [← hget A j hj]; exact h
      · obtain ⟨g, o, e, h⟩ := reads_at hB hj
        cases e
        rw [← hget B j hj]; exact h
      · rintro e w' ⟨rfl, q, rfl⟩
        rw [List.take_length, List.take_length]
        exact ⟨rfl, below_drewN (Below.refl _ _) q⟩
set_option maxHeartbeats 2000000 in
set_option maxRecDepth 100000 in
theorem isnum_any (k x : Int) (s : ByteArray) (an : Option Addr) (ln cn : Nat) (ai : Option Addr) (li ci : Nat) (y : Int) (w : World) : Calls Tryz.prog 51 #[.agg #[.int .i64 k, .int .i64 x, .string s, .slice an ln cn, .slice ai li ci], .int .i64 y] w fun e w' => e = .returned (.bool (decide (k = 3 ∧ x = y))) ∧ Below w.heap.size w w' := by
  by_cases h3 : k = 3
  · subst h3
    by_cases hx : x = y
    · subst hx
      rw [decide_eq_true (show (3 : Int) = 3 ∧ x = x from ⟨rfl, rfl⟩)]
      go_enter Tryz.func51, Tryz.ntmps51
      go_wp2_with fail
      go_ret
      exact ⟨rfl, (Below.refl _ w).alloc (Nat.le_refl _) _⟩
    · rw [decide_eq_false (show ¬ ((3 : Int) = 3 ∧ x = y) from fun h => hx h.2)]
      go_enter Tryz.func51, Tryz.ntmps51
      go_wp2_with fail
      go_ret
      exact ⟨by show Ending.returned (.bool (x == y)) = _; rw [show (x == y) = false by simpa using hx], (Below.refl _ w).alloc (Nat.le_refl _) _⟩
  · rw [decide_eq_false (show ¬ (k = 3 ∧ x = y) from fun h => h3 h.1)]
    go_enter Tryz.func51, Tryz.ntmps51
    go_wp2_with fail
    go_ret
    exact ⟨rfl, (Below.refl _ w).alloc (Nat.le_refl _) _⟩
set_option maxHeartbeats 2000000 in
set_option maxRecDepth 100000 in
theorem mem_any (k x : Int) (s : ByteArray) (an : Option Addr) (ln cn : Nat) (ai : Option Addr) (li ci : Nat) (w : World) : Calls Tryz.prog 39 #[.agg #[.int .i64 k, .int .i64 x, .string s, .slice an ln cn, .slice ai li ci]] w fun e w' => e = .returned (.int .i64 (min ln li : Nat)) ∧ Below w.heap.size w w' := by
  go_enter Tryz.func39, Tryz.ntmps39
  go_wp2_with fail
  go_ret
  exact ⟨by show Ending.returned (.int .i64 (min (ln : Int) (li : Int))) = _; rw [show min (ln : Int) (li : Int) = ((min ln li : Nat) : Int) by omega], (Below.refl _ w).alloc (Nat.le_refl _) _⟩
end Go.Proofs.YtgigikcopedoeaaGreat.Tree
