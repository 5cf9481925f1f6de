import Derived.Test.YtmlbofbnklmedaaK1
/-! The document's has, plain, check. -/
namespace Go.Proofs.Ytmlbofbnklmedaa
open Go Go.RowKit

theorem k_reads_take {W : World} {a : Option Addr} {c n : Nat} {l : List ByteArray} (h : Reads W (.slice a n c) l) {q : Nat} (hq : q ≤ l.length) : Reads W (.slice a q c) (l.take q) := by
  obtain ⟨a', c', e, hc, hA⟩ := h
  cases e
  have hlen : (l.take q).length = q := by simp; omega
  refine ⟨a, c, by rw [hlen], ⟨by rw [hlen]; omega, hc.2⟩, ?_⟩
  rcases hA with h0 | ⟨b, o, h1, h2, h3⟩
  · exact .inl (by rw [h0]; simp)
  · exact .inr ⟨b, o, h1, h2, fun j s hj => h3 j s (by
      have hjl := (List.getElem?_eq_some_iff.1 hj).1
      rw [List.getElem?_take_of_lt (by omega)] at hj
      exact hj)⟩
theorem k_reads_at {w : World} {a : Option Addr} {c n : Nat} {l : List ByteArray} (h : Reads w (.slice a n c) l) {q : Nat} (hq : q < l.length) : ∃ g o, a = some ⟨g, o, none⟩ ∧ w.cell? ⟨g, o + q, none⟩ = some (.string l[q]) := by
  obtain ⟨a', c', e, hc, hA⟩ := h
  cases e
  obtain ⟨b, o, rfl, _, hA⟩ := hA.resolve_left (by intro e; subst e; simp at hq)
  exact ⟨b, o, rfl, hA q _ (List.getElem?_eq_getElem hq)⟩
theorem k_reads_n {w : World} {a : Option Addr} {c n : Nat} {l : List ByteArray} (h : Reads w (.slice a n c) l) : l.length = n := by
  obtain ⟨a', c', e, _⟩ := h
  cases e
  rfl
/-- Is the text among these? -/
def hasB (l : List ByteArray) (s : ByteArray) : Bool := l.any fun x => decide (x = s)
theorem hasB_true {l : List ByteArray} {s : ByteArray} {q : Nat} (h : l[q]? = some s) : hasB l s = true := by
  unfold hasB
  rw [List.any_eq_true]
  exact ⟨s, List.mem_of_getElem? h, by simp⟩
theorem hasB_false {l : List ByteArray} {s : ByteArray} (h : ∀ j : Nat, j < l.length → l[j]? ≠ some s) : hasB l s = false := by
  rw [Bool.eq_false_iff]
  intro e
  unfold hasB at e
  rw [List.any_eq_true] at e
  obtain ⟨x, hx, e⟩ := e
  obtain ⟨j, hj⟩ := List.mem_iff_getElem?.1 hx
  have : x = s := by simpa using e
  subst this
  exact h j (List.getElem?_eq_some_iff.1 hj).1 hj
set_option maxHeartbeats 1000000 in
set_option maxRecDepth 100000 in
theorem has_any (a : Option Addr) (n c : Nat) (l : List ByteArray) (s : ByteArray) (w : World) (hN : Hid (Reads w (.slice a n c) l)) : Calls Try.prog 56 #[.slice a n c, .string s] w fun e w' => e = .returned (.bool (hasB l s)) ∧ Below w.heap.size w w' := by
  have hl := hN.out.len
  have hn := k_reads_n hN.out
  subst hn
  go_enter Try.func56, Try.ntmps56
  go_wp2_with fail
  go_loopw [5] (fun i wr => ∃ q : Nat, q ≤ l.length ∧ i = .int .i64 q ∧ Below w.heap.size w wr ∧ Hid (∀ j : Nat, j < q → l[j]? ≠ some s)) (fun i _ => l.length - (intOf i).toNat)
  case atStart => exact ⟨0, Nat.zero_le _, rfl, Below.refl _ w, hid_f (fun j h => by omega)⟩
  case round =>
    obtain ⟨q, hq, rfl, HB, hno⟩ := hrel
    by_cases hlt : q < l.length
    · have hd : decide ((q : Int) < (l.length : Int)) = true := by simp; omega
      obtain ⟨g, o, rfl, c1⟩ := k_reads_at hN.out hlt
      have n1 := stay HB c1
      obtain ⟨x, hx⟩ : ∃ x, Hid (l[q] = x) := ⟨_, hid_f rfl⟩
      rw [hx.out] at n1
      have i1 : (q : Int) < (l.length : Int) := by omega
      have i2 : (0 : Int) ≤ (q : Int) := by omega
      clear c1
      by_cases he : x = s
      · subst he
        have hb : (x.toList == x.toList) = true := by simp
        have hout : Hid (hasB l x = true) := hid_f (hasB_true (q := q) (by rw [List.getElem?_eq_getElem hlt, hx.out]))
        go_wp2_with fail
        go_ret
        exact ⟨by rw [hout.out]; rfl, HB⟩
      · have hb : (x.toList == s.toList) = false := by rw [toList_beq]; simpa using he
        go_wp2_with fail
        go_roundw
        case rel => exact ⟨q + 1, by omega, by simp, HB, hid_f (fun j hj => by
          by_cases ej : j = q
          · subst ej; rw [List.getElem?_eq_getElem hlt, hx.out]; simpa using he
          · exact hno.out j (by omega))⟩
        case measure => simp [intOf]; omega
    · have hd : decide ((q : Int) < (l.length : Int)) = false := by simp; omega
      have hout : Hid (hasB l s = false) := hid_f (hasB_false (fun j hj => hno.out j (by omega)))
      go_wp2_with fail
      go_ret
      exact ⟨by rw [hout.out]; rfl, HB⟩
theorem is_empty {s : ByteArray} (h : s.toList.isEmpty = true) : s = ⟨#[]⟩ := by
  apply Classical.byContradiction
  intro hn
  have : ¬ s.size = 0 := fun e => hn (ByteArray.ext (Array.eq_empty_of_size_eq_zero e))
  rw [not_empty this] at h
  cases h
/-- What plain looks at. -/
def PlainN (k x : Int) (s : ByteArray) (N M : Nat) : Prop := (k = 6 → x = 0 ∧ s = ⟨#[]⟩ ∧ N = M) ∧ (k = 5 → x = 0 ∧ s = ⟨#[]⟩ ∧ N = 0)
set_option maxHeartbeats 2000000 in
set_option maxRecDepth 100000 in
theorem plain_any (k x : Int) (s : ByteArray) (an : Option Addr) (N cn : Nat) (ai : Option Addr) (M ci : Nat) (w : World) : Calls Try.prog 54 #[.agg #[.int .i64 k, .int .i64 x, .string s, .slice an N cn, .slice ai M ci]] w fun e w' => (∃ z, e = .returned (.bool z) ∧ (z = true → PlainN k x s N M)) ∧ Below w.heap.size w w' := by
  have hB : ∀ o, Below w.heap.size w (w.alloc o) := fun o => (Below.refl _ w).alloc (Nat.le_refl _) o
  go_enter Try.func54, Try.ntmps54
  have hE : s.toList.isEmpty = true → s = ⟨#[]⟩ := is_empty
  replace hE := hid_f hE
  go_wp2
  all_goals go_ret
  all_goals refine ⟨⟨_, rfl, fun h => ?_⟩, hB _⟩
  all_goals unfold PlainN
  all_goals have hE' := hE.out
  all_goals first | (exfalso; simp at h; done) | (refine ⟨fun h6 => ?_, fun h5 => ?_⟩ <;> simp_all <;> omega)
  all_goals trace_state
end Go.Proofs.Ytmlbofbnklmedaa
