import Derived.Test.YtbhjbicbgmeboaaA5
/-! Lists of texts: texts, Path. -/
namespace Go.Proofs.Ytbhjbicbgmeboaa
open Go Go.RowKit
/-- The slice v reads as the texts l. -/
def Reads (w : World) (v : Value) (l : List ByteArray) : Prop :=
  ∃ a c, v = .slice a l.length c ∧ (l.length ≤ c ∧ c ≤ 9223372036854775807) ∧ (l = [] ∨ ∃ b o, a = some ⟨b, o, none⟩ ∧ b < w.heap.size ∧ ∀ j s, l[j]? = some s → w.cell? ⟨b, o + j, none⟩ = some (.string s))
theorem Reads.keep {w w' : World} {v : Value} {l : List ByteArray} (h : Reads w v l) (hb : Below w.heap.size w w') : Reads w' v l := by
  obtain ⟨a, c, rfl, hc, h | ⟨b, o, rfl, hlt, h⟩⟩ := h
  · exact ⟨a, c, rfl, hc, .inl h⟩
  · exact ⟨_, c, rfl, hc, .inr ⟨b, o, rfl, Nat.lt_of_lt_of_le hlt hb.size, fun j s hj => (hb.cell (p := ⟨b, o + j, none⟩) hlt).trans (h j s hj)⟩⟩
theorem Reads.len {w : World} {v : Value} {l : List ByteArray} (h : Reads w v l) : l.length ≤ 9223372036854775807 := by
  obtain ⟨_, _, _, hc, _⟩ := h
  omega
theorem Reads.drewN {w : World} {v : Value} {l : List ByteArray} (h : Reads w v l) (q : Nat) : Reads (w.drewN q) v l := h
theorem reads_row {w : World} {g cap : Nat} {cur : Array Value} {t : TypeId} {f : Nat × Nat} {l r : List ByteArray} (hh : w.heap[g]? = some (.cells cur t f)) (hl : l.length ≤ cap ∧ cap ≤ 9223372036854775807) (hr : cur.toList.take (l ++ r).length = strs (l ++ r)) : Reads w (.slice (some ⟨g, 0, none⟩) l.length cap) l := by
  refine ⟨_, cap, rfl, hl, .inr ⟨g, 0, rfl, (Array.getElem?_eq_some_iff.1 hh).1, fun j s hj => ?_⟩⟩
  have hlt : j < l.length := (List.getElem?_eq_some_iff.1 hj).1
  have : (strs (l ++ r))[j]? = some (.string s) := by
    unfold strs; rw [List.getElem?_map, List.getElem?_append_left hlt, hj]; rfl
  rw [← hr, List.getElem?_take_of_lt (by simp; omega), Array.getElem?_toList] at this
  simp [World.cell?, hh, this]
theorem reads_own {w : World} {lo : Nat} {v : Value} {l : List ByteArray} (h : w.ownsRow lo 9 1 v l.length (strs l)) : Reads w v l := by
  obtain ⟨h1, h2⟩ := h
  rcases h2 with ⟨hv, h0⟩ | ⟨g, cap, cur, rfl, hg, hh, hc, hm, hs, hr⟩
  · have : l = [] := List.eq_nil_of_length_eq_zero h0
    subst this
    subst hv
    exact ⟨none, 0, rfl, ⟨Nat.le_refl _, by omega⟩, .inl rfl⟩
  · exact reads_row (r := []) hh ⟨hc, by unfold maxLen at hm; omega⟩ (by simpa using hr)
/-- The same texts. -/
def same (a b : List ByteArray) : Bool := decide (a = b)
theorem same_false_len {a b : List ByteArray} (h : a.length ≠ b.length) : same a b = false := by
  unfold same; simp; intro e; exact h (by rw [e])
theorem same_true {a b : List ByteArray} (hl : a.length = b.length) (h : ∀ j, j < a.length → a[j]? = b[j]?) : same a b = true := by
  unfold same
  rw [decide_eq_true_eq]
  apply List.ext_getElem? 
  intro j
  by_cases hj : j < a.length
  · exact h j hj
  · rw [List.getElem?_eq_none (by omega), List.getElem?_eq_none (by omega)]
theorem same_false_at {a b : List ByteArray} {j : Nat} (h : a[j]? ≠ b[j]?) : same a b = false := by
  unfold same; simp; intro e; exact h (by rw [e])
set_option maxHeartbeats 2000000 in
set_option maxRecDepth 100000 in
theorem texts_any (va vb : Value) (a b : List ByteArray) (w : World) (hA : Reads w va a) (hB : Reads w vb b) (hla : a.length ≤ 9223372036854775806) (hlb : b.length ≤ 9223372036854775806) :
    Calls Try.prog 30 #[va, vb] w fun e w' => e = .returned (.bool (same a b)) ∧ ∃ q, w' = w.drewN q := by
  obtain ⟨aa, ca, rfl, hca, hA⟩ := hA
  obtain ⟨ab, cb, rfl, hcb, hB⟩ := hB
  by_cases hlen : a.length = b.length
  · have hd : (((a.length : Nat) : Int) == (b.length : Int)) = true := by simp; omega
    replace hlen : Hid (a.length = b.length) := hlen
    go_enter Try.func30, Try.ntmps30
    go_wp2
    go_loopw [5] (fun i wr => ∃ q m : Nat, q ≤ a.length ∧ i = .int .i64 q ∧ wr = w.drewN m ∧ Hid (∀ j, j < q → a[j]? = b[j]?)) (fun i _ => a.length - (intOf i).toNat)
    case atStart => exact ⟨0, 0, Nat.zero_le _, rfl, rfl, fun j h => by omega⟩
    case round =>
      obtain ⟨q, m, hq, rfl, rfl, hS⟩ := hrel
      by_cases hlt : q < a.length
      · have hd2 : decide ((q : Int) < (a.length : Int)) = true := by simp; omega
        rcases hA with rfl | ⟨b1, o1, rfl, hb1, hA⟩
        · simp at hlt
        rcases hB with rfl | ⟨b2, o2, rfl, hb2, hB⟩
        · have := hlen.out; simp at this; simp [this] at hlt
        have hlt2 : q < b.length := by have := hlen.out; omega
        obtain ⟨x, hx⟩ : ∃ x, Hid (a[q]? = some x) := ⟨_, List.getElem?_eq_getElem hlt⟩
        obtain ⟨y, hy⟩ : ∃ y, Hid (b[q]? = some y) := ⟨_, List.getElem?_eq_getElem (by have := hlen.out; omega)⟩
        have c1 : w.cell? ⟨b1, o1 + q, none⟩ = some (.string x) := hA q x hx.out
        have c2 : w.cell? ⟨b2, o2 + q, none⟩ = some (.string y) := hB q y hy.out
        clear hA hB
        by_cases e : x = y
        · have he : (x.toList == y.toList) = true := by rw [toList_beq]; simpa using e
          go_wp2
          go_region
          go_wp2
          go_roundw
          case rel => exact ⟨q + 1, m + 1, by omega, by simp, rfl, fun j h => by
            by_cases e2 : j = q
            · subst e2; rw [hx.out, hy.out, e]
            · exact hS.out j (by omega)⟩
          case measure => simp [intOf]; omega
        · have he : (x.toList == y.toList) = false := by rw [toList_beq]; simpa using e
          have hf : Hid (same a b = false) := same_false_at (j := q) (by rw [hx.out, hy.out]; simpa using e)
          go_wp2
          go_region
          go_wp2
          go_ret
          exact ⟨ret_bool hf.out.symm, m + 1, rfl⟩
      · have hd2 : decide ((q : Int) < (a.length : Int)) = false := by simp; omega
        have hf : Hid (same a b = true) := same_true hlen.out (fun j hj => hS.out j (by omega))
        go_wp2
        go_ret
        exact ⟨ret_bool hf.out.symm, m, rfl⟩
  · have hd : (((a.length : Nat) : Int) == (b.length : Int)) = false := by simp; omega
    have hf : Hid (same a b = false) := same_false_len hlen
    go_enter Try.func30, Try.ntmps30
    go_wp2
    go_ret
    exact ⟨ret_bool hf.out.symm, 0, rfl⟩
end Go.Proofs.Ytbhjbicbgmeboaa
