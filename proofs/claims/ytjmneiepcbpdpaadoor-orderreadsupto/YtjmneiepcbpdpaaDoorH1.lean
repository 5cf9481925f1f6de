import Derived.Test.YtjmneiepcbpdpaaDoorF5
/-! Plain facts: no key goes on another; values that lie alike are one; how long a key is. -/
namespace Go.Proofs.YtjmneiepcbpdpaaDoor
open Go Go.RowKit

theorem cmpB_nil : cmpB [] [] = 0 := by unfold cmpB; simp [Lib.compareBytes]
theorem cmpB_nl (y : UInt8) (m : List UInt8) : cmpB [] (y :: m) = -1 := by unfold cmpB; simp [Lib.compareBytes]
theorem cmpB_ln (x : UInt8) (l : List UInt8) : cmpB (x :: l) [] = 1 := by unfold cmpB; simp [Lib.compareBytes]
theorem cmpB_refl : ∀ l : List UInt8, cmpB l l = 0
  | [] => cmpB_nil
  | x :: l => by rw [cmpB_same, cmpB_refl l]
theorem both_eq_zero {a b : Int} (h : both a b = 0) : a = 0 ∧ b = 0 := by
  unfold both at h
  split at h
  · rename_i h1; exact absurd h h1
  · rename_i h1
    exact ⟨Decidable.of_not_not h1, h⟩
theorem cmpB_zero : ∀ a b : List UInt8, cmpB a b = 0 → a = b
  | [], [], _ => rfl
  | [], y :: m, h => by rw [cmpB_nl] at h; exact absurd h (by decide)
  | x :: l, [], h => by rw [cmpB_ln] at h; exact absurd h (by decide)
  | x :: l, y :: m, h => by
    rw [cmpB_cons] at h
    obtain ⟨h1, h2⟩ := both_eq_zero h
    have h3 := cmpI_zero h1
    have h4 : x = y := UInt8.toNat_inj.1 (by omega)
    rw [h4, cmpB_zero l m h2]
/-- No key is the beginning of another. -/
theorem key_free (a b : Tr) (ha : GoodK a) (hb : GoodK b) (z : List UInt8) (h : keyT b = keyT a ++ z) : z = [] := by
  have h1 := cmpB_T a b ha hb z []
  rw [List.append_nil, ← h, cmpB_refl] at h1
  obtain ⟨-, h2⟩ := both_eq_zero h1.symm
  exact cmpB_zero _ _ h2
theorem cmpS_zero {a b : ByteArray} (h : cmpS a b = 0) : a = b := by
  have h1 : a.data.toList = b.data.toList := cmpB_zero _ _ h
  have h2 : a.data = b.data := by rw [← Array.toArray_toList (xs := a.data), h1]
  cases a; cases b
  simpa using h2
theorem keeps_spec {k x : Int} {s : ByteArray} {n m : Nat} (h : keepsB k x s n m = true) : (x = 0 ∨ k = 3) ∧ (s = ⟨#[]⟩ ∨ k = 4) ∧ (n = 0 ∨ k = 6) ∧ (m = 0 ∨ k = 5 ∨ k = 6) := by
  unfold keepsB at h
  simp only [Bool.and_eq_true, Bool.or_eq_true, beq_iff_eq, decide_eq_true_eq] at h
  obtain ⟨⟨⟨h1, h2⟩, h3⟩, h4⟩ := h
  exact ⟨h1, h2, by rcases h3 with h | h <;> omega, by rcases h4 with h | h | h <;> omega⟩
theorem cmpL_same : (its its' : List Tr) → (∀ u ∈ its, ∀ v ∈ its', cmpT u v = 0 → u = v) → cmpL its its' = 0 → its = its'
  | [], [], _, _ => rfl
  | [], _ :: _, _, h => by rw [cmpL] at h; exact absurd h (by decide)
  | _ :: _, [], _, h => by rw [cmpL] at h; exact absurd h (by decide)
  | t :: ts, u :: us, ih, h => by
    rw [cmpL] at h
    split at h
    · rename_i h1; exact absurd h h1
    · rename_i h1
      rw [ih t (.head _) u (.head _) (Decidable.of_not_not h1), cmpL_same ts us (fun a ha b hb => ih a (.tail _ ha) b (.tail _ hb)) h]
theorem cmpM_same : (ns : List ByteArray) → (its : List Tr) → (ns' : List ByteArray) → (its' : List Tr) → ns.length = its.length → ns'.length = its'.length → (∀ u ∈ its, ∀ v ∈ its', cmpT u v = 0 → u = v) → cmpM ns its ns' its' = 0 → ns = ns' ∧ its = its'
  | [], [], [], [], _, _, _, _ => ⟨rfl, rfl⟩
  | [], [], n :: ns', t :: its', _, _, _, h => by
    rw [cmpM] at h
    · have := cmpI_zero h
      simp at this
      omega
    · intros; simp_all
  | n :: ns, t :: its, [], [], _, _, _, h => by
    rw [cmpM] at h
    · have := cmpI_zero h
      simp at this
      omega
    · intros; simp_all
  | n :: ns, t :: ts, m :: ms, u :: us, hl, hl', ih, h => by
    rw [cmpM] at h
    split at h
    · rename_i h1; exact absurd h h1
    split at h
    · rename_i h1 h2; exact absurd h h2
    · rename_i h1 h2
      obtain ⟨e1, e2⟩ := cmpM_same ns ts ms us (by simpa using hl) (by simpa using hl') (fun a ha b hb => ih a (.tail _ ha) b (.tail _ hb)) h
      rw [cmpS_zero (Decidable.of_not_not h1), ih t (.head _) u (.head _) (Decidable.of_not_not h2), e1, e2]
      exact ⟨rfl, rfl⟩
/-- Values that lie alike are one. -/
theorem cmpT_same (t : Tr) (u : Tr) (d d' : Nat) (h : checkT d t = 0) (h' : checkT d' u = 0) (hc : cmpT t u = 0) : t = u := by
  match t, u, h, h', hc with
  | .node k x s ns its, .node k' x' s' ns' its', h, h', hc =>
    obtain ⟨hci, -⟩ := check_items h
    obtain ⟨-, a2, a3, a4, -, a6⟩ := aloneT_ok (check_zero h).1
    obtain ⟨hci', -⟩ := check_items h'
    obtain ⟨-, b2, b3, b4, -, b6⟩ := aloneT_ok (check_zero h').1
    have sub : ∀ u ∈ its, ∀ v ∈ its', cmpT u v = 0 → u = v := fun u hu v hv e => by
      obtain ⟨i, hi⟩ := List.getElem?_of_mem hu
      have hlt : SizeOf.sizeOf u < SizeOf.sizeOf its := tr_lt hi
      exact cmpT_same u v (d + 1) (d' + 1) (hci u hu) (hci' v hv) e
    obtain ⟨c1, c2, c3, c4⟩ := keeps_spec a4
    obtain ⟨e1, e2, e3, e4⟩ := keeps_spec b4
    rw [cmpT] at hc
    split at hc
    · rename_i h1; exact absurd hc h1
    rename_i h1
    obtain rfl := rank_eq ⟨a2, a3⟩ ⟨b2, b3⟩ (Decidable.of_not_not h1)
    by_cases k3 : k = 3
    · rw [if_pos k3] at hc
      have e := cmpI_zero hc
      have f1 := c2.resolve_right (by omega)
      have f2 := e2.resolve_right (by omega)
      have f3 := List.eq_nil_of_length_eq_zero (c3.resolve_right (by omega))
      have f4 := List.eq_nil_of_length_eq_zero (e3.resolve_right (by omega))
      have f5 := List.eq_nil_of_length_eq_zero (c4.resolve_right (by omega))
      have f6 := List.eq_nil_of_length_eq_zero (e4.resolve_right (by omega))
      rw [e, f1, f2, f3, f4, f5, f6]
    rw [if_neg k3] at hc
    have g1 := c1.resolve_right k3
    have g2 := e1.resolve_right k3
    subst g1 g2
    by_cases k4 : k = 4
    · rw [if_pos k4] at hc
      have e := cmpS_zero hc
      have f3 := List.eq_nil_of_length_eq_zero (c3.resolve_right (by omega))
      have f4 := List.eq_nil_of_length_eq_zero (e3.resolve_right (by omega))
      have f5 := List.eq_nil_of_length_eq_zero (c4.resolve_right (by omega))
      have f6 := List.eq_nil_of_length_eq_zero (e4.resolve_right (by omega))
      rw [e, f3, f4, f5, f6]
    rw [if_neg k4] at hc
    have g3 := c2.resolve_right k4
    have g4 := e2.resolve_right k4
    subst g3 g4
    by_cases k6 : k = 6
    · rw [if_pos k6] at hc
      obtain ⟨e5, e6⟩ := cmpM_same ns its ns' its' (a6 k6) (b6 k6) sub hc
      rw [e5, e6]
    rw [if_neg k6] at hc
    have g5 := List.eq_nil_of_length_eq_zero (c3.resolve_right k6)
    have g6 := List.eq_nil_of_length_eq_zero (e3.resolve_right k6)
    subst g5 g6
    by_cases k5 : k = 5
    · rw [if_pos k5] at hc
      rw [cmpL_same its its' sub hc]
    have g7 := List.eq_nil_of_length_eq_zero (c4.resolve_right (by omega))
    have g8 := List.eq_nil_of_length_eq_zero (e4.resolve_right (by omega))
    rw [g7, g8]
termination_by SizeOf.sizeOf t
decreasing_by simp only [Tr.node.sizeOf_spec]; omega

def bulkN : List ByteArray → Nat
  | [] => 0
  | n :: ns => n.size + 1 + bulkN ns
mutual
/-- How many values and letters a value holds. -/
def bulkT : Tr → Nat
  | .node _ _ s ns its => s.size + bulkN ns + bulkL its + 1
def bulkL : List Tr → Nat
  | [] => 0
  | t :: ts => bulkT t + bulkL ts
end
theorem keyS_most (s : ByteArray) : (keyS s.data.toList).length ≤ 2 * s.size + 2 := by
  unfold keyS
  rw [List.length_append]
  have h1 := flat_len s.data.toList
  have h2 : s.data.toList.length = s.size := by rw [Array.length_toList]; rfl
  simp only [List.length_cons, List.length_nil]
  omega
mutual
theorem key_bulk : (t : Tr) → (keyT t).length + 1 ≤ 20 * bulkT t
  | .node k x s ns its => by
    have h1 := keyS_most s
    have h2 := kyL_bulk its
    have h3 := kyM_bulk ns its
    have h4 : (keyN x).length = 8 := by unfold keyN; rw [be_len]
    rw [keyT, bulkT, List.length_cons]
    split
    · omega
    split
    · omega
    split
    · omega
    split
    · omega
    · simp only [List.length_nil]; omega
theorem kyL_bulk : (l : List Tr) → (kyL l).length ≤ 1 + 20 * bulkL l
  | [] => by rw [kyL, bulkL]; simp
  | t :: ts => by
    have h1 := key_bulk t
    have h2 := kyL_bulk ts
    rw [kyL, bulkL, List.length_cons, List.length_append]
    omega
theorem kyM_bulk : (ns : List ByteArray) → (l : List Tr) → (kyM ns l).length ≤ 1 + 3 * bulkN ns + 20 * bulkL l
  | [], l => by rw [kyM]; · simp only [List.length_cons, List.length_nil]; omega
                · intros; simp_all
  | n :: ns, [] => by rw [kyM]; · simp only [List.length_cons, List.length_nil]; omega
                      · intros; simp_all
  | n :: ns, t :: ts => by
    have h1 := key_bulk t
    have h2 := kyM_bulk ns ts
    have h3 := keyS_most n
    rw [kyM, bulkL, bulkN, List.length_cons, List.length_append, List.length_append]
    omega
end
end Go.Proofs.YtjmneiepcbpdpaaDoor
