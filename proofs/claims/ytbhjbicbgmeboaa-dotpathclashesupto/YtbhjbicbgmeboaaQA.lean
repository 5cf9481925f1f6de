import Derived.Test.YtbhjbicbgmeboaaA7
/-! Paths that clash; a tree that holds paths of which none clashes with another. -/
namespace Go.Proofs.Ytbhjbicbgmeboaa
open Go Go.RowKit

abbrev Pth := List ByteArray
/-- Two paths clash: one begins the other. -/
def clP (a b : Pth) : Prop := a <+: b ∨ b <+: a
theorem clP_symm {a b : Pth} (h : clP a b) : clP b a := h.symm
/-- The tree's nodes are the beginnings P; E tells of each whether a path ends there, and whether one goes on. -/
structure Inv (L : List Pth) (cur : Pth) (P : List Pth) (E : List (Bool × Bool)) : Prop where
  zero : P[0]? = some []
  nodup : P.Nodup
  len : E.length = P.length
  ends : ∀ (i : Nat) a e, P[i]? = some a → E[i]? = some e → (e.1 = true ↔ a ∈ L)
  leads : ∀ (i : Nat) a e, P[i]? = some a → E[i]? = some e → (e.2 = true ↔ ∃ s, a ++ [s] ∈ P)
  src : ∀ a ∈ P, a = [] ∨ (∃ q ∈ L, a <+: q) ∨ a <+: cur
  closed : ∀ q ∈ L, ∀ a, a <+: q → a ∈ P
  own : ∀ a, a <+: cur → a ∈ P
theorem inv_init : Inv [] [] [[]] [(false, false)] where
  zero := rfl
  nodup := by simp
  len := rfl
  ends := fun i a e h h2 => by
    cases i with
    | zero => simp at h h2; subst h; subst h2; simp
    | succ i => simp at h
  leads := fun i a e h h2 => by
    cases i with
    | zero => simp at h h2; subst h; subst h2; simp
    | succ i => simp at h
  src := by simp
  closed := by simp
  own := by simp
theorem nodup_at {α : Type} {l : List α} (h : l.Nodup) {i j : Nat} {a : α} (hi : l[i]? = some a) (hj : l[j]? = some a) : i = j := by
  obtain ⟨h1, h2⟩ := List.getElem?_eq_some_iff.1 hi
  obtain ⟨h3, h4⟩ := List.getElem?_eq_some_iff.1 hj
  rcases Nat.lt_trichotomy i j with hl | hl | hl
  · exact absurd (h2.trans h4.symm) (List.pairwise_iff_getElem.1 h i j h1 h3 hl)
  · exact hl
  · exact absurd (h4.trans h2.symm) (List.pairwise_iff_getElem.1 h j i h3 h1 hl)
theorem pre_snoc {a c : Pth} {s : ByteArray} (h : a <+: c ++ [s]) : a = c ++ [s] ∨ a <+: c := by
  rcases List.prefix_concat_iff.1 (by simpa using h) with h | h
  · exact .inl (by simpa using h)
  · exact .inr h
theorem snoc_not {c : Pth} {s : ByteArray} (h : c ++ [s] <+: c) : False := by
  have := h.length_le
  simp at this
  omega
theorem Inv.old {L : List Pth} {cur : Pth} {P : List Pth} {E : List (Bool × Bool)} (h : Inv L cur P E) {s : ByteArray} (hj : cur ++ [s] ∈ P) : Inv L (cur ++ [s]) P E :=
  { h with
    src := fun a ha => by
      rcases h.src a ha with h1 | h1 | h1
      · exact .inl h1
      · exact .inr (.inl h1)
      · exact .inr (.inr (h1.trans (List.prefix_append _ _)))
    own := fun a ha => by
      rcases pre_snoc ha with rfl | h1
      · exact hj
      · exact h.own a h1 }
theorem Inv.new {L : List Pth} {cur : Pth} {P : List Pth} {E : List (Bool × Bool)} (h : Inv L cur P E) {s : ByteArray} {i : Nat} {e : Bool × Bool} (hi : P[i]? = some cur) (he : E[i]? = some e) (hn : cur ++ [s] ∉ P) : Inv L (cur ++ [s]) (P ++ [cur ++ [s]]) (E.set i (e.1, true) ++ [(false, false)]) := by
  have hil : i < P.length := (List.getElem?_eq_some_iff.1 hi).1
  have hnL : cur ++ [s] ∉ L := fun hL => hn (h.closed _ hL _ (List.prefix_refl _))
  have hkid : ∀ u, cur ++ [s] ++ [u] ∉ P ++ [cur ++ [s]] := fun u hu => by
    rcases List.mem_append.1 hu with hu | hu
    · rcases h.src _ hu with h1 | ⟨q, hq, h1⟩ | h1
      · simp at h1
      · exact hn (h.closed q hq _ ((List.prefix_append _ _).trans h1))
      · have := h1.length_le; simp at this; omega
    · have := congrArg List.length (List.mem_singleton.1 hu)
      simp at this
  have hnth : ∀ (j : Nat) a e', (P ++ [cur ++ [s]])[j]? = some a → (E.set i (e.1, true) ++ [(false, false)])[j]? = some e' → (j = P.length ∧ a = cur ++ [s] ∧ e' = (false, false)) ∨ (j = i ∧ a = cur ∧ e' = (e.1, true)) ∨ (j ≠ i ∧ P[j]? = some a ∧ E[j]? = some e') := fun j a e' hj hj2 => by
    by_cases hjl : j < P.length
    · rw [List.getElem?_append_left hjl] at hj
      rw [List.getElem?_append_left (by simp [h.len, hjl])] at hj2
      by_cases hji : j = i
      · subst hji
        rw [hi] at hj
        rw [List.getElem?_set_self (by rw [h.len]; exact hjl)] at hj2
        cases hj; cases hj2
        exact .inr (.inl ⟨rfl, rfl, rfl⟩)
      · rw [List.getElem?_set_ne (fun h => hji h.symm)] at hj2
        exact .inr (.inr ⟨hji, hj, hj2⟩)
    · have hlt := (List.getElem?_eq_some_iff.1 hj).1
      simp at hlt
      have : j = P.length := by omega
      subst this
      simp at hj
      rw [List.getElem?_append_right (by simp [h.len])] at hj2
      simp [h.len] at hj2
      exact .inl ⟨rfl, hj.symm, hj2.symm⟩
  refine ⟨?_, ?_, ?_, ?_, ?_, ?_, ?_, ?_⟩
  · rw [List.getElem?_append_left (by omega)]; exact h.zero
  · rw [List.nodup_append]
    refine ⟨h.nodup, by simp, fun a ha b hb => ?_⟩
    rw [List.mem_singleton] at hb
    subst hb
    intro e; subst e; exact hn ha
  · simp [h.len]
  · intro j a e' hj hj2
    rcases hnth j a e' hj hj2 with ⟨_, rfl, rfl⟩ | ⟨rfl, rfl, rfl⟩ | ⟨_, h1, h2⟩
    · simp [hnL]
    · exact h.ends _ _ e hi he
    · exact h.ends _ _ _ h1 h2
  · intro j a e' hj hj2
    rcases hnth j a e' hj hj2 with ⟨_, rfl, rfl⟩ | ⟨rfl, rfl, rfl⟩ | ⟨hne, h1, h2⟩
    · simp only [Bool.false_eq_true, false_iff, not_exists]
      exact hkid
    · simp only [true_iff]
      exact ⟨s, by simp⟩
    · rw [h.leads _ _ _ h1 h2]
      constructor
      · rintro ⟨u, hu⟩; exact ⟨u, List.mem_append_left _ hu⟩
      · rintro ⟨u, hu⟩
        rcases List.mem_append.1 hu with hu | hu
        · exact ⟨u, hu⟩
        · obtain ⟨ha, _⟩ := List.append_inj' (List.mem_singleton.1 hu) rfl
          subst ha
          exact absurd (nodup_at h.nodup h1 hi) hne
  · intro a ha
    rcases List.mem_append.1 ha with ha | ha
    · rcases h.src a ha with h1 | h1 | h1
      · exact .inl h1
      · exact .inr (.inl h1)
      · exact .inr (.inr (h1.trans (List.prefix_append _ _)))
    · rw [List.mem_singleton] at ha
      subst ha
      exact .inr (.inr (List.prefix_refl _))
  · exact fun q hq a ha => List.mem_append_left _ (h.closed q hq a ha)
  · intro a ha
    rcases pre_snoc ha with rfl | h1
    · simp
    · exact List.mem_append_left _ (h.own a h1)
theorem Inv.fin {L : List Pth} {p : Pth} {P : List Pth} {E : List (Bool × Bool)} (h : Inv L p P E) {i : Nat} (hi : P[i]? = some p) (he : E[i]? = some (false, false)) : Inv (p :: L) [] P (E.set i (true, false)) := by
  have hil : i < P.length := (List.getElem?_eq_some_iff.1 hi).1
  have hnth : ∀ (j : Nat) a e', P[j]? = some a → (E.set i (true, false))[j]? = some e' → (j = i ∧ a = p ∧ e' = (true, false)) ∨ (j ≠ i ∧ a ≠ p ∧ E[j]? = some e') := fun j a e' hj hj2 => by
    by_cases hji : j = i
    · subst hji
      rw [hi] at hj
      rw [List.getElem?_set_self (by rw [h.len]; exact hil)] at hj2
      cases hj; cases hj2
      exact .inl ⟨rfl, rfl, rfl⟩
    · rw [List.getElem?_set_ne (fun h => hji h.symm)] at hj2
      exact .inr ⟨hji, fun e => hji (nodup_at h.nodup hj (e ▸ hi)), hj2⟩
  refine ⟨h.zero, h.nodup, by simp [h.len], ?_, ?_, ?_, ?_, ?_⟩
  · intro j a e' hj hj2
    rcases hnth j a e' hj hj2 with ⟨rfl, rfl, rfl⟩ | ⟨h1, h2, h3⟩
    · simp
    · rw [h.ends j a e' hj h3]; simp [h2]
  · intro j a e' hj hj2
    rcases hnth j a e' hj hj2 with ⟨rfl, rfl, rfl⟩ | ⟨h1, h2, h3⟩
    · exact h.leads j _ (false, false) hi he
    · exact h.leads j a e' hj h3
  · intro a ha
    rcases h.src a ha with h1 | ⟨q, hq, h1⟩ | h1
    · exact .inl h1
    · exact .inr (.inl ⟨q, List.mem_cons_of_mem _ hq, h1⟩)
    · exact .inr (.inl ⟨p, by simp, h1⟩)
  · intro q hq a ha
    rcases List.mem_cons.1 hq with rfl | hq
    · exact h.own a ha
    · exact h.closed q hq a ha
  · intro a ha
    have : a = [] := List.prefix_nil.1 ha
    subst this
    exact List.mem_of_getElem? h.zero
/-- What the end of a path tells. -/
theorem Inv.hit {L : List Pth} {p : Pth} {P : List Pth} {E : List (Bool × Bool)} (h : Inv L p P E) {i : Nat} {e : Bool × Bool} (hi : P[i]? = some p) (he : E[i]? = some e) (hc : e.1 = true ∨ e.2 = true) : ∃ q ∈ L, clP p q := by
  rcases hc with hc | hc
  · exact ⟨p, (h.ends i p e hi he).1 hc, .inl (List.prefix_refl _)⟩
  · obtain ⟨s, hs⟩ := (h.leads i p e hi he).1 hc
    rcases h.src _ hs with h1 | ⟨q, hq, h1⟩ | h1
    · simp at h1
    · exact ⟨q, hq, .inl ((List.prefix_append _ _).trans h1)⟩
    · exact absurd h1 snoc_not
theorem Inv.miss {L : List Pth} {p : Pth} {P : List Pth} {E : List (Bool × Bool)} (h : Inv L p P E) {i : Nat} {e : Bool × Bool} (hi : P[i]? = some p) (he : E[i]? = some e) (h1 : e.1 = false) (h2 : e.2 = false) (hw : ∀ j, j < p.length → p.take j ∉ L) : ∀ q ∈ L, ¬ clP p q := by
  intro q hq hc
  have hpL : p ∉ L := fun hp => by
    have := (h.ends i p e hi he).2 hp
    rw [h1] at this; cases this
  rcases hc with hc | hc
  · obtain ⟨r, rfl⟩ := hc
    cases r with
    | nil => rw [List.append_nil] at hq; exact hpL hq
    | cons s r =>
      have : p ++ [s] ∈ P := h.closed _ hq _ ⟨r, by simp⟩
      have := (h.leads i p e hi he).2 ⟨s, this⟩
      rw [h2] at this; cases this
  · have hle := hc.length_le
    have hq2 : q = p.take q.length := List.prefix_iff_eq_take.1 hc
    by_cases hl : q.length < p.length
    · exact hw _ hl (hq2 ▸ hq)
    · have : q = p := hc.eq_of_length (by omega)
      exact hpL (this ▸ hq)
/-- What Clashes tells of the paths l. -/
def Found (l : List Pth) (n : Nat) (ok : Bool) : Prop :=
  (ok = true ∧ n < l.length ∧ (∃ k, k < n ∧ clP (l.getD n []) (l.getD k [])) ∧ ∀ m, m < n → ∀ k, k < m → ¬ clP (l.getD m []) (l.getD k [])) ∨ (ok = false ∧ n = 0 ∧ ∀ m, m < l.length → ∀ k, k < m → ¬ clP (l.getD m []) (l.getD k []))
theorem found_one {l : List Pth} {n m : Nat} {a b : Bool} (h : Found l n a) (h' : Found l m b) : n = m ∧ a = b := by
  rcases h with ⟨rfl, h1, ⟨k, h2, h3⟩, h4⟩ | ⟨rfl, rfl, h4⟩
  · rcases h' with ⟨rfl, g1, ⟨j, g2, g3⟩, g4⟩ | ⟨rfl, rfl, g4⟩
    · refine ⟨?_, rfl⟩
      rcases Nat.lt_trichotomy n m with hl | hl | hl
      · exact absurd h3 (g4 n hl k h2)
      · exact hl
      · exact absurd g3 (h4 m hl j g2)
    · exact absurd h3 (g4 n h1 k h2)
  · rcases h' with ⟨rfl, g1, ⟨j, g2, g3⟩, g4⟩ | ⟨rfl, rfl, g4⟩
    · exact absurd g3 (h4 m g1 j g2)
    · exact ⟨rfl, rfl⟩
/-- As a bool. -/
def clB (a b : Pth) : Bool := decide (a.take (min a.length b.length) = b.take (min a.length b.length))
theorem clB_iff {a b : Pth} : clB a b = true ↔ clP a b := by
  unfold clB clP
  rw [decide_eq_true_eq]
  rcases Nat.le_total a.length b.length with hl | hl
  · rw [Nat.min_eq_left hl, List.take_length]
    constructor
    · intro h; exact .inl (List.prefix_iff_eq_take.2 h)
    · rintro (h | h)
      · exact List.prefix_iff_eq_take.1 h
      · have := h.length_le
        have : b = a := h.eq_of_length (by omega)
        subst this
        simp
  · rw [Nat.min_eq_right hl, List.take_length]
    constructor
    · intro h; exact .inr (List.prefix_iff_eq_take.2 h.symm)
    · rintro (h | h)
      · have := h.length_le
        have : a = b := h.eq_of_length (by omega)
        subst this
        simp
      · exact (List.prefix_iff_eq_take.1 h).symm
theorem clB_false {a b : Pth} (h : clB a b = false) : ¬ clP a b := fun hc => by
  rw [clB_iff.2 hc] at h; cases h
end Go.Proofs.Ytbhjbicbgmeboaa
