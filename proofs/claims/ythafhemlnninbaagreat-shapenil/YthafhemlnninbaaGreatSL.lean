import Derived.Test.YthafhemlnninbaaGreatSA
/-! Sorting by taking the first least: the same as sorting by insertion. No program. -/
namespace Go.Stab
variable {α : Type}
theorem mergeL_head {lt : α → α → Bool} {x : α} {r : List α} : ∀ {l : List α}, (∀ a ∈ l, lt x a = true) → mergeL lt l (x :: r) = x :: mergeL lt l r
  | [], _ => by rw [nil_mergeL, nil_mergeL]
  | a :: l, h => by rw [mergeL_cons, h a (by simp), if_pos rfl]
theorem isort_first {lt : α → α → Bool} (S : Swo lt) {A B : List α} {x : α} (h1 : ∀ a ∈ A, lt x a = true) (h2 : ∀ b ∈ B, lt b x = false) : isort lt (A ++ x :: B) = x :: isort lt (A ++ B) := by
  have e1 : isort lt (x :: B) = x :: isort lt B := by
    have := isort_append S [x] B
    rw [List.singleton_append] at this
    rw [this, show isort lt [x] = [x] by simp [isort, mergeL]]
    exact mergeL_one lt x [] (isort lt B) (fun y h => by cases h) (fun y h => h2 y ((isort_perm lt B).mem_iff.1 h))
  rw [isort_append S, e1, isort_append S, mergeL_head (fun a h => h1 a ((isort_perm lt A).mem_iff.1 h))]
/-- The first least of the first i. -/
structure Fst (lt : α → α → Bool) (l : List α) (p i : Nat) : Prop where
  pi : p < i
  il : i ≤ l.length
  low : ∀ j x y, j < p → l[j]? = some y → l[p]? = some x → lt x y = true
  high : ∀ j x y, p < j → j < i → l[j]? = some y → l[p]? = some x → lt y x = false
theorem Fst.one {lt : α → α → Bool} {l : List α} (h : 0 < l.length) : Fst lt l 0 1 := ⟨by omega, by omega, fun j _ _ h => by omega, fun j _ _ h h' => by omega⟩
theorem Fst.next {lt : α → α → Bool} (S : Swo lt) {l : List α} {p i : Nat} {x y : α} (h : Fst lt l p i) (hy : l[i]? = some y) (hx : l[p]? = some x) (hlt : lt y x = true) : Fst lt l i (i + 1) := by
  have hi := (List.getElem?_eq_some_iff.1 hy).1
  refine ⟨by omega, by omega, fun j x' y' hj hy' hx' => ?_, fun j _ _ h h' => by omega⟩
  rw [hy] at hx'
  cases hx'
  rcases Nat.lt_trichotomy j p with h1 | h1 | h1
  · exact S.tr _ _ _ hlt (h.low j x y' h1 hy' hx)
  · subst h1
    rw [hx] at hy'
    cases hy'
    exact hlt
  · have h2 := h.high j x y' h1 hj hy' hx
    cases h3 : lt y y' with
    | true => rfl
    | false => rw [S.neg _ _ _ h3 h2] at hlt; cases hlt
theorem Fst.stay {lt : α → α → Bool} {l : List α} {p i : Nat} {x y : α} (h : Fst lt l p i) (hy : l[i]? = some y) (hx : l[p]? = some x) (hlt : lt y x = false) : Fst lt l p (i + 1) := by
  have hi := (List.getElem?_eq_some_iff.1 hy).1
  refine ⟨by have := h.pi; omega, by omega, h.low, fun j x' y' h1 h2 hy' hx' => ?_⟩
  rcases Nat.lt_or_ge j i with h3 | h3
  · exact h.high j x' y' h1 h3 hy' hx'
  · obtain rfl : j = i := by omega
    rw [hy] at hy'; rw [hx] at hx'
    cases hy'; cases hx'
    exact hlt
theorem Fst.done {lt : α → α → Bool} (S : Swo lt) {l : List α} {p : Nat} {x : α} (h : Fst lt l p l.length) (hx : l[p]? = some x) : isort lt l = x :: isort lt (l.take p ++ l.drop (p + 1)) := by
  have hp := (List.getElem?_eq_some_iff.1 hx).1
  have e : l = l.take p ++ x :: l.drop (p + 1) := by
    have h1 := (List.take_append_drop p l).symm
    rw [List.drop_eq_getElem_cons hp, (List.getElem?_eq_some_iff.1 hx).2] at h1
    exact h1
  have h2 : isort lt (l.take p ++ x :: l.drop (p + 1)) = x :: isort lt (l.take p ++ l.drop (p + 1)) := by
    refine isort_first S (fun a ha => ?_) (fun b hb => ?_)
    · obtain ⟨j, hj⟩ := List.mem_iff_getElem?.1 ha
      have hjl := (List.getElem?_eq_some_iff.1 hj).1
      rw [List.length_take] at hjl
      rw [List.getElem?_take_of_lt (by omega)] at hj
      exact h.low j x a (by omega) hj hx
    · obtain ⟨j, hj⟩ := List.mem_iff_getElem?.1 hb
      rw [List.getElem?_drop] at hj
      have hjl := (List.getElem?_eq_some_iff.1 hj).1
      exact h.high (p + 1 + j) x b (by omega) hjl hj hx
  rw [← e] at h2
  exact h2
end Go.Stab
