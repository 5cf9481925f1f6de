import Derived.Test.YthafhemlnninbaaGreatMG
/-! Stable sorting, plain: where a merge is cut in two; rotation; blocks. No program. -/
namespace Go.Stab
variable {α : Type}
theorem Up.get {lt : α → α → Bool} (S : Swo lt) : ∀ {l : List α} (_ : Up lt l) {i j : Nat} {x y : α}, i ≤ j → l[i]? = some x → l[j]? = some y → lt y x = false
  | [], _, i, j, x, y, _, h, _ => by simp at h
  | z :: l, hu, i, j, x, y, hij, hx, hy => by
    rcases j with _ | j
    · obtain rfl : i = 0 := by omega
      rw [hx] at hy
      cases hy
      exact S.irr _
    · rcases i with _ | i
      · simp at hx hy
        subst hx
        exact hu.1 y (List.mem_of_getElem? hy)
      · simp at hx hy
        exact hu.2.get S (by omega) hx hy
/-- y is not above y', y' is below x', x' is not above x: then y is below x. -/
theorem Swo.sand {lt : α → α → Bool} (S : Swo lt) {y y' x' x : α} (h1 : lt y' y = false) (h2 : lt y' x' = true) (h3 : lt x x' = false) : lt y x = true := by
  cases h : lt y x with
  | true => rfl
  | false => rw [S.neg y' x x' (S.neg y' y x h1 h) h3] at h2; cases h2
theorem mem_take_get {l : List α} {n : Nat} {x : α} (h : x ∈ l.take n) : ∃ i, i < n ∧ l[i]? = some x := by
  obtain ⟨i, hi⟩ := List.mem_iff_getElem?.1 h
  rw [List.getElem?_take] at hi
  split at hi
  · exact ⟨i, by omega, hi⟩
  · cases hi
theorem mem_drop_get {l : List α} {n : Nat} {x : α} (h : x ∈ l.drop n) : ∃ i, n ≤ i ∧ l[i]? = some x := by
  obtain ⟨i, hi⟩ := List.mem_iff_getElem?.1 h
  rw [List.getElem?_drop] at hi
  exact ⟨n + i, by omega, hi⟩
/-- Where a merge is cut: by the neighbours of the cut alone. -/
theorem merge_cut {lt : α → α → Bool} (S : Swo lt) {l r : List α} (hl : Up lt l) (hr : Up lt r) (p q : Nat)
    (h1 : ∀ x y, l[p]? = some x → 0 < q → r[q - 1]? = some y → lt y x = true) (h2 : ∀ x y, 0 < p → l[p - 1]? = some x → r[q]? = some y → lt y x = false) (hp : p ≤ l.length) (hq : q ≤ r.length) :
    mergeL lt l r = mergeL lt (l.take p) (r.take q) ++ mergeL lt (l.drop p) (r.drop q) := by
  have h := mergeL_split lt (l.take p) (r.take q) (l.drop p) (r.drop q) (fun y hy x hx => ?_) (fun x hx y hy => ?_)
  · rw [List.take_append_drop, List.take_append_drop] at h
    exact h
  · obtain ⟨i, hi, ey⟩ := mem_take_get hy
    obtain ⟨j, hj, ex⟩ := mem_drop_get hx
    have hjl := (List.getElem?_eq_some_iff.1 ex).1
    obtain ⟨x', ex'⟩ : ∃ x', l[p]? = some x' := ⟨l[p], List.getElem?_eq_getElem (by omega)⟩
    obtain ⟨y', ey'⟩ : ∃ y', r[q - 1]? = some y' := ⟨r[q - 1], List.getElem?_eq_getElem (by omega)⟩
    exact S.sand (hr.get S (by omega) ey ey') (h1 x' y' ex' (by omega) ey') (hl.get S hj ex' ex)
  · obtain ⟨i, hi, ex⟩ := mem_take_get hx
    obtain ⟨j, hj, ey⟩ := mem_drop_get hy
    have hjl := (List.getElem?_eq_some_iff.1 ey).1
    obtain ⟨x', ex'⟩ : ∃ x', l[p - 1]? = some x' := ⟨l[p - 1], List.getElem?_eq_getElem (by omega)⟩
    obtain ⟨y', ey'⟩ : ∃ y', r[q]? = some y' := ⟨r[q], List.getElem?_eq_getElem (by omega)⟩
    exact S.neg y x' x (S.neg y y' x' (hr.get S hj ey' ey) (h2 x' y' (by omega) ex' ey')) (hl.get S (by omega) ex ex')
/-- The search for the cut: what is below at one place is so at all behind it. -/
theorem cut_mono {lt : α → α → Bool} (S : Swo lt) {l r : List α} (hl : Up lt l) (hr : Up lt r) {c c' d d' : Nat} {x x' y y' : α} (hc : c ≤ c') (hd : d' ≤ d) (ex : l[c]? = some x) (ex' : l[c']? = some x') (ey : r[d]? = some y) (ey' : r[d']? = some y') (h : lt y x = true) : lt y' x' = true :=
  S.sand (hr.get S hd ey' ey) h (hl.get S hc ex ex')
/-- One element ahead: the place is found by its neighbours. -/
theorem one_cut {lt : α → α → Bool} (S : Swo lt) {x : α} {r : List α} (hr : Up lt r) (q : Nat) (hq : q ≤ r.length) (h1 : ∀ y, 0 < q → r[q - 1]? = some y → lt y x = true) (h2 : ∀ y, r[q]? = some y → lt y x = false) : mergeL lt [x] r = r.take q ++ x :: r.drop q := by
  have h := mergeL_one lt x (r.take q) (r.drop q) (fun y hy => ?_) (fun y hy => ?_)
  · rw [List.take_append_drop] at h
    exact h
  · obtain ⟨i, hi, ey⟩ := mem_take_get hy
    obtain ⟨y', ey'⟩ : ∃ y', r[q - 1]? = some y' := ⟨r[q - 1], List.getElem?_eq_getElem (by omega)⟩
    exact S.sand (hr.get S (by omega) ey ey') (h1 y' (by omega) ey') (S.irr x)
  · obtain ⟨j, hj, ey⟩ := mem_drop_get hy
    have hjl := (List.getElem?_eq_some_iff.1 ey).1
    obtain ⟨y', ey'⟩ : ∃ y', r[q]? = some y' := ⟨r[q], List.getElem?_eq_getElem (by omega)⟩
    exact S.neg y y' x (hr.get S hj ey' ey) (h2 y' ey')
/-- One element behind. -/
theorem last_cut {lt : α → α → Bool} (S : Swo lt) {y : α} {l : List α} (hl : Up lt l) (p : Nat) (hp : p ≤ l.length) (h1 : ∀ x, 0 < p → l[p - 1]? = some x → lt y x = false) (h2 : ∀ x, l[p]? = some x → lt y x = true) : mergeL lt l [y] = l.take p ++ y :: l.drop p := by
  have h := mergeL_last lt y (l.take p) (l.drop p) (fun x hx => ?_) (fun x hx => ?_)
  · rw [List.take_append_drop] at h
    exact h
  · obtain ⟨i, hi, ex⟩ := mem_take_get hx
    obtain ⟨x', ex'⟩ : ∃ x', l[p - 1]? = some x' := ⟨l[p - 1], List.getElem?_eq_getElem (by omega)⟩
    exact S.neg y x' x (h1 x' (by omega) ex') (hl.get S (by omega) ex ex')
  · obtain ⟨j, hj, ex⟩ := mem_drop_get hx
    have hjl := (List.getElem?_eq_some_iff.1 ex).1
    obtain ⟨x', ex'⟩ : ∃ x', l[p]? = some x' := ⟨l[p], List.getElem?_eq_getElem (by omega)⟩
    exact S.sand (S.irr y) (h2 x' ex') (hl.get S hj ex' ex)
/-- Blocks of s elements, each sorted. -/
def chunks (lt : α → α → Bool) (s : Nat) : Nat → List α → List α
  | 0, _ => []
  | f + 1, l => if l.length ≤ s then isort lt l else isort lt (l.take s) ++ chunks lt s f (l.drop s)
theorem chunks_short (lt : α → α → Bool) {s f : Nat} {l : List α} (h : l.length ≤ s) : chunks lt s (f + 1) l = isort lt l := by rw [chunks, if_pos h]
theorem chunks_long (lt : α → α → Bool) {s f : Nat} {l : List α} (h : s < l.length) : chunks lt s (f + 1) l = isort lt (l.take s) ++ chunks lt s f (l.drop s) := by rw [chunks, if_neg (by omega)]
theorem chunks_fuel (lt : α → α → Bool) {s : Nat} (hs : 0 < s) : ∀ (f g : Nat) (l : List α), l.length < f → l.length < g → chunks lt s f l = chunks lt s g l
  | 0, _, _, h, _ => by omega
  | _, 0, _, _, h => by omega
  | f + 1, g + 1, l, hf, hg => by
    by_cases h : l.length ≤ s
    · rw [chunks_short lt h, chunks_short lt h]
    · rw [chunks_long lt (by omega), chunks_long lt (by omega), chunks_fuel lt hs f g (l.drop s) (by simp; omega) (by simp; omega)]
/-- All blocks, with fuel enough. -/
def blocks (lt : α → α → Bool) (s : Nat) (l : List α) : List α := chunks lt s (l.length + 1) l
theorem blocks_short (lt : α → α → Bool) {s : Nat} {l : List α} (h : l.length ≤ s) : blocks lt s l = isort lt l := chunks_short lt h
theorem blocks_long (lt : α → α → Bool) {s : Nat} (hs : 0 < s) {l : List α} (h : s < l.length) : blocks lt s l = isort lt (l.take s) ++ blocks lt s (l.drop s) := by
  unfold blocks
  rw [chunks_long lt h, chunks_fuel lt hs l.length ((l.drop s).length + 1) (l.drop s) (by simp; omega) (by omega)]
theorem blocks_length (lt : α → α → Bool) {s : Nat} (hs : 0 < s) : ∀ (n : Nat) (l : List α), l.length ≤ n → (blocks lt s l).length = l.length
  | 0, l, h => by rw [blocks_short lt (by omega), isort_length]
  | n + 1, l, h => by
    by_cases hl : l.length ≤ s
    · rw [blocks_short lt hl, isort_length]
    · rw [blocks_long lt hs (by omega), List.length_append, isort_length, blocks_length lt hs n (l.drop s) (by simp; omega)]
      simp
      omega
/-- Two blocks merged are one of twice the size. -/
theorem blocks_twice {lt : α → α → Bool} (S : Swo lt) {s : Nat} {l : List α} : mergeL lt (isort lt (l.take s)) (isort lt ((l.drop s).take s)) = isort lt (l.take (2 * s)) := by
  rw [← isort_append S]
  congr 1
  have : l.take (2 * s) = (l.take (2 * s)).take s ++ (l.take (2 * s)).drop s := (List.take_append_drop s _).symm
  rw [this, List.take_take, List.drop_take]
  congr 1
  · congr 1; omega
  · congr 1; omega
theorem blocks_rest {lt : α → α → Bool} (S : Swo lt) {s : Nat} {l : List α} : mergeL lt (isort lt (l.take s)) (isort lt (l.drop s)) = isort lt l := by
  rw [← isort_append S, List.take_append_drop]
end Go.Stab
