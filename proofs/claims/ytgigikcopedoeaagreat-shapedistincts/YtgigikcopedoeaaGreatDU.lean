import Derived.Below
import Derived.Test.YtgigikcopedoeaaGreatProg
import Derived.WalkKit
import Derived.WalkLawsBesides
import Derived.Outline
import Derived.Deep.QuietTactic
import Derived.BigQuiet
import Derived.BigRegion
import Derived.Deep.MidRow
import Derived.Deep.RegionLaw
import Derived.Deep.RegionHeld3
import Derived.Deep.CutRange
import Derived.Deep.OwnRows
import Derived.LoopN
/-! Stable sorting, plain: merging, the sort by insertion, and that merging in halves is the same. No program. -/
namespace Go.Stab
variable {α : Type}
/-- A strict weak order, as a test. -/
structure Swo (lt : α → α → Bool) : Prop where
  irr : ∀ x, lt x x = false
  tr : ∀ x y z, lt x y = true → lt y z = true → lt x z = true
  neg : ∀ x y z, lt x y = false → lt y z = false → lt x z = false
/-- Two lists as one: what is alike comes out of the first one first. -/
def mergeL (lt : α → α → Bool) : List α → List α → List α
  | [], r => r
  | x :: l, [] => x :: l
  | x :: l, y :: r => if lt y x then y :: mergeL lt (x :: l) r else x :: mergeL lt l (y :: r)
termination_by l r => l.length + r.length
theorem mergeL_nil (lt : α → α → Bool) (l : List α) : mergeL lt l [] = l := by cases l <;> simp [mergeL]
theorem nil_mergeL (lt : α → α → Bool) (r : List α) : mergeL lt [] r = r := by simp [mergeL]
theorem mergeL_cons (lt : α → α → Bool) (x y : α) (l r : List α) : mergeL lt (x :: l) (y :: r) = if lt y x then y :: mergeL lt (x :: l) r else x :: mergeL lt l (y :: r) := by rw [mergeL]
theorem mergeL_length (lt : α → α → Bool) : ∀ (l r : List α), (mergeL lt l r).length = l.length + r.length
  | [], r => by simp [nil_mergeL]
  | x :: l, [] => by simp [mergeL_nil]
  | x :: l, y :: r => by
    rw [mergeL_cons]
    split
    · simp [mergeL_length lt (x :: l) r]; omega
    · simp [mergeL_length lt l (y :: r)]; omega
termination_by l r => l.length + r.length
theorem mergeL_perm (lt : α → α → Bool) : ∀ (l r : List α), (mergeL lt l r).Perm (l ++ r)
  | [], r => by simp [nil_mergeL]
  | x :: l, [] => by simp [mergeL_nil]
  | x :: l, y :: r => by
    rw [mergeL_cons]
    split
    · exact ((mergeL_perm lt (x :: l) r).cons y).trans (List.perm_middle (a := y) (l₁ := x :: l) (l₂ := r)).symm
    · exact (mergeL_perm lt l (y :: r)).cons x
termination_by l r => l.length + r.length
theorem mergeL_mem (lt : α → α → Bool) (l r : List α) (z : α) : z ∈ mergeL lt l r ↔ z ∈ l ∨ z ∈ r := by rw [(mergeL_perm lt l r).mem_iff, List.mem_append]
/-- A merge falls into two where all of one end of the right part is below all of the other end of the left one, and so on: no sorting is asked. -/
theorem mergeL_split (lt : α → α → Bool) : ∀ (l1 r1 l2 r2 : List α), (∀ y ∈ r1, ∀ x ∈ l2, lt y x = true) → (∀ x ∈ l1, ∀ y ∈ r2, lt y x = false) → mergeL lt (l1 ++ l2) (r1 ++ r2) = mergeL lt l1 r1 ++ mergeL lt l2 r2
  | [], [], l2, r2, _, _ => by simp [nil_mergeL]
  | [], y :: r1, l2, r2, h1, h2 => by
    have ih := mergeL_split lt [] r1 l2 r2 (fun y' hy' => h1 y' (List.mem_cons_of_mem _ hy')) h2
    rw [nil_mergeL] at ih ⊢
    cases l2 with
    | nil => simp [nil_mergeL]
    | cons x l2 =>
      simp only [List.nil_append, List.cons_append] at ih ⊢
      rw [mergeL_cons, if_pos (h1 y (List.mem_cons_self ..) x (List.mem_cons_self ..)), ih]
  | x :: l1, [], l2, r2, h1, h2 => by
    have ih := mergeL_split lt l1 [] l2 r2 h1 (fun x' hx' => h2 x' (List.mem_cons_of_mem _ hx'))
    rw [mergeL_nil] at ih ⊢
    cases r2 with
    | nil => simp [mergeL_nil]
    | cons y r2 =>
      simp only [List.nil_append, List.cons_append] at ih ⊢
      rw [mergeL_cons, h2 x (List.mem_cons_self ..) y (List.mem_cons_self ..), if_neg (by simp), ih]
  | x :: l1, y :: r1, l2, r2, h1, h2 => by
    simp only [List.cons_append]
    rw [mergeL_cons, mergeL_cons]
    split
    · have ih := mergeL_split lt (x :: l1) r1 l2 r2 (fun y' hy' => h1 y' (List.mem_cons_of_mem _ hy')) h2
      simp only [List.cons_append] at ih
      rw [ih, List.cons_append]
    · have ih := mergeL_split lt l1 (y :: r1) l2 r2 h1 (fun x' hx' => h2 x' (List.mem_cons_of_mem _ hx'))
      simp only [List.cons_append] at ih
      rw [ih, List.cons_append]
termination_by l1 r1 => l1.length + r1.length
/-- One ahead of the others goes in behind those that are below it. -/
theorem mergeL_one (lt : α → α → Bool) (x : α) (r1 r2 : List α) (h1 : ∀ y ∈ r1, lt y x = true) (h2 : ∀ y ∈ r2, lt y x = false) : mergeL lt [x] (r1 ++ r2) = r1 ++ x :: r2 := by
  have h := mergeL_split lt [] r1 [x] r2 (fun y hy x' hx' => by simp at hx'; subst hx'; exact h1 y hy) (fun x' hx' => by cases hx')
  rw [List.nil_append] at h
  rw [h, nil_mergeL]
  cases r2 with
  | nil => simp [mergeL_nil]
  | cons y r2 => rw [mergeL_cons, h2 y (List.mem_cons_self ..), if_neg (by simp), nil_mergeL]
/-- One behind the others goes in ahead of those that are above it. -/
theorem mergeL_last (lt : α → α → Bool) (y : α) (l1 l2 : List α) (h1 : ∀ x ∈ l1, lt y x = false) (h2 : ∀ x ∈ l2, lt y x = true) : mergeL lt (l1 ++ l2) [y] = l1 ++ y :: l2 := by
  have h := mergeL_split lt l1 [] l2 [y] (fun y' hy' => by cases hy') (fun x hx y' hy' => by simp at hy'; subst hy'; exact h1 x hx)
  rw [List.nil_append] at h
  rw [h, mergeL_nil]
  cases l2 with
  | nil => simp [nil_mergeL]
  | cons x l2 => rw [mergeL_cons, h2 x (List.mem_cons_self ..), if_pos rfl, mergeL_nil]
/-- None is below one that stands ahead of it. -/
def Up (lt : α → α → Bool) : List α → Prop
  | [] => True
  | x :: l => (∀ y ∈ l, lt y x = false) ∧ Up lt l
theorem Up.append {lt : α → α → Bool} : ∀ {l r : List α}, Up lt (l ++ r) → Up lt l ∧ Up lt r ∧ ∀ x ∈ l, ∀ y ∈ r, lt y x = false
  | [], r, h => ⟨trivial, h, fun x hx => by cases hx⟩
  | z :: l, r, h => by
    obtain ⟨h1, h2, h3⟩ := Up.append (l := l) (r := r) h.2
    refine ⟨⟨fun y hy => h.1 y (List.mem_append_left _ hy), h1⟩, h2, fun x hx y hy => ?_⟩
    rcases List.mem_cons.1 hx with rfl | hx
    · exact h.1 y (List.mem_append_right _ hy)
    · exact h3 x hx y hy
theorem Up.mk {lt : α → α → Bool} : ∀ {l r : List α}, Up lt l → Up lt r → (∀ x ∈ l, ∀ y ∈ r, lt y x = false) → Up lt (l ++ r)
  | [], _, _, h, _ => h
  | z :: l, r, h1, h2, h3 => ⟨fun y hy => by
      rcases List.mem_append.1 hy with hy | hy
      · exact h1.1 y hy
      · exact h3 z (List.mem_cons_self ..) y hy, Up.mk h1.2 h2 (fun x hx => h3 x (List.mem_cons_of_mem _ hx))⟩
theorem mergeL_up {lt : α → α → Bool} (S : Swo lt) : ∀ (l r : List α), Up lt l → Up lt r → Up lt (mergeL lt l r)
  | [], r, _, h => by rw [nil_mergeL]; exact h
  | x :: l, [], h, _ => by rw [mergeL_nil]; exact h
  | x :: l, y :: r, h1, h2 => by
    rw [mergeL_cons]
    split
    · rename_i hlt
      refine ⟨fun z hz => ?_, mergeL_up S (x :: l) r h1 h2.2⟩
      rcases (mergeL_mem lt _ _ z).1 hz with hz | hz
      · have hzx : lt z x = false := by
          rcases List.mem_cons.1 hz with rfl | hz
          · exact S.irr _
          · exact h1.1 z hz
        cases hzy : lt z y with
        | false => rfl
        | true => rw [S.tr z y x hzy hlt] at hzx; cases hzx
      · exact h2.1 z hz
    · rename_i hlt
      refine ⟨fun z hz => ?_, mergeL_up S l (y :: r) h1.2 h2⟩
      have hyx : lt y x = false := by simpa using hlt
      rcases (mergeL_mem lt _ _ z).1 hz with hz | hz
      · exact h1.1 z hz
      · rcases List.mem_cons.1 hz with rfl | hz
        · exact hyx
        · exact S.neg z y x (h2.1 z hz) hyx
termination_by l r => l.length + r.length
/-- Merging goes on. -/
theorem mergeL_assoc {lt : α → α → Bool} (S : Swo lt) : ∀ (a b c : List α), Up lt a → Up lt b → Up lt c → mergeL lt (mergeL lt a b) c = mergeL lt a (mergeL lt b c)
  | [], b, c, _, _, _ => by rw [nil_mergeL, nil_mergeL]
  | x :: a, [], c, _, _, _ => by rw [mergeL_nil, nil_mergeL]
  | x :: a, y :: b, [], _, _, _ => by rw [mergeL_nil, mergeL_nil]
  | x :: a, y :: b, z :: c, ha, hb, hc => by
    by_cases hyx : lt y x = true
    · by_cases hzy : lt z y = true
      · have hzx := S.tr z y x hzy hyx
        have ih := mergeL_assoc S (x :: a) (y :: b) c ha hb hc.2
        rw [mergeL_cons lt x y, if_pos hyx] at ih
        rw [mergeL_cons lt x y, if_pos hyx, mergeL_cons lt y z, if_pos hzy, mergeL_cons lt y z b c, if_pos hzy, mergeL_cons lt x z, if_pos hzx, ih]
      · have ih := mergeL_assoc S (x :: a) b (z :: c) ha hb.2 hc
        rw [mergeL_cons lt x y, if_pos hyx, mergeL_cons lt y z, if_neg hzy, mergeL_cons lt y z b c, if_neg hzy, mergeL_cons lt x y, if_pos hyx, ih]
    · have hyx' : lt y x = false := by simpa using hyx
      by_cases hzy : lt z y = true
      · by_cases hzx : lt z x = true
        · have ih := mergeL_assoc S (x :: a) (y :: b) c ha hb hc.2
          rw [mergeL_cons lt x y, if_neg hyx] at ih
          rw [mergeL_cons lt x y, if_neg hyx, mergeL_cons lt x z, if_pos hzx, mergeL_cons lt y z b c, if_pos hzy, mergeL_cons lt x z, if_pos hzx, ih]
        · have ih := mergeL_assoc S a (y :: b) (z :: c) ha.2 hb hc
          rw [mergeL_cons lt y z b c, if_pos hzy] at ih
          rw [mergeL_cons lt x y, if_neg hyx, mergeL_cons lt x z, if_neg hzx, mergeL_cons lt y z b c, if_pos hzy, mergeL_cons lt x z, if_neg hzx, ih]
      · have hzx : ¬ lt z x = true := by
          have := S.neg z y x (by simpa using hzy) hyx'
          simp [this]
        have ih := mergeL_assoc S a (y :: b) (z :: c) ha.2 hb hc
        rw [mergeL_cons lt y z b c, if_neg hzy] at ih
        rw [mergeL_cons lt x y, if_neg hyx, mergeL_cons lt x z, if_neg hzx, mergeL_cons lt y z b c, if_neg hzy, mergeL_cons lt x y, if_neg hyx, ih]
termination_by a b c => a.length + b.length + c.length
/-- The sort by insertion: each one goes in behind what is not above it. -/
def isort (lt : α → α → Bool) (l : List α) : List α := l.foldl (fun s y => mergeL lt s [y]) []
theorem isort_snoc (lt : α → α → Bool) (l : List α) (y : α) : isort lt (l ++ [y]) = mergeL lt (isort lt l) [y] := by simp [isort, List.foldl_append]
theorem isort_up {lt : α → α → Bool} (S : Swo lt) (l : List α) : Up lt (isort lt l) := by
  have h : ∀ (n : Nat) (l : List α), l.length = n → Up lt (isort lt l) := by
    intro n
    induction n with
    | zero => intro l hl; rw [List.eq_nil_of_length_eq_zero hl]; trivial
    | succ n ih =>
      intro l hl
      rcases List.eq_nil_or_concat l with rfl | ⟨l', y, rfl⟩
      · trivial
      · simp only [List.concat_eq_append] at hl ⊢
        rw [isort_snoc]
        exact mergeL_up S _ _ (ih l' (by simp at hl; omega)) ⟨(fun _ h => by cases h), trivial⟩
  exact h _ l rfl
/-- Sorted apart and merged is sorted at once. -/
theorem isort_append {lt : α → α → Bool} (S : Swo lt) (l r : List α) : isort lt (l ++ r) = mergeL lt (isort lt l) (isort lt r) := by
  have h : ∀ (n : Nat) (r : List α), r.length = n → isort lt (l ++ r) = mergeL lt (isort lt l) (isort lt r) := by
    intro n
    induction n with
    | zero => intro r hr; rw [List.eq_nil_of_length_eq_zero hr, List.append_nil]; exact (mergeL_nil lt _).symm
    | succ n ih =>
      intro r hr
      rcases List.eq_nil_or_concat r with rfl | ⟨r', y, rfl⟩
      · simp at hr
      · simp only [List.concat_eq_append] at hr ⊢
        rw [← List.append_assoc, isort_snoc, isort_snoc, ih r' (by simp at hr; omega)]
        exact mergeL_assoc S _ _ _ (isort_up S l) (isort_up S r') ⟨(fun _ h => by cases h), trivial⟩
  exact h _ r rfl
theorem isort_perm (lt : α → α → Bool) (l : List α) : (isort lt l).Perm l := by
  have h : ∀ (n : Nat) (l : List α), l.length = n → (isort lt l).Perm l := by
    intro n
    induction n with
    | zero => intro l hl; rw [List.eq_nil_of_length_eq_zero hl]; exact List.Perm.refl _
    | succ n ih =>
      intro l hl
      rcases List.eq_nil_or_concat l with rfl | ⟨l', y, rfl⟩
      · exact List.Perm.refl _
      · simp only [List.concat_eq_append] at hl ⊢
        rw [isort_snoc]
        exact (mergeL_perm lt _ _).trans ((ih l' (by simp at hl; omega)).append_right _)
  exact h _ l rfl
theorem isort_length (lt : α → α → Bool) (l : List α) : (isort lt l).length = l.length := (isort_perm lt l).length_eq
/-- What is sorted stays. -/
theorem isort_same {lt : α → α → Bool} : ∀ (l : List α), Up lt l → isort lt l = l := fun l => by
  have h : ∀ (n : Nat) (l : List α), l.length = n → Up lt l → isort lt l = l := by
    intro n
    induction n with
    | zero => intro l hl _; rw [List.eq_nil_of_length_eq_zero hl]; rfl
    | succ n ih =>
      intro l hl hu
      rcases List.eq_nil_or_concat l with rfl | ⟨l', y, rfl⟩
      · rfl
      · simp only [List.concat_eq_append] at hl hu ⊢
        obtain ⟨u1, -, u3⟩ := hu.append
        rw [isort_snoc, ih l' (by simp at hl; omega) u1]
        have := mergeL_last lt y l' [] (fun x hx => u3 x hx y (by simp)) (fun x hx => by cases hx)
        simpa using this
  exact h _ l rfl
end Go.Stab
/-! Stable sorting, plain: where a merge is cut in two; rotation; blocks. No program. -/
namespace Go.Stab
variable {α : Type}
theorem Up.get {lt : α → α → Bool} (S : Swo lt) : ∀ {l : List α} (_ : Up lt l) {i j : Nat} {x y : α}, i ≤ j → l[i]? = some x → l[j]? = some y → lt y x = false
  | [], _, i, j, x, y, _, h, _ => by simp at h
  | z :: l, hu, i, j, x, y, hij, hx, hy => by
    rcases j with _ | j
    · obtain rfl : i = 0 := by omega
      rw [hx] at hy
      cases hy
      exact S.irr _
    · rcases i with _ | i
      · simp at hx hy
        subst hx
        exact hu.1 y (List.mem_of_getElem? hy)
      · simp at hx hy
        exact hu.2.get S (by omega) hx hy
/-- y is not above y', y' is below x', x' is not above x: then y is below x. -/
theorem Swo.sand {lt : α → α → Bool} (S : Swo lt) {y y' x' x : α} (h1 : lt y' y = false) (h2 : lt y' x' = true) (h3 : lt x x' = false) : lt y x = true := by
  cases h : lt y x with
  | true => rfl
  | false => rw [S.neg y' x x' (S.neg y' y x h1 h) h3] at h2; cases h2
theorem mem_take_get {l : List α} {n : Nat} {x : α} (h : x ∈ l.take n) : ∃ i, i < n ∧ l[i]? = some x := by
  obtain ⟨i, hi⟩ := List.mem_iff_getElem?.1 h
  rw [List.getElem?_take] at hi
  split at hi
  · exact ⟨i, by omega, hi⟩
  · cases hi
theorem mem_drop_get {l : List α} {n : Nat} {x : α} (h : x ∈ l.drop n) : ∃ i, n ≤ i ∧ l[i]? = some x := by
  obtain ⟨i, hi⟩ := List.mem_iff_getElem?.1 h
  rw [List.getElem?_drop] at hi
  exact ⟨n + i, by omega, hi⟩
/-- Where a merge is cut: by the neighbours of the cut alone. -/
theorem merge_cut {lt : α → α → Bool} (S : Swo lt) {l r : List α} (hl : Up lt l) (hr : Up lt r) (p q : Nat)
    (h1 : ∀ x y, l[p]? = some x → 0 < q → r[q - 1]? = some y → lt y x = true) (h2 : ∀ x y, 0 < p → l[p - 1]? = some x → r[q]? = some y → lt y x = false) (hp : p ≤ l.length) (hq : q ≤ r.length) :
    mergeL lt l r = mergeL lt (l.take p) (r.take q) ++ mergeL lt (l.drop p) (r.drop q) := by
  have h := mergeL_split lt (l.take p) (r.take q) (l.drop p) (r.drop q) (fun y hy x hx => ?_) (fun x hx y hy => ?_)
  · rw [List.take_append_drop, List.take_append_drop] at h
    exact h
  · obtain ⟨i, hi, ey⟩ := mem_take_get hy
    obtain ⟨j, hj, ex⟩ := mem_drop_get hx
    have hjl := (List.getElem?_eq_some_iff.1 ex).1
    obtain ⟨x', ex'⟩ : ∃ x', l[p]? = some x' := ⟨l[p], List.getElem?_eq_getElem (by omega)⟩
    obtain ⟨y', ey'⟩ : ∃ y', r[q - 1]? = some y' := ⟨r[q - 1], List.getElem?_eq_getElem (by omega)⟩
    exact S.sand (hr.get S (by omega) ey ey') (h1 x' y' ex' (by omega) ey') (hl.get S hj ex' ex)
  · obtain ⟨i, hi, ex⟩ := mem_take_get hx
    obtain ⟨j, hj, ey⟩ := mem_drop_get hy
    have hjl := (List.getElem?_eq_some_iff.1 ey).1
    obtain ⟨x', ex'⟩ : ∃ x', l[p - 1]? = some x' := ⟨l[p - 1], List.getElem?_eq_getElem (by omega)⟩
    obtain ⟨y', ey'⟩ : ∃ y', r[q]? = some y' := ⟨r[q], List.getElem?_eq_getElem (by omega)⟩
    exact S.neg y x' x (S.neg y y' x' (hr.get S hj ey' ey) (h2 x' y' (by omega) ex' ey')) (hl.get S (by omega) ex ex')
/-- The search for the cut: what is below at one place is so at all behind it. -/
theorem cut_mono {lt : α → α → Bool} (S : Swo lt) {l r : List α} (hl : Up lt l) (hr : Up lt r) {c c' d d' : Nat} {x x' y y' : α} (hc : c ≤ c') (hd : d' ≤ d) (ex : l[c]? = some x) (ex' : l[c']? = some x') (ey : r[d]? = some y) (ey' : r[d']? = some y') (h : lt y x = true) : lt y' x' = true :=
  S.sand (hr.get S hd ey' ey) h (hl.get S hc ex ex')
/-- One element ahead: the place is found by its neighbours. -/
theorem one_cut {lt : α → α → Bool} (S : Swo lt) {x : α} {r : List α} (hr : Up lt r) (q : Nat) (hq : q ≤ r.length) (h1 : ∀ y, 0 < q → r[q - 1]? = some y → lt y x = true) (h2 : ∀ y, r[q]? = some y → lt y x = false) : mergeL lt [x] r = r.take q ++ x :: r.drop q := by
  have h := mergeL_one lt x (r.take q) (r.drop q) (fun y hy => ?_) (fun y hy => ?_)
  · rw [List.take_append_drop] at h
    exact h
  · obtain ⟨i, hi, ey⟩ := mem_take_get hy
    obtain ⟨y', ey'⟩ : ∃ y', r[q - 1]? = some y' := ⟨r[q - 1], List.getElem?_eq_getElem (by omega)⟩
    exact S.sand (hr.get S (by omega) ey ey') (h1 y' (by omega) ey') (S.irr x)
  · obtain ⟨j, hj, ey⟩ := mem_drop_get hy
    have hjl := (List.getElem?_eq_some_iff.1 ey).1
    obtain ⟨y', ey'⟩ : ∃ y', r[q]? = some y' := ⟨r[q], List.getElem?_eq_getElem (by omega)⟩
    exact S.neg y y' x (hr.get S hj ey' ey) (h2 y' ey')
/-- One element behind. -/
theorem last_cut {lt : α → α → Bool} (S : Swo lt) {y : α} {l : List α} (hl : Up lt l) (p : Nat) (hp : p ≤ l.length) (h1 : ∀ x, 0 < p → l[p - 1]? = some x → lt y x = false) (h2 : ∀ x, l[p]? = some x → lt y x = true) : mergeL lt l [y] = l.take p ++ y :: l.drop p := by
  have h := mergeL_last lt y (l.take p) (l.drop p) (fun x hx => ?_) (fun x hx => ?_)
  · rw [List.take_append_drop] at h
    exact h
  · obtain ⟨i, hi, ex⟩ := mem_take_get hx
    obtain ⟨x', ex'⟩ : ∃ x', l[p - 1]? = some x' := ⟨l[p - 1], List.getElem?_eq_getElem (by omega)⟩
    exact S.neg y x' x (h1 x' (by omega) ex') (hl.get S (by omega) ex ex')
  · obtain ⟨j, hj, ex⟩ := mem_drop_get hx
    have hjl := (List.getElem?_eq_some_iff.1 ex).1
    obtain ⟨x', ex'⟩ : ∃ x', l[p]? = some x' := ⟨l[p], List.getElem?_eq_getElem (by omega)⟩
    exact S.sand (S.irr y) (h2 x' ex') (hl.get S hj ex' ex)
/-- Blocks of s elements, each sorted. -/
def chunks (lt : α → α → Bool) (s : Nat) : Nat → List α → List α
  | 0, _ => []
  | f + 1, l => if l.length ≤ s then isort lt l else isort lt (l.take s) ++ chunks lt s f (l.drop s)
theorem chunks_short (lt : α → α → Bool) {s f : Nat} {l : List α} (h : l.length ≤ s) : chunks lt s (f + 1) l = isort lt l := by rw [chunks, if_pos h]
theorem chunks_long (lt : α → α → Bool) {s f : Nat} {l : List α} (h : s < l.length) : chunks lt s (f + 1) l = isort lt (l.take s) ++ chunks lt s f (l.drop s) := by rw [chunks, if_neg (by omega)]
theorem chunks_fuel (lt : α → α → Bool) {s : Nat} (hs : 0 < s) : ∀ (f g : Nat) (l : List α), l.length < f → l.length < g → chunks lt s f l = chunks lt s g l
  | 0, _, _, h, _ => by omega
  | _, 0, _, _, h => by omega
  | f + 1, g + 1, l, hf, hg => by
    by_cases h : l.length ≤ s
    · rw [chunks_short lt h, chunks_short lt h]
    · rw [chunks_long lt (by omega), chunks_long lt (by omega), chunks_fuel lt hs f g (l.drop s) (by simp; omega) (by simp; omega)]
/-- All blocks, with fuel enough. -/
def blocks (lt : α → α → Bool) (s : Nat) (l : List α) : List α := chunks lt s (l.length + 1) l
theorem blocks_short (lt : α → α → Bool) {s : Nat} {l : List α} (h : l.length ≤ s) : blocks lt s l = isort lt l := chunks_short lt h
theorem blocks_long (lt : α → α → Bool) {s : Nat} (hs : 0 < s) {l : List α} (h : s < l.length) : blocks lt s l = isort lt (l.take s) ++ blocks lt s (l.drop s) := by
  unfold blocks
  rw [chunks_long lt h, chunks_fuel lt hs l.length ((l.drop s).length + 1) (l.drop s) (by simp; omega) (by omega)]
theorem blocks_length (lt : α → α → Bool) {s : Nat} (hs : 0 < s) : ∀ (n : Nat) (l : List α), l.length ≤ n → (blocks lt s l).length = l.length
  | 0, l, h => by rw [blocks_short lt (by omega), isort_length]
  | n + 1, l, h => by
    by_cases hl : l.length ≤ s
    · rw [blocks_short lt hl, isort_length]
    · rw [blocks_long lt hs (by omega), List.length_append, isort_length, blocks_length lt hs n (l.drop s) (by simp; omega)]
      simp
      omega
/-- Two blocks merged are one of twice the size. -/
theorem blocks_twice {lt : α → α → Bool} (S : Swo lt) {s : Nat} {l : List α} : mergeL lt (isort lt (l.take s)) (isort lt ((l.drop s).take s)) = isort lt (l.take (2 * s)) := by
  rw [← isort_append S]
  congr 1
  have : l.take (2 * s) = (l.take (2 * s)).take s ++ (l.take (2 * s)).drop s := (List.take_append_drop s _).symm
  rw [this, List.take_take, List.drop_take]
  congr 1
  · congr 1; omega
  · congr 1; omega
theorem blocks_rest {lt : α → α → Bool} (S : Swo lt) {s : Nat} {l : List α} : mergeL lt (isort lt (l.take s)) (isort lt (l.drop s)) = isort lt l := by
  rw [← isort_append S, List.take_append_drop]
end Go.Stab
/-! Stable sorting over memory: rows of elements of 5 cells; swapRange. -/
namespace Go.Proofs.YtgigikcopedoeaaGreat.SortedV
open Go Go.RowKit Go.Stab
theorem hid_of {p : Prop} (h : p) : Hid p := h
/-- All that was there is as it was, but for the block b. -/
structure But (b : Nat) (w w' : World) : Prop where
  os : w'.os = w.os
  tape : w'.tape = w.tape
  output : w'.output = w.output
  size : w.heap.size ≤ w'.heap.size
  block : ∀ k, k < w.heap.size → k ≠ b → w'.heap[k]? = w.heap[k]?
  shape : ∀ cur t f, w.heap[b]? = some (.cells cur t f) → ∃ cur', w'.heap[b]? = some (.cells cur' t f) ∧ cur'.size = cur.size
theorem But.refl (b : Nat) (w : World) : But b w w := ⟨rfl, rfl, rfl, Nat.le_refl _, fun _ _ _ => rfl, fun cur _ _ h => ⟨cur, h, rfl⟩⟩
theorem But.trans {b : Nat} {x y z : World} (h : But b x y) (k : But b y z) : But b x z :=
  ⟨k.os.trans h.os, k.tape.trans h.tape, k.output.trans h.output, Nat.le_trans h.size k.size, fun i hi hb => (k.block i (Nat.lt_of_lt_of_le hi h.size) hb).trans (h.block i hi hb), fun cur t f hc => by
    obtain ⟨c1, h1, s1⟩ := h.shape cur t f hc
    obtain ⟨c2, h2, s2⟩ := k.shape c1 t f h1
    exact ⟨c2, h2, s2.trans s1⟩⟩
theorem But.of_below {b : Nat} {w w' : World} (h : Below w.heap.size w w') : But b w w' := ⟨h.os, h.tape, h.output, h.size, fun k hk _ => h.block k hk, fun cur _ _ hc => ⟨cur, (h.block b (Array.getElem?_eq_some_iff.1 hc).1).trans hc, rfl⟩⟩
theorem But.drew {b : Nat} {x w : World} (h : But b x w) : But b x w.drew := ⟨h.os, h.tape, h.output, h.size, h.block, h.shape⟩
theorem setCells_but (b : Nat) : (vs : List Value) → (o : Nat) → (w : World) → But b w (w.setCells b o vs)
  | [], _, w => But.refl b w
  | v :: vs, o, w => by
    rw [World.setCells]
    have h : But b w (w.setCell ⟨b, o, none⟩ v) := ⟨rfl, rfl, rfl, by simp, fun k _ hk => Below.heap_setCell _ _ _ _ hk, fun cur t f hc => ⟨cur.setIfInBounds o v, by simp [World.setCell, Array.getElem?_modify, hc], by simp⟩⟩
    exact h.trans (setCells_but b vs (o + 1) _)
section
variable {α : Type}
/-- How an element lies in memory: 5 cells. -/
structure Enc (enc : α → Array Value) : Prop where
  size : ∀ x, (enc x).size = 5
  one : ∀ x, (enc x).all (·.oneCell') = true
/-- The elements D lie in block b. -/
def RowE (enc : α → Array Value) (w : World) (b : Nat) (D : List α) : Prop := ∀ j x, D[j]? = some x → w.rangeAt b (j * 5) (enc x).toList ∧ w.there b (j * 5) 5
variable {enc : α → Array Value}
theorem RowE.drew {w : World} {b : Nat} {D : List α} (h : RowE enc w b D) : RowE enc w.drew b D := fun j x hx => ⟨by simpa using (h j x hx).1, by simpa using (h j x hx).2⟩
theorem RowE.keep {w w' : World} {b : Nat} {D : List α} (h : RowE enc w b D) (hb : w'.heap[b]? = w.heap[b]?) : RowE enc w' b D := fun j x hx => by
  obtain ⟨h1, h2⟩ := h j x hx
  refine ⟨fun i v hv => (World.cell?_of_block hb).trans (h1 i v hv), fun i hi => ?_⟩
  obtain ⟨a1, a2⟩ := h2 i hi
  have hf : w'.frozen? ⟨b, j * 5 + i, none⟩ = w.frozen? ⟨b, j * 5 + i, none⟩ := by simp [World.frozen?, hb]
  exact ⟨by rw [World.cell?_of_block hb]; exact a1, hf.trans a2⟩
/-- An element is stored. -/
theorem RowE.set (E : Enc enc) {w : World} {b : Nat} {D : List α} (h : RowE enc w b D) {j : Nat} (hj : j < D.length) (y : α) : RowE enc (w.setCells b (j * 5) (enc y).toList) b (D.set j y) := fun i x hx => by
  have hys : (enc y).toList.length = 5 := by simp [E.size]
  obtain ⟨-, ht⟩ := h j _ (List.getElem?_eq_getElem hj)
  by_cases hij : i = j
  · subst hij
    rw [List.getElem?_set_self (by omega)] at hx
    cases hx
    exact ⟨World.rangeAt_setCells_same w b (i * 5) _ (by rw [hys]; exact ht), World.there_setCells ht b _ _⟩
  · rw [List.getElem?_set_ne (by omega)] at hx
    obtain ⟨h1, h2⟩ := h i x hx
    have hxs : (enc x).toList.length = 5 := by simp [E.size]
    refine ⟨World.rangeAt_setCells_apart h1 b (j * 5) _ ?_, World.there_setCells h2 b _ _⟩
    rw [hxs, hys]
    omega
/-- What the loop of swapRange has done behind i rounds. -/
def swapL (D : List α) (a c : Nat) : Nat → List α
  | 0 => D
  | i + 1 => match D[a + i]?, D[c + i]? with
    | some x, some y => ((swapL D a c i).set (a + i) y).set (c + i) x
    | _, _ => swapL D a c i
theorem swapL_length (D : List α) (a c : Nat) : ∀ i, (swapL D a c i).length = D.length
  | 0 => rfl
  | i + 1 => by
    unfold swapL
    split
    · simp [swapL_length D a c i]
    · exact swapL_length D a c i
theorem swapL_ahead (D : List α) (a c : Nat) : ∀ (i j : Nat), i ≤ j → a + j < c ∨ c + i ≤ a + j → (swapL D a c i)[a + j]? = D[a + j]?
  | 0, _, _, _ => rfl
  | i + 1, j, hij, hc => by
    unfold swapL
    split
    · rw [List.getElem?_set_ne (by omega), List.getElem?_set_ne (by omega)]
      exact swapL_ahead D a c i j (by omega) (by omega)
    · exact swapL_ahead D a c i j (by omega) (by omega)
theorem swapL_behind (D : List α) (a c : Nat) : ∀ (i j : Nat), i ≤ j → a + i ≤ c + j → (swapL D a c i)[c + j]? = D[c + j]?
  | 0, _, _, _ => rfl
  | i + 1, j, hij, hc => by
    unfold swapL
    split
    · rw [List.getElem?_set_ne (by omega), List.getElem?_set_ne (by omega)]
      exact swapL_behind D a c i j (by omega) (by omega)
    · exact swapL_behind D a c i j (by omega) (by omega)
end
section
variable {P : Program}
/-- A load of several cells at a step of a region that draws its order. -/
theorem step_load_mid {ops : Array Oper} {o : Oper} {a : Act} {w : World} {K : Act → World → Prop} {Q : Exit → Act → World → Prop} {F : Prop} (hgd : o.guard = none) (ty : TypeId) (x : Operand) (ho : o.op = .load ty x)
    (b off : Nat) (hx : a.eval x = .pointer (some ⟨b, off, none⟩)) (cs : List Value) (d : TypeDesc) (hc : w.rangeAt b off cs)
    (hu : P.underlying ty = some d) (hd : d.isRow = true) (hi : (P.info? ty).map (·.size) = some cs.length)
    (h : K (a.put o.dst (.agg cs.toArray)) w) : if Region.wanted o (yielded ops a.tmps) = true then Oper.wp P o a w K Q else F := by
  have hw : Region.wanted o (yielded ops a.tmps) = true := by simp [Region.wanted, hgd]
  rw [if_pos hw]
  exact wp_load_mid ty x ho b off hx cs d hc hu hd hi h
theorem step_store_mid {ops : Array Oper} {o : Oper} {a : Act} {w : World} {K : Act → World → Prop} {Q : Exit → Act → World → Prop} {F : Prop} (hgd : o.guard = none) (ty : TypeId) (x y : Operand) (ho : o.op = .store ty x y)
    (b off : Nat) (cells : Array Value) (hx : a.eval x = .pointer (some ⟨b, off, none⟩)) (hy : a.eval y = .agg cells)
    (ht : w.there b off cells.size) (hi : (P.info? ty).map (·.size) = some cells.size) (h1 : cells.all (·.oneCell') = true)
    (h : K (a.put o.dst undef) (w.setCells b off cells.toList)) : if Region.wanted o (yielded ops a.tmps) = true then Oper.wp P o a w K Q else F := by
  have hw : Region.wanted o (yielded ops a.tmps) = true := by simp [Region.wanted, hgd]
  rw [if_pos hw]
  exact wp_store_mid ty x y ho b off cells hx hy ht hi h1 h
end
theorem item_u : Tryz.prog.underlying 25 = some (Tryz.prog.underlying 25).get! := by kernel_rfl
theorem item_r : ((Tryz.prog.underlying 25).get!).isRow = true := by kernel_rfl
theorem item_i : (Tryz.prog.info? 25).map (·.size) = some 5 := by kernel_rfl
end Go.Proofs.YtgigikcopedoeaaGreat.SortedV
/-! Stable sorting over memory: swapRange. -/
namespace Go.Proofs.YtgigikcopedoeaaGreat.SortedV
open Go Go.RowKit Go.Stab
theorem wrap_in {n : Int} (h0 : 0 ≤ n) (h1 : n ≤ 9223372036854775807) : IntKind.i64.wrap n = n := by rw [IntKind.wrap_i64]; omega
theorem seven {a : Array Value} (h : a.size = 5) : ∃ x0 x1 x2 x3 x4, a = #[x0, x1, x2, x3, x4] := by
  obtain ⟨l⟩ := a
  simp at h
  match l, h with
  | [x0, x1, x2, x3, x4], _ => exact ⟨x0, x1, x2, x3, x4, rfl⟩
theorem run_st (w : World) (p : Addr) (v : Value) (h1 : v.oneCell' = true) (h2 : (w.cell? p).isSome = true) (h3 : w.frozen? p = false) : (store p v).run Tryz.prog w = .ok () (w.setCell p v) := by
  obtain ⟨u, hu⟩ := Option.isSome_iff_exists.1 h2
  rw [run_store Tryz.prog w p v _ h1, hu]
  simp [h3]
section
variable {α : Type} {enc : α → Array Value}
set_option maxRecDepth 100000 in
set_option maxHeartbeats 4000000 in
theorem swapRange_any (E : Enc enc) (D : List α) (b n cap a c m : Nat) (cmp : Value) (w : World) (hR : RowE enc w b D) (hn : D.length = n) (hac : a + m ≤ c) (hcm : c + m ≤ n) (hnn : n ≤ 4611686018427387904) :
    Calls Tryz.prog 138 #[.slice (some ⟨b, 0, none⟩) n cap, .int .i64 a, .int .i64 c, .int .i64 m, cmp] w fun e w' => e = .returned (.tuple #[]) ∧ RowE enc w' b (swapL D a c m) ∧ But b w w' := by
  replace hR := hid_of hR
  replace hn := hid_of hn
  go_enter Tryz.func138, Tryz.ntmps138
  go_wp2_with fail
  go_loopw [10] (fun iv wr => ∃ i : Nat, iv = .int .i64 i ∧ i ≤ m ∧ Hid (RowE enc wr b (swapL D a c i)) ∧ Hid (But b w wr)) (fun iv _ => m - (intOf iv).toNat)
  case atStart => exact ⟨0, rfl, Nat.zero_le _, hR, hid_of (But.refl b w)⟩
  case round =>
    obtain ⟨i, rfl, him, hRi, hBi⟩ := hrel
    by_cases hi : i < m
    · have i1 : (i : Int) < (m : Int) := by omega
      obtain ⟨x, hx⟩ : ∃ x, Hid (D[a + i]? = some x) := ⟨D[a + i]'(by have := hn.out; omega), List.getElem?_eq_getElem (by have := hn.out; omega)⟩
      obtain ⟨y, hy⟩ : ∃ y, Hid (D[c + i]? = some y) := ⟨D[c + i]'(by have := hn.out; omega), List.getElem?_eq_getElem (by have := hn.out; omega)⟩
      obtain ⟨A, hA⟩ : ∃ A, Hid (a + i = A) := ⟨_, rfl⟩
      obtain ⟨C, hC⟩ : ∃ C, Hid (c + i = C) := ⟨_, rfl⟩
      have eA : IntKind.i64.wrap ((a : Int) + (i : Int)) = (A : Int) := by rw [wrap_in (by omega) (by omega)]; have := hA.out; omega
      have eC : IntKind.i64.wrap ((c : Int) + (i : Int)) = (C : Int) := by rw [wrap_in (by omega) (by omega)]; have := hC.out; omega
      have bA : (A : Int) < (n : Int) := by have := hA.out; omega
      have bC : (C : Int) < (n : Int) := by have := hC.out; omega
      have pA : (0 : Int) ≤ (A : Int) := by omega
      have pC : (0 : Int) ≤ (C : Int) := by omega
      have hx' : (swapL D a c i)[A]? = some x := by rw [← hA.out, swapL_ahead D a c i i (Nat.le_refl _) (by omega)]; exact hx.out
      have hy' : (swapL D a c i)[C]? = some y := by rw [← hC.out, swapL_behind D a c i i (Nat.le_refl _) (by omega)]; exact hy.out
      obtain ⟨gx1, gx2⟩ := hRi.out A x hx'
      obtain ⟨gy1, gy2⟩ := hRi.out C y hy'
      have hlA : A < (swapL D a c i).length := (List.getElem?_eq_some_iff.1 hx').1
      have hlC : C < (swapL D a c i).length := (List.getElem?_eq_some_iff.1 hy').1
      have hend : Hid (RowE enc ((wr.setCells b (A * 5) (enc y).toList).setCells b (C * 5) (enc x).toList).drew b (swapL D a c (i + 1)) ∧ But b w ((wr.setCells b (A * 5) (enc y).toList).setCells b (C * 5) (enc x).toList).drew) := by
        refine ⟨?_, ((hBi.out.trans (setCells_but b _ _ _)).trans (setCells_but b _ _ _)).drew⟩
        have h2 := (hRi.out.set E hlA y).set E (j := C) (by simpa using hlC) x
        have e : swapL D a c (i + 1) = ((swapL D a c i).set A y).set C x := by
          rw [swapL, hx.out, hy.out, hA.out, hC.out]
        rw [e]
        exact h2.drew
      obtain ⟨x0, x1, x2, x3, x4, ex⟩ := seven (E.size x)
      obtain ⟨y0, y1, y2, y3, y4, ey⟩ := seven (E.size y)
      have ox : ∀ (r : Nat) u, (enc x)[r]? = some u → u.oneCell' = true := fun r u hu => Array.all_eq_true_iff_forall_mem.1 (E.one x) u (Array.mem_of_getElem? hu)
      have oy : ∀ (r : Nat) u, (enc y)[r]? = some u → u.oneCell' = true := fun r u hu => Array.all_eq_true_iff_forall_mem.1 (E.one y) u (Array.mem_of_getElem? hu)
      have gx1 : ∀ (r : Nat) u, (enc x)[r]? = some u → wr.cell? ⟨b, A * 5 + r, none⟩ = some u := fun r u hu => by have := gx1 r u (by simpa using hu); simpa using this
      have gy1 : ∀ (r : Nat) u, (enc y)[r]? = some u → wr.cell? ⟨b, C * 5 + r, none⟩ = some u := fun r u hu => by have := gy1 r u (by simpa using hu); simpa using this
      have gx2 : ∀ (r : Nat), r < 5 → (wr.cell? ⟨b, A * 5 + r, none⟩).isSome = true ∧ wr.frozen? ⟨b, A * 5 + r, none⟩ = false := fun r hr => by have := gx2 r hr; simpa using this
      have gy2 : ∀ (r : Nat), r < 5 → (wr.cell? ⟨b, C * 5 + r, none⟩).isSome = true ∧ wr.frozen? ⟨b, C * 5 + r, none⟩ = false := fun r hr => by have := gy2 r hr; simpa using this
      have xc0 : wr.cell? ⟨b, A * 5, none⟩ = some x0 := gx1 0 x0 (by rw [ex]; rfl)
      have xf0 : wr.frozen? ⟨b, A * 5, none⟩ = false := (gx2 0 (by omega)).2
      have xo0 : x0.oneCell' = true := ox 0 x0 (by rw [ex]; rfl)
      have xc1 : wr.cell? ⟨b, A * 5 + 1, none⟩ = some x1 := gx1 1 x1 (by rw [ex]; rfl)
      have xf1 : wr.frozen? ⟨b, A * 5 + 1, none⟩ = false := (gx2 1 (by omega)).2
      have xo1 : x1.oneCell' = true := ox 1 x1 (by rw [ex]; rfl)
      have xc2 : wr.cell? ⟨b, A * 5 + 2, none⟩ = some x2 := gx1 2 x2 (by rw [ex]; rfl)
      have xf2 : wr.frozen? ⟨b, A * 5 + 2, none⟩ = false := (gx2 2 (by omega)).2
      have xo2 : x2.oneCell' = true := ox 2 x2 (by rw [ex]; rfl)
      have xc3 : wr.cell? ⟨b, A * 5 + 3, none⟩ = some x3 := gx1 3 x3 (by rw [ex]; rfl)
      have xf3 : wr.frozen? ⟨b, A * 5 + 3, none⟩ = false := (gx2 3 (by omega)).2
      have xo3 : x3.oneCell' = true := ox 3 x3 (by rw [ex]; rfl)
      have xc4 : wr.cell? ⟨b, A * 5 + 4, none⟩ = some x4 := gx1 4 x4 (by rw [ex]; rfl)
      have xf4 : wr.frozen? ⟨b, A * 5 + 4, none⟩ = false := (gx2 4 (by omega)).2
      have xo4 : x4.oneCell' = true := ox 4 x4 (by rw [ex]; rfl)
      have yc0 : wr.cell? ⟨b, C * 5, none⟩ = some y0 := gy1 0 y0 (by rw [ey]; rfl)
      have yf0 : wr.frozen? ⟨b, C * 5, none⟩ = false := (gy2 0 (by omega)).2
      have yo0 : y0.oneCell' = true := oy 0 y0 (by rw [ey]; rfl)
      have yc1 : wr.cell? ⟨b, C * 5 + 1, none⟩ = some y1 := gy1 1 y1 (by rw [ey]; rfl)
      have yf1 : wr.frozen? ⟨b, C * 5 + 1, none⟩ = false := (gy2 1 (by omega)).2
      have yo1 : y1.oneCell' = true := oy 1 y1 (by rw [ey]; rfl)
      have yc2 : wr.cell? ⟨b, C * 5 + 2, none⟩ = some y2 := gy1 2 y2 (by rw [ey]; rfl)
      have yf2 : wr.frozen? ⟨b, C * 5 + 2, none⟩ = false := (gy2 2 (by omega)).2
      have yo2 : y2.oneCell' = true := oy 2 y2 (by rw [ey]; rfl)
      have yc3 : wr.cell? ⟨b, C * 5 + 3, none⟩ = some y3 := gy1 3 y3 (by rw [ey]; rfl)
      have yf3 : wr.frozen? ⟨b, C * 5 + 3, none⟩ = false := (gy2 3 (by omega)).2
      have yo3 : y3.oneCell' = true := oy 3 y3 (by rw [ey]; rfl)
      have yc4 : wr.cell? ⟨b, C * 5 + 4, none⟩ = some y4 := gy1 4 y4 (by rw [ey]; rfl)
      have yf4 : wr.frozen? ⟨b, C * 5 + 4, none⟩ = false := (gy2 4 (by omega)).2
      have yo4 : y4.oneCell' = true := oy 4 y4 (by rw [ey]; rfl)
      have n1 : ∀ r s, r < 5 → s < 5 → (C * 5 + r = A * 5 + s) = False := fun r s h1 h2 => eq_false (by have := hA.out; have := hC.out; omega)
      have n2 : ∀ s, s < 5 → (C * 5 = A * 5 + s) = False := fun s h2 => eq_false (by have := hA.out; have := hC.out; omega)
      have n3 : ∀ r, r < 5 → (C * 5 + r = A * 5) = False := fun r h1 => eq_false (by have := hA.out; have := hC.out; omega)
      have n4 : (C * 5 = A * 5) = False := eq_false (by have := hA.out; have := hC.out; omega)
      have n5 : ∀ r s, r < 5 → s < 5 → (A * 5 + s = C * 5 + r) = False := fun r s h1 h2 => eq_false (by have := hA.out; have := hC.out; omega)
      have n6 : ∀ s, s < 5 → (A * 5 + s = C * 5) = False := fun s h2 => eq_false (by have := hA.out; have := hC.out; omega)
      have n7 : ∀ r, r < 5 → (A * 5 = C * 5 + r) = False := fun r h1 => eq_false (by have := hA.out; have := hC.out; omega)
      have n8 : (A * 5 = C * 5) = False := eq_false (by have := hA.out; have := hC.out; omega)
      rw [ex, ey] at hend
      clear hx' hy' gx1 gy1 gx2 gy2 hlA hlC hRi hBi ox oy
      have hst := run_st
      go_upto_region 3 with fail
      go_region
      all_goals
        obtain ⟨X, hX⟩ : ∃ X, Hid (((((((((((wr.setCell ⟨b, A * 5, none⟩ y0).setCell ⟨b, A * 5 + 1, none⟩ y1).setCell ⟨b, A * 5 + 2, none⟩ y2).setCell ⟨b, A * 5 + 3, none⟩ y3).setCell ⟨b, A * 5 + 4, none⟩ y4).setCell ⟨b, C * 5, none⟩ x0).setCell ⟨b, C * 5 + 1, none⟩ x1).setCell ⟨b, C * 5 + 2, none⟩ x2).setCell ⟨b, C * 5 + 3, none⟩ x3).setCell ⟨b, C * 5 + 4, none⟩ x4).drew = X) := ⟨_, rfl⟩
        have hfin : Hid (RowE enc X b (swapL D a c (i + 1)) ∧ But b w X) := by rw [← hX.out]; exact hend.out
        rw [hX.out]
        clear hend hst n1 n2 n3 n4 n5 n6 n7 n8 xc0 xf0 xo0 xc1 xf1 xo1 xc2 xf2 xo2 xc3 xf3 xo3 xc4 xf4 xo4 yc0 yf0 yo0 yc1 yf1 yo1 yc2 yf2 yo2 yc3 yf3 yo3 yc4 yf4 yo4
        go_wp2_with fail
        exact ⟨⟨i + 1, by go_num, by omega, hfin.out.1, hfin.out.2⟩, by simp [intOf]; omega⟩
    · have i1 : ¬ (i : Int) < (m : Int) := by omega
      obtain rfl : i = m := by omega
      go_wp2_with fail
      exact bodyPost_end (results_none rfl _ _ _) rfl ⟨rfl, hRi.out, hBi.out⟩
end
end Go.Proofs.YtgigikcopedoeaaGreat.SortedV
/-! Stable sorting over memory: rotate. -/
namespace Go.Proofs.YtgigikcopedoeaaGreat.SortedV
open Go Go.RowKit Go.Stab
section
variable {α : Type}
theorem swapL_get (D : List α) (a c : Nat) : ∀ i, a + i ≤ c → c + i ≤ D.length → ∀ j : Nat, (swapL D a c i)[j]? = if a ≤ j ∧ j < a + i then D[c + (j - a)]? else if c ≤ j ∧ j < c + i then D[a + (j - c)]? else D[j]?
  | 0, _, _, j => by
    rw [if_neg (by omega), if_neg (by omega)]
    rfl
  | i + 1, h1, h2, j => by
    have ih := swapL_get D a c i (by omega) (by omega)
    have ex : D[a + i]? = some D[a + i] := List.getElem?_eq_getElem (by omega)
    have ey : D[c + i]? = some D[c + i] := List.getElem?_eq_getElem (by omega)
    rw [swapL, ex, ey]
    show (((swapL D a c i).set (a + i) D[c + i]).set (c + i) D[a + i])[j]? = _
    have hl := swapL_length D a c i
    by_cases j1 : j = c + i
    · subst j1
      rw [List.getElem?_set_self (by simp; omega), if_neg (by omega), if_pos (by omega), ← ex]
      congr 1
      omega
    · rw [List.getElem?_set_ne (by omega)]
      by_cases j2 : j = a + i
      · subst j2
        rw [List.getElem?_set_self (by omega), if_pos (by omega), ← ey]
        congr 1
        omega
      · rw [List.getElem?_set_ne (by omega), ih j]
        by_cases j3 : a ≤ j ∧ j < a + i
        · rw [if_pos j3, if_pos (by omega)]
        · rw [if_neg j3, if_neg (c := a ≤ j ∧ j < a + (i + 1)) (by omega)]
          by_cases j4 : c ≤ j ∧ j < c + i
          · rw [if_pos j4, if_pos (by omega)]
          · rw [if_neg j4, if_neg (by omega)]
theorem swapL_app (A U M V B : List α) (h : V.length = U.length) : swapL (A ++ (U ++ (M ++ (V ++ B)))) A.length (A.length + U.length + M.length) U.length = A ++ (V ++ (M ++ (U ++ B))) := by
  refine List.ext_getElem? (fun j => ?_)
  rw [swapL_get _ _ _ _ (by omega) (by simp; omega)]
  by_cases j1 : j < A.length
  · rw [if_neg (by omega), if_neg (by omega), List.getElem?_append_left j1, List.getElem?_append_left j1]
  · rw [List.getElem?_append_right (l₁ := A) (l₂ := V ++ (M ++ (U ++ B))) (by omega)]
    by_cases j2 : j < A.length + U.length
    · rw [if_pos (by omega), List.getElem?_append_right (by omega), List.getElem?_append_right (by omega), List.getElem?_append_right (by omega), List.getElem?_append_left (by omega), List.getElem?_append_left (by omega)]
      congr 1
      omega
    · rw [if_neg (by omega), List.getElem?_append_right (l₁ := V) (by omega)]
      by_cases j3 : j < A.length + U.length + M.length
      · rw [if_neg (by omega), List.getElem?_append_right (by omega), List.getElem?_append_right (by omega), List.getElem?_append_left (by omega), List.getElem?_append_left (by omega)]
        congr 1
        omega
      · rw [List.getElem?_append_right (l₁ := M) (l₂ := U ++ B) (by omega)]
        by_cases j4 : j < A.length + U.length + M.length + U.length
        · rw [if_pos (by omega), List.getElem?_append_right (by omega), List.getElem?_append_left (by omega), List.getElem?_append_left (by omega)]
          congr 1
          omega
        · rw [if_neg (by omega), List.getElem?_append_right (by omega), List.getElem?_append_right (by omega), List.getElem?_append_right (by omega), List.getElem?_append_right (by omega), List.getElem?_append_right (by omega)]
          congr 1
          omega
variable {enc : α → Array Value}
/-- Where the rotation stands: what is to come of A, U, V, B. -/
structure Rot (enc : α → Array Value) (w0 : World) (b n m : Nat) (T : List α) (i j : Nat) (w : World) (A U V B : List α) : Prop where
  iu : U.length = i
  jv : V.length = j
  am : A.length + i = m
  ip : 0 < i
  jp : 0 < j
  len : A.length + i + j + B.length = n
  row : RowE enc w b (A ++ (U ++ (V ++ B)))
  goal : A ++ (V ++ (U ++ B)) = T
  but : But b w0 w
theorem Rot.left {w0 w w' : World} {b n m i j : Nat} {T A U V B : List α} (h : Rot enc w0 b n m T i j w A U V B) (hij : j < i) (hr : RowE enc w' b (swapL (A ++ (U ++ (V ++ B))) A.length m j)) (hb : But b w w') : Rot enc w0 b n m T (i - j) j w' (A ++ V) (U.drop j) (U.take j) B := by
  have e1 : U = U.take j ++ U.drop j := (List.take_append_drop j U).symm
  have l1 : (U.take j).length = j := by rw [List.length_take, h.iu]; omega
  have l2 : (U.drop j).length = i - j := by rw [List.length_drop, h.iu]
  have hs := swapL_app A (U.take j) (U.drop j) V B (by rw [l1, h.jv])
  rw [l1, l2, show A.length + j + (i - j) = m by have := h.am; omega] at hs
  rw [show A ++ (U ++ (V ++ B)) = A ++ (U.take j ++ (U.drop j ++ (V ++ B))) by rw [← List.append_assoc (U.take j), ← e1], hs] at hr
  refine ⟨l2, l1, by rw [List.length_append, h.jv]; have := h.am; omega, by omega, h.jp, by rw [List.length_append, h.jv]; have := h.len; omega, ?_, ?_, h.but.trans hb⟩
  · rw [List.append_assoc]; exact hr
  · rw [← h.goal, List.append_assoc, ← List.append_assoc (U.take j), ← e1]
theorem Rot.right {w0 w w' : World} {b n m i j : Nat} {T A U V B : List α} (h : Rot enc w0 b n m T i j w A U V B) (hij : i < j) (hr : RowE enc w' b (swapL (A ++ (U ++ (V ++ B))) A.length (m + j - i) i)) (hb : But b w w') : Rot enc w0 b n m T i (j - i) w' A (V.drop (j - i)) (V.take (j - i)) (U ++ B) := by
  have e1 : V = V.take (j - i) ++ V.drop (j - i) := (List.take_append_drop (j - i) V).symm
  have l1 : (V.take (j - i)).length = j - i := by rw [List.length_take, h.jv]; omega
  have l2 : (V.drop (j - i)).length = i := by rw [List.length_drop, h.jv]; omega
  have hs := swapL_app A U (V.take (j - i)) (V.drop (j - i)) B (by rw [l2, h.iu])
  rw [l1, h.iu, show A.length + i + (j - i) = m + j - i by have := h.am; omega] at hs
  rw [show A ++ (U ++ (V ++ B)) = A ++ (U ++ (V.take (j - i) ++ (V.drop (j - i) ++ B))) by rw [← List.append_assoc (V.take (j - i)), ← e1], hs] at hr
  refine ⟨l2, l1, h.am, h.ip, by omega, by rw [List.length_append, h.iu]; have := h.len; omega, hr, ?_, h.but.trans hb⟩
  rw [← h.goal, ← List.append_assoc (V.take (j - i)), ← e1]
theorem Rot.last {w0 w w' : World} {b n m i : Nat} {T A U V B : List α} (h : Rot enc w0 b n m T i i w A U V B) (hr : RowE enc w' b (swapL (A ++ (U ++ (V ++ B))) A.length m i)) (hb : But b w w') : RowE enc w' b T ∧ But b w0 w' := by
  have hs := swapL_app A U [] V B (by rw [h.jv, h.iu])
  rw [h.iu, List.length_nil, Nat.add_zero, h.am] at hs
  simp only [List.nil_append] at hs
  rw [hs, h.goal] at hr
  exact ⟨hr, h.but.trans hb⟩
theorem Rot.dlen {w0 w : World} {b n m i j : Nat} {T A U V B : List α} (h : Rot enc w0 b n m T i j w A U V B) : (A ++ (U ++ (V ++ B))).length = n := by
  simp only [List.length_append, h.iu, h.jv]
  have := h.len
  omega
set_option maxRecDepth 100000 in
set_option maxHeartbeats 4000000 in
theorem rotate_any (E : Enc enc) (A U V B : List α) (b n cap a m c : Nat) (cmp : Value) (w : World) (hR : RowE enc w b (A ++ (U ++ (V ++ B)))) (ha : A.length = a) (hm : A.length + U.length = m) (hc : m + V.length = c) (hn : c + B.length = n) (hU : 0 < U.length) (hV : 0 < V.length) (hnn : n ≤ 4611686018427387904) :
    Calls Tryz.prog 133 #[.slice (some ⟨b, 0, none⟩) n cap, .int .i64 a, .int .i64 m, .int .i64 c, cmp] w fun e w' => e = .returned (.tuple #[]) ∧ RowE enc w' b (A ++ (V ++ (U ++ B))) ∧ But b w w' := by
  obtain ⟨T, hT⟩ : ∃ T, Hid (A ++ (V ++ (U ++ B)) = T) := ⟨_, rfl⟩
  rw [hT.out]
  have h0 : Hid (Rot enc w b n m T U.length V.length w A U V B) := ⟨rfl, rfl, hm, hU, hV, by omega, hR, hT.out, But.refl b w⟩
  have f1 : (a : Int) ≤ (m : Int) := by omega
  have f2 : (m : Int) ≤ (c : Int) := by omega
  have f3 : (c : Int) ≤ 4611686018427387904 := by omega
  have f5 : c ≤ n := by omega
  have f4 : (0 : Int) ≤ (a : Int) := by omega
  have e1 : Hid ((m : Int) - (a : Int) = ((U.length : Nat) : Int)) := by show (m : Int) - (a : Int) = ((U.length : Nat) : Int); omega
  have e2 : Hid ((c : Int) - (m : Int) = ((V.length : Nat) : Int)) := by show (c : Int) - (m : Int) = ((V.length : Nat) : Int); omega
  clear hR ha hm hc hU hV hT
  go_enter Tryz.func133, Tryz.ntmps133
  go_wp2_with fail
  rw [e1.out, e2.out]
  go_loopw [10, 11] (fun iv jv wr => ∃ (i j : Nat) (A U V B : List α), iv = .int .i64 i ∧ jv = .int .i64 j ∧ Hid (Rot enc w b n m T i j wr A U V B)) (fun iv jv _ => (intOf iv).toNat + (intOf jv).toNat)
  case atStart => exact ⟨_, _, A, U, V, B, rfl, rfl, h0⟩
  case round =>
    clear h0 e1 e2 hn A B
    obtain ⟨i, j, A, U, V, B, rfl, rfl, hr⟩ := hrel
    obtain ⟨p, hp⟩ : ∃ p, Hid (A.length = p) := ⟨_, rfl⟩
    have q1 : p + i = m := by rw [← hp.out]; exact hr.out.am
    have q2 : p + i + j ≤ n := by rw [← hp.out]; have := hr.out.len; omega
    have q3 := hr.out.ip
    have q4 := hr.out.jp
    have g1 : (i : Int) ≤ (m : Int) := by omega
    have g2 : (0 : Int) ≤ (i : Int) := by omega
    have g3 : (m : Int) + (j : Int) ≤ 4611686018427387904 := by omega
    have g4 : (0 : Int) ≤ (j : Int) := by omega
    have ep : Hid ((m : Int) - (i : Int) = (p : Int)) := by show (m : Int) - (i : Int) = (p : Int); omega
    by_cases hij : i = j
    · subst hij
      have hsw := hid_of (swapRange_any E _ b n cap p m i cmp wr hr.out.row hr.out.dlen (by omega) (by omega) hnn)
      have hk : Hid (∀ w', RowE enc w' b (swapL (A ++ (U ++ (V ++ B))) p m i) → But b wr w' → RowE enc w' b T ∧ But b w w') := by
        intro w' h1 h2
        rw [← hp.out] at h1
        exact hr.out.last h1 h2
      clear hr hp
      go_wp2_with fail
      rw [ep.out]
      refine hsw.out.mono ?_
      rintro e w' ⟨rfl, h1, h2⟩
      have hz := hid_of (hk.out w' h1 h2)
      clear hsw hk h1 h2
      go_wp2_with fail
      exact bodyPost_end (results_none rfl _ _ _) rfl ⟨rfl, hz.out.1, hz.out.2⟩
    · have hne : ¬ (i : Int) = (j : Int) := by omega
      by_cases hlt : j < i
      · have hlt' : (j : Int) < (i : Int) := by omega
        have hsw := hid_of (swapRange_any E _ b n cap p m j cmp wr hr.out.row hr.out.dlen (by omega) (by omega) hnn)
        have hk : Hid (∀ w', RowE enc w' b (swapL (A ++ (U ++ (V ++ B))) p m j) → But b wr w' → ∃ A U V B, Rot enc w b n m T (i - j) j w' A U V B) := by
          intro w' h1 h2
          rw [← hp.out] at h1
          exact ⟨_, _, _, _, hr.out.left hlt h1 h2⟩
        have ed : Hid ((i : Int) - (j : Int) = ((i - j : Nat) : Int)) := by show (i : Int) - (j : Int) = ((i - j : Nat) : Int); omega
        clear hr hp
        go_wp2_with fail
        rw [ep.out]
        refine hsw.out.mono ?_
        rintro e w' ⟨rfl, h1, h2⟩
        have hz := hid_of (hk.out w' h1 h2)
        clear hsw hk h1 h2
        go_wp2_with fail
        obtain ⟨A, U, V, B, hz⟩ := hz.out
        exact ⟨⟨i - j, j, A, U, V, B, by rw [ed.out], rfl, hz⟩, by simp [intOf]; omega⟩
      · have hlt' : ¬ (j : Int) < (i : Int) := by omega
        have hsw := hid_of (swapRange_any E _ b n cap p (m + j - i) i cmp wr hr.out.row hr.out.dlen (by omega) (by omega) hnn)
        have hk : Hid (∀ w', RowE enc w' b (swapL (A ++ (U ++ (V ++ B))) p (m + j - i) i) → But b wr w' → ∃ A U V B, Rot enc w b n m T i (j - i) w' A U V B) := by
          intro w' h1 h2
          rw [← hp.out] at h1
          exact ⟨_, _, _, _, hr.out.right (by omega) h1 h2⟩
        have ed : Hid ((j : Int) - (i : Int) = ((j - i : Nat) : Int)) := by show (j : Int) - (i : Int) = ((j - i : Nat) : Int); omega
        have es : Hid ((m : Int) + (j : Int) - (i : Int) = ((m + j - i : Nat) : Int)) := by show (m : Int) + (j : Int) - (i : Int) = ((m + j - i : Nat) : Int); omega
        clear hr hp
        go_wp2_with fail
        rw [ep.out, es.out]
        refine hsw.out.mono ?_
        rintro e w' ⟨rfl, h1, h2⟩
        have hz := hid_of (hk.out w' h1 h2)
        clear hsw hk h1 h2
        go_wp2_with fail
        obtain ⟨A, U, V, B, hz⟩ := hz.out
        exact ⟨⟨i, j - i, A, U, V, B, rfl, by rw [ed.out], hz⟩, by simp [intOf]; omega⟩
end
end Go.Proofs.YtgigikcopedoeaaGreat.SortedV
/-! Stable sorting over memory: the sort by insertion. -/
namespace Go.Proofs.YtgigikcopedoeaaGreat.SortedV
open Go Go.RowKit Go.Stab
theorem k_quiet_if {c : Bool} {p q : Prop} (h : c = true) (hp : p) : if c = true then p else q := by rw [if_pos h]; exact hp
theorem k_quiet_else {c : Bool} {p q : Prop} (h : c = false) (hq : q) : if c = true then p else q := by rw [if_neg (by simp [h])]; exact hq
section
variable {α : Type} {enc : α → Array Value}
theorem isort_few (lt : α → α → Bool) {l : List α} (h : l.length ≤ 1) : isort lt l = l := by
  match l, h with
  | [], _ => rfl
  | [x], _ => simp [isort, mergeL]
/-- Where the insertion of y stands: behind L1, ahead of L2. -/
structure Ins (enc : α → Array Value) (lt : α → α → Bool) (w0 : World) (b n : Nat) (A S : List α) (y : α) (R : List α) (j : Nat) (w : World) (L1 L2 : List α) : Prop where
  spl : L1 ++ L2 = S
  at_ : A.length + L1.length = j
  len : A.length + S.length + 1 + R.length = n
  row : RowE enc w b (A ++ (L1 ++ (y :: (L2 ++ R))))
  up : ∀ x ∈ L2, lt y x = true
  but : But b w0 w
theorem Ins.dlen {lt : α → α → Bool} {w0 w : World} {b n j : Nat} {A S R L1 L2 : List α} {y : α} (h : Ins enc lt w0 b n A S y R j w L1 L2) : (A ++ (L1 ++ (y :: (L2 ++ R)))).length = n := by
  have h1 := congrArg List.length h.spl
  have h2 := h.len
  simp at h1 ⊢
  omega
theorem set_two (A L : List α) (x y : α) (t : List α) (p : Nat) (hp : A.length + L.length = p) : ((A ++ ((L ++ [x]) ++ (y :: t))).set (p + 1) x).set p y = A ++ (L ++ (y :: ((x :: t)))) := by
  have e : A ++ ((L ++ [x]) ++ (y :: t)) = (A ++ L) ++ (x :: y :: t) := by simp
  have hl : (A ++ L).length = p := by simp [hp]
  rw [e, List.set_append_right _ _ (by omega), List.set_append_right _ _ (by omega), hl, show p + 1 - p = 1 by omega, show p - p = 0 by omega]
  simp
theorem Ins.put {lt : α → α → Bool} {w0 w w' : World} {b n j p : Nat} {A S R L L2 : List α} {x y : α} (h : Ins enc lt w0 b n A S y R j w (L ++ [x]) L2) (hj : p + 1 = j) (hlt : lt y x = true) (hr : RowE enc w' b (((A ++ ((L ++ [x]) ++ (y :: (L2 ++ R)))).set j x).set p y)) (hb : But b w w') : Ins enc lt w0 b n A S y R p w' L (x :: L2) := by
  have hp : A.length + L.length = p := by have := h.at_; simp at this; omega
  subst hj
  rw [set_two A L x y _ p hp] at hr
  refine ⟨by rw [← h.spl]; simp, hp, h.len, hr, fun z hz => ?_, h.but.trans hb⟩
  rcases List.mem_cons.1 hz with rfl | hz
  · exact hlt
  · exact h.up z hz
theorem Ins.done {lt : α → α → Bool} (W : Swo lt) {w0 w : World} {b n j : Nat} {A S R L1 L2 : List α} {y : α} (h : Ins enc lt w0 b n A S y R j w L1 L2) (hS : Up lt S) (hlt : ∀ L x, L1 = L ++ [x] → lt y x = false) : A ++ (L1 ++ (y :: (L2 ++ R))) = A ++ (mergeL lt S [y] ++ R) := by
  rw [← h.spl, mergeL_last lt y L1 L2 ?_ h.up]
  · simp
  · rcases List.eq_nil_or_concat L1 with e | ⟨L, x, e⟩
    · rw [e]; intro x hx; cases hx
    · have hx := hlt L x (by simpa using e)
      have e' : L1 = L ++ [x] := by simpa using e
      intro z hz
      rw [← h.spl, e'] at hS
      have hu := (Up.append (Up.append hS).1).2.2
      rw [e'] at hz
      rcases List.mem_append.1 hz with hz | hz
      · exact W.neg y x z hx (hu z hz x (by simp))
      · rw [List.mem_singleton.1 hz]; exact hx
theorem lt_of_cell {W : World} {p : Addr} {v : Value} (h : W.cell? p = some v) : p.block < W.heap.size := by
  rcases Nat.lt_or_ge p.block W.heap.size with h' | h'
  · exact h'
  · simp [World.cell?, Array.getElem?_eq_none h'] at h
theorem stay {w w' : World} (h : Below w.heap.size w w') {p : Addr} {v : Value} (hc : w.cell? p = some v) : w'.cell? p = some v := (h.cell (lt_of_cell hc)).trans hc
theorem RowE.lt {w : World} {b : Nat} {D : List α} (h : RowE enc w b D) {j : Nat} {x : α} (hx : D[j]? = some x) : b < w.heap.size := by
  obtain ⟨-, h2⟩ := h j x hx
  have h3 := (h2 0 (by omega)).1
  obtain ⟨u, hu⟩ := Option.isSome_iff_exists.1 h3
  exact lt_of_cell hu
theorem Ins.keep {lt : α → α → Bool} {w0 w w' : World} {b n j : Nat} {A S R L1 L2 : List α} {y : α} (h : Ins enc lt w0 b n A S y R j w L1 L2) (hb : Below w.heap.size w w') : Ins enc lt w0 b n A S y R j w' L1 L2 := by
  refine ⟨h.spl, h.at_, h.len, h.row.keep (hb.block b (h.row.lt (j := A.length + L1.length) (x := y) ?_)), h.up, h.but.trans (But.of_below hb)⟩
  rw [List.getElem?_append_right (by omega), List.getElem?_append_right (by omega)]
  simp
set_option maxRecDepth 100000 in
set_option maxHeartbeats 4000000 in
theorem insert_any (E : Enc enc) {lt : α → α → Bool} (O : Swo lt) {b : Nat} {w0 : World} (cn : α → α → Int) (hlt : ∀ x y, lt x y = decide (cn x y < 0)) (hcmp : ∀ x y W, But b w0 W → Calls Tryz.prog 59 #[.agg (enc x), .agg (enc y)] W fun e w' => e = .returned (.int .i64 (cn x y)) ∧ Below W.heap.size W w')
    (A M B : List α) (n cap a c : Nat) (w : World) (hw0 : But b w0 w) (hR : RowE enc w b (A ++ (M ++ B))) (ha : A.length = a) (hc : a + M.length = c) (hn : c + B.length = n) (hnn : n ≤ 4611686018427387904) :
    Calls Tryz.prog 128 #[.slice (some ⟨b, 0, none⟩) n cap, .int .i64 a, .int .i64 c, .func (.func 59) #[] #[]] w fun e w' => e = .returned (.tuple #[]) ∧ RowE enc w' b (A ++ (isort lt M ++ B)) ∧ But b w w' := by
  replace hlt := hid_of hlt
  replace hcmp := hid_of hcmp
  replace hw0 := hid_of hw0
  have h0 : Hid (RowE enc w b (A ++ (isort lt (M.take (0 + 1)) ++ (M.drop (0 + 1) ++ B)))) := by
    rw [isort_few lt (by simp; omega), ← List.append_assoc (M.take _), List.take_append_drop]
    exact hR
  have f1 : (a : Int) ≤ (c : Int) := by omega
  have f2 : (c : Int) ≤ (n : Int) := by omega
  have f3 : (n : Int) ≤ 4611686018427387904 := by omega
  have f4 : (0 : Int) ≤ (a : Int) := by omega
  have f5 : (a : Int) ≤ 4611686018427387904 := by omega
  replace ha := hid_of ha
  replace hc := hid_of hc
  replace hn := hid_of hn
  clear hR
  go_enter Tryz.func128, Tryz.ntmps128
  go_wp2_with fail
  go_loopw [8] (fun iv wr => ∃ i k : Nat, iv = .int .i64 i ∧ i = a + 1 + k ∧ (k + 1 ≤ M.length ∨ k = 0) ∧ Hid (RowE enc wr b (A ++ (isort lt (M.take (k + 1)) ++ (M.drop (k + 1) ++ B)))) ∧ Hid (But b w wr)) (fun iv _ => c - (intOf iv).toNat)
  case atStart => exact ⟨a + 1, 0, by go_num, rfl, .inr rfl, h0, hid_of (But.refl b w)⟩
  case round =>
    clear h0
    obtain ⟨i, k, rfl, hi, hk, hRi, hBi⟩ := hrel
    by_cases hic : i < c
    · have i1 : (i : Int) < (c : Int) := by omega
      have hk' : k + 1 < M.length := by have := hc.out; omega
      obtain ⟨S, hS⟩ : ∃ S, Hid (isort lt (M.take (k + 1)) = S) := ⟨_, rfl⟩
      obtain ⟨y, hy⟩ : ∃ y, Hid (M[k + 1] = y) := ⟨M[k + 1], rfl⟩
      have hd : M.drop (k + 1) = y :: M.drop (k + 1 + 1) := by rw [← hy.out]; exact List.drop_eq_getElem_cons hk'
      have hnx : Hid (isort lt (M.take (k + 1 + 1)) = mergeL lt S [y]) := by
        show isort lt (M.take (k + 1 + 1)) = mergeL lt S [y]
        rw [List.take_succ_eq_append_getElem hk', isort_snoc, hS.out, hy.out]
      have hSl : S.length = k + 1 := by rw [← hS.out, isort_length, List.length_take]; omega
      have hSu : Hid (Up lt S) := by rw [← hS.out]; exact isort_up O _
      have hi0 : Hid (Ins enc lt w b n A S y (M.drop (k + 1 + 1) ++ B) i wr S []) := by
        refine ⟨by simp, by rw [ha.out, hSl]; omega, ?_, ?_, by simp, hBi.out⟩
        · have := hn.out; have := hc.out; have := ha.out; simp; omega
        · have := hRi.out
          rw [hS.out, hd] at this
          simpa using this
      replace hi := hid_of hi
      replace hk' := hid_of hk'
      have i2 : (0 : Int) ≤ (i : Int) := by omega
      have hfin : Hid (∀ j wr L1 L2, Ins enc lt w b n A S y (M.drop (k + 1 + 1) ++ B) j wr L1 L2 → (∀ L x, L1 = L ++ [x] → lt y x = false) → Hid (RowE enc wr b (A ++ (isort lt (M.take (k + 1 + 1)) ++ (M.drop (k + 1 + 1) ++ B)))) ∧ Hid (But b w wr)) := by
        intro j wr L1 L2 h1 h2
        refine ⟨?_, h1.but⟩
        have h3 := h1.row
        rw [h1.done O hSu.out h2] at h3
        rw [hnx.out]
        exact h3
      clear hRi hBi hS hy hd hk hic hSl hnx hSu
      go_wp2_with fail
      go_loopw [9] (fun jv wr => ∃ (j : Nat) (L1 L2 : List α), jv = .int .i64 j ∧ Hid (Ins enc lt w b n A S y (M.drop (k + 1 + 1) ++ B) j wr L1 L2)) (fun jv _ => (intOf jv).toNat)
      case atStart => exact ⟨i, S, [], rfl, hi0⟩
      case round =>
        obtain ⟨j, L1, L2, rfl, hI⟩ := hrel
        rcases List.eq_nil_or_concat L1 with e | ⟨L, x, e⟩
        · subst e
          have hj : j = a := by have := hI.out.at_; have := ha.out; simp at *; omega
          have hz := hid_of (fun w' hw' => hfin.out _ w' _ _ (hI.out.keep (w' := w') hw') (fun L x e => by simp at e))
          have j1 : ¬ (a : Int) < (j : Int) := by omega
          have j2 : j ≤ a := by omega
          replace hj := hid_of hj
          clear hI hfin
          go_wp2_with fail
          refine wp_region_quiet (C := fun w' => Below wr.heap.size wr w') (by kernel_rfl) (by kernel_rfl) (below_drewN (Below.refl _ _) 1) ?_
          with_reducible refine wpQuiet_step (fun K hK => ?_)
          refine ⟨.int .i64 j, fun w' _ => ?_, ?_⟩
          · first | (go_simp; done) | (go_simp; decide) | (go_simp; omega)
          with_reducible refine hK _ ?_
          clear hK K
          simp only [Act.put, List.setIfInBounds_toArray, List.set_cons_zero, List.set_cons_succ]
          with_reducible refine wpQuiet_step (fun K hK => ?_)
          refine ⟨.int .i64 a, fun w' _ => ?_, ?_⟩
          · first | (go_simp; done) | (go_simp; decide) | (go_simp; omega)
          with_reducible refine hK _ ?_
          clear hK K
          simp only [Act.put, List.setIfInBounds_toArray, List.set_cons_zero, List.set_cons_succ]
          with_reducible refine wpQuiet_step (fun K hK => ?_)
          refine ⟨.bool false, fun w' _ => ?_, ?_⟩
          · first | (go_simp; done) | (go_simp; decide) | (go_simp; omega)
          with_reducible refine hK _ ?_
          clear hK K
          simp only [Act.put, List.setIfInBounds_toArray, List.set_cons_zero, List.set_cons_succ]
          with_reducible refine wpQuiet_step (fun K hK => ?_)
          refine ⟨.bool false, fun w' _ => ?_, ?_⟩
          · first | (go_simp; done) | (go_simp; decide) | (go_simp; omega)
          with_reducible refine hK _ ?_
          clear hK K
          simp only [Act.put, List.setIfInBounds_toArray, List.set_cons_zero, List.set_cons_succ]
          with_reducible refine wpQuiet_step (fun K hK => ?_)
          refine k_quiet_else (by kernel_rfl) ?_
          with_reducible refine hK _ ?_
          clear hK K
          simp only [Act.put, List.setIfInBounds_toArray, List.set_cons_zero, List.set_cons_succ]
          with_reducible refine wpQuiet_step (fun K hK => ?_)
          refine k_quiet_else (by kernel_rfl) ?_
          with_reducible refine hK _ ?_
          clear hK K
          simp only [Act.put, List.setIfInBounds_toArray, List.set_cons_zero, List.set_cons_succ]
          with_reducible refine wpQuiet_step (fun K hK => ?_)
          refine k_quiet_else (by kernel_rfl) ?_
          with_reducible refine hK _ ?_
          clear hK K
          simp only [Act.put, List.setIfInBounds_toArray, List.set_cons_zero, List.set_cons_succ]
          with_reducible refine wpQuiet_step (fun K hK => ?_)
          refine k_quiet_else (by kernel_rfl) ?_
          with_reducible refine hK _ ?_
          clear hK K
          simp only [Act.put, List.setIfInBounds_toArray, List.set_cons_zero, List.set_cons_succ]
          with_reducible refine wpQuiet_step (fun K hK => ?_)
          refine k_quiet_else (by kernel_rfl) ?_
          with_reducible refine hK _ ?_
          clear hK K
          simp only [Act.put, List.setIfInBounds_toArray, List.set_cons_zero, List.set_cons_succ]
          with_reducible refine wpQuiet_step (fun K hK => ?_)
          refine k_quiet_else (by kernel_rfl) ?_
          with_reducible refine hK _ ?_
          clear hK K
          simp only [Act.put, List.setIfInBounds_toArray, List.set_cons_zero, List.set_cons_succ]
          with_reducible refine wpQuiet_step (fun K hK => ?_)
          refine k_quiet_else (by kernel_rfl) ?_
          with_reducible refine hK _ ?_
          clear hK K
          simp only [Act.put, List.setIfInBounds_toArray, List.set_cons_zero, List.set_cons_succ]
          with_reducible refine wpQuiet_step (fun K hK => ?_)
          refine k_quiet_else (by kernel_rfl) ?_
          with_reducible refine hK _ ?_
          clear hK K
          simp only [Act.put, List.setIfInBounds_toArray, List.set_cons_zero, List.set_cons_succ]
          with_reducible refine wpQuiet_step (fun K hK => ?_)
          refine k_quiet_else (by kernel_rfl) ?_
          with_reducible refine hK _ ?_
          clear hK K
          simp only [Act.put, List.setIfInBounds_toArray, List.set_cons_zero, List.set_cons_succ]
          with_reducible refine wpQuiet_step (fun K hK => ?_)
          refine k_quiet_else (by kernel_rfl) ?_
          with_reducible refine hK _ ?_
          clear hK K
          simp only [Act.put, List.setIfInBounds_toArray, List.set_cons_zero, List.set_cons_succ]
          with_reducible refine wpQuiet_step (fun K hK => ?_)
          refine k_quiet_else (by kernel_rfl) ?_
          with_reducible refine hK _ ?_
          clear hK K
          simp only [Act.put, List.setIfInBounds_toArray, List.set_cons_zero, List.set_cons_succ]
          with_reducible refine wpQuiet_step (fun K hK => ?_)
          refine k_quiet_else (by kernel_rfl) ?_
          with_reducible refine hK _ ?_
          clear hK K
          simp only [Act.put, List.setIfInBounds_toArray, List.set_cons_zero, List.set_cons_succ]
          with_reducible refine wpQuiet_step (fun K hK => ?_)
          refine ⟨.bool false, fun w' _ => ?_, ?_⟩
          · first | (go_simp; done) | (go_simp; decide) | (go_simp; omega)
          with_reducible refine hK _ ?_
          clear hK K
          simp only [Act.put, List.setIfInBounds_toArray, List.set_cons_zero, List.set_cons_succ]
          refine wpQuiet_nil ?_
          intro X1 hX1
          have hz' := hid_of (hz.out _ hX1)
          clear hz hX1
          go_wp2_with fail
          exact ⟨⟨i + 1, k + 1, by go_num, by have := hi.out; omega, .inl hk'.out, hz'.out.1, hz'.out.2⟩, by simp [intOf]; omega⟩
        · have e' : L1 = L ++ [x] := by simpa using e
          subst e'
          clear e
          obtain ⟨p, hp⟩ : ∃ p, Hid (A.length + L.length = p) := ⟨_, rfl⟩
          have hpj : p + 1 = j := by have := hI.out.at_; have := hp.out; simp at *; omega
          have hjn : j < n := by have := hI.out.dlen; have := hI.out.at_; simp at *; omega
          have hap : a ≤ p := by have := ha.out; have := hp.out; omega
          have j1 : (a : Int) < (j : Int) := by omega
          have j2 : (j : Int) < (n : Int) := by omega
          have j3 : (0 : Int) ≤ (j : Int) := by omega
          have j4 : (p : Int) < (n : Int) := by omega
          have j5 : (0 : Int) ≤ (p : Int) := by omega
          have j6 : IntKind.i64.wrap ((j : Int) - 1) = (p : Int) := by rw [wrap_in (by omega) (by omega)]; omega
          have hy' : (A ++ ((L ++ [x]) ++ (y :: (L2 ++ (M.drop (k + 1 + 1) ++ B)))))[j]? = some y := by
            rw [List.getElem?_append_right (by have := hp.out; omega), List.getElem?_append_right (by have := hp.out; simp; omega)]
            have : j - A.length - (L ++ [x]).length = 0 := by have := hp.out; simp; omega
            rw [this]; rfl
          have hx' : (A ++ ((L ++ [x]) ++ (y :: (L2 ++ (M.drop (k + 1 + 1) ++ B)))))[p]? = some x := by
            rw [List.getElem?_append_right (by have := hp.out; omega), List.getElem?_append_left (by have := hp.out; simp; omega), List.getElem?_append_right (by have := hp.out; omega)]
            have : p - A.length - L.length = 0 := by have := hp.out; omega
            rw [this]; rfl
          obtain ⟨gx1, gx2⟩ := hI.out.row p x hx'
          obtain ⟨gy1, gy2⟩ := hI.out.row j y hy'
          replace hpj := hid_of hpj
          clear hjn hap
          obtain ⟨x0, x1, x2, x3, x4, ex⟩ := seven (E.size x)
          obtain ⟨y0, y1, y2, y3, y4, ey⟩ := seven (E.size y)
          have gx1 : ∀ (r : Nat) u, (enc x)[r]? = some u → wr.cell? ⟨b, p * 5 + r, none⟩ = some u := fun r u hu => by have := gx1 r u (by simpa using hu); simpa using this
          have gy1 : ∀ (r : Nat) u, (enc y)[r]? = some u → wr.cell? ⟨b, j * 5 + r, none⟩ = some u := fun r u hu => by have := gy1 r u (by simpa using hu); simpa using this
          have xc0 : wr.cell? ⟨b, p * 5, none⟩ = some x0 := gx1 0 x0 (by rw [ex]; rfl)
          have xc1 : wr.cell? ⟨b, p * 5 + 1, none⟩ = some x1 := gx1 1 x1 (by rw [ex]; rfl)
          have xc2 : wr.cell? ⟨b, p * 5 + 2, none⟩ = some x2 := gx1 2 x2 (by rw [ex]; rfl)
          have xc3 : wr.cell? ⟨b, p * 5 + 3, none⟩ = some x3 := gx1 3 x3 (by rw [ex]; rfl)
          have xc4 : wr.cell? ⟨b, p * 5 + 4, none⟩ = some x4 := gx1 4 x4 (by rw [ex]; rfl)
          have yc0 : wr.cell? ⟨b, j * 5, none⟩ = some y0 := gy1 0 y0 (by rw [ey]; rfl)
          have yc1 : wr.cell? ⟨b, j * 5 + 1, none⟩ = some y1 := gy1 1 y1 (by rw [ey]; rfl)
          have yc2 : wr.cell? ⟨b, j * 5 + 2, none⟩ = some y2 := gy1 2 y2 (by rw [ey]; rfl)
          have yc3 : wr.cell? ⟨b, j * 5 + 3, none⟩ = some y3 := gy1 3 y3 (by rw [ey]; rfl)
          have yc4 : wr.cell? ⟨b, j * 5 + 4, none⟩ = some y4 := gy1 4 y4 (by rw [ey]; rfl)
          have hwB := hid_of (hw0.out.trans hI.out.but)
          have hcx := hid_of (hcmp.out y x)
          rw [ex, ey] at hcx
          clear gx1 gx2 gy1 gy2
          replace hx' := hid_of hx'
          replace hy' := hid_of hy'
          go_wp2_with fail
          refine wp_region_quiet (C := fun w' => Below wr.heap.size wr w') (by kernel_rfl) (by kernel_rfl) (below_drewN (Below.refl _ _) 1) ?_
          with_reducible refine wpQuiet_step (fun K hK => ?_)
          try refine k_quiet_if (by kernel_rfl) ?_
          refine ⟨.int .i64 j, fun w' _ => ?_, ?_⟩
          · first | (go_simp; done) | (go_simp; decide)
          with_reducible refine hK _ ?_
          clear hK K
          simp only [Act.put, List.setIfInBounds_toArray, List.set_cons_zero, List.set_cons_succ]
          with_reducible refine wpQuiet_step (fun K hK => ?_)
          try refine k_quiet_if (by kernel_rfl) ?_
          refine ⟨.int .i64 a, fun w' _ => ?_, ?_⟩
          · first | (go_simp; done) | (go_simp; decide)
          with_reducible refine hK _ ?_
          clear hK K
          simp only [Act.put, List.setIfInBounds_toArray, List.set_cons_zero, List.set_cons_succ]
          with_reducible refine wpQuiet_step (fun K hK => ?_)
          try refine k_quiet_if (by kernel_rfl) ?_
          refine ⟨.bool true, fun w' _ => ?_, ?_⟩
          · first | (go_simp; done) | (go_simp; decide)
          with_reducible refine hK _ ?_
          clear hK K
          simp only [Act.put, List.setIfInBounds_toArray, List.set_cons_zero, List.set_cons_succ]
          with_reducible refine wpQuiet_step (fun K hK => ?_)
          try refine k_quiet_if (by kernel_rfl) ?_
          refine ⟨.bool true, fun w' _ => ?_, ?_⟩
          · first | (go_simp; done) | (go_simp; decide)
          with_reducible refine hK _ ?_
          clear hK K
          simp only [Act.put, List.setIfInBounds_toArray, List.set_cons_zero, List.set_cons_succ]
          with_reducible refine wpQuiet_step (fun K hK => ?_)
          try refine k_quiet_if (by kernel_rfl) ?_
          refine ⟨.func (.func 59) #[] #[], fun w' _ => ?_, ?_⟩
          · first | (go_simp; done) | (go_simp; decide)
          with_reducible refine hK _ ?_
          clear hK K
          simp only [Act.put, List.setIfInBounds_toArray, List.set_cons_zero, List.set_cons_succ]
          with_reducible refine wpQuiet_step (fun K hK => ?_)
          try refine k_quiet_if (by kernel_rfl) ?_
          refine ⟨.slice (some ⟨b, 0, none⟩) n cap, fun w' _ => ?_, ?_⟩
          · first | (go_simp; done) | (go_simp; decide)
          with_reducible refine hK _ ?_
          clear hK K
          simp only [Act.put, List.setIfInBounds_toArray, List.set_cons_zero, List.set_cons_succ]
          with_reducible refine wpQuiet_step (fun K hK => ?_)
          try refine k_quiet_if (by kernel_rfl) ?_
          refine ⟨.int .i64 j, fun w' _ => ?_, ?_⟩
          · first | (go_simp; done) | (go_simp; decide)
          with_reducible refine hK _ ?_
          clear hK K
          simp only [Act.put, List.setIfInBounds_toArray, List.set_cons_zero, List.set_cons_succ]
          with_reducible refine wpQuiet_step (fun K hK => ?_)
          try refine k_quiet_if (by kernel_rfl) ?_
          refine ⟨.pointer (some ⟨b, j * 5, none⟩), fun w' _ => ?_, ?_⟩
          · first | (go_simp; done) | (go_simp; decide)
          with_reducible refine hK _ ?_
          clear hK K
          simp only [Act.put, List.setIfInBounds_toArray, List.set_cons_zero, List.set_cons_succ]
          with_reducible refine wpQuiet_step (fun K hK => ?_)
          try refine k_quiet_if (by kernel_rfl) ?_
          refine ⟨.agg #[y0, y1, y2, y3, y4], fun w' hw' => ?_, ?_⟩
          · have t0 := stay hw' yc0
            have t1 := stay hw' yc1
            have t2 := stay hw' yc2
            have t3 := stay hw' yc3
            have t4 := stay hw' yc4
            go_simp
          with_reducible refine hK _ ?_
          clear hK K
          simp only [Act.put, List.setIfInBounds_toArray, List.set_cons_zero, List.set_cons_succ]
          with_reducible refine wpQuiet_step (fun K hK => ?_)
          try refine k_quiet_if (by kernel_rfl) ?_
          refine ⟨.slice (some ⟨b, 0, none⟩) n cap, fun w' _ => ?_, ?_⟩
          · first | (go_simp; done) | (go_simp; decide)
          with_reducible refine hK _ ?_
          clear hK K
          simp only [Act.put, List.setIfInBounds_toArray, List.set_cons_zero, List.set_cons_succ]
          with_reducible refine wpQuiet_step (fun K hK => ?_)
          try refine k_quiet_if (by kernel_rfl) ?_
          refine ⟨.int .i64 j, fun w' _ => ?_, ?_⟩
          · first | (go_simp; done) | (go_simp; decide)
          with_reducible refine hK _ ?_
          clear hK K
          simp only [Act.put, List.setIfInBounds_toArray, List.set_cons_zero, List.set_cons_succ]
          with_reducible refine wpQuiet_step (fun K hK => ?_)
          try refine k_quiet_if (by kernel_rfl) ?_
          refine ⟨.int .i64 p, fun w' _ => ?_, ?_⟩
          · first | (go_simp; done) | (go_simp; decide)
          with_reducible refine hK _ ?_
          clear hK K
          simp only [Act.put, List.setIfInBounds_toArray, List.set_cons_zero, List.set_cons_succ]
          with_reducible refine wpQuiet_step (fun K hK => ?_)
          try refine k_quiet_if (by kernel_rfl) ?_
          refine ⟨.pointer (some ⟨b, p * 5, none⟩), fun w' _ => ?_, ?_⟩
          · first | (go_simp; done) | (go_simp; decide)
          with_reducible refine hK _ ?_
          clear hK K
          simp only [Act.put, List.setIfInBounds_toArray, List.set_cons_zero, List.set_cons_succ]
          with_reducible refine wpQuiet_step (fun K hK => ?_)
          try refine k_quiet_if (by kernel_rfl) ?_
          refine ⟨.agg #[x0, x1, x2, x3, x4], fun w' hw' => ?_, ?_⟩
          · have t0 := stay hw' xc0
            have t1 := stay hw' xc1
            have t2 := stay hw' xc2
            have t3 := stay hw' xc3
            have t4 := stay hw' xc4
            go_simp
          with_reducible refine hK _ ?_
          clear hK K
          simp only [Act.put, List.setIfInBounds_toArray, List.set_cons_zero, List.set_cons_succ]
          with_reducible refine wpQuiet_step (fun K hK => ?_)
          try refine k_quiet_if (by kernel_rfl) ?_
          refine ⟨.int .i64 (cn y x), fun w' hw' => ?_, ?_⟩
          · go_simp
            refine (hcx.out w' (hwB.out.trans (But.of_below hw'))).mono ?_
            rintro e w'' ⟨rfl, hb⟩
            exact ⟨rfl, hw'.trans (hb.mono hw'.size)⟩
          with_reducible refine hK _ ?_
          clear hK K
          simp only [Act.put, List.setIfInBounds_toArray, List.set_cons_zero, List.set_cons_succ]
          by_cases hcz : cn y x < 0
          · have hly : lt y x = true := by rw [hlt.out]; exact decide_eq_true hcz
            with_reducible refine wpQuiet_step (fun K hK => ?_)
            try refine k_quiet_if (by kernel_rfl) ?_
            refine ⟨.bool true, fun w' _ => ?_, ?_⟩
            · first | (go_simp; done) | (go_simp; decide)
            with_reducible refine hK _ ?_
            clear hK K
            simp only [Act.put, List.setIfInBounds_toArray, List.set_cons_zero, List.set_cons_succ]
            with_reducible refine wpQuiet_step (fun K hK => ?_)
            try refine k_quiet_if (by kernel_rfl) ?_
            refine ⟨.bool true, fun w' _ => ?_, ?_⟩
            · first | (go_simp; done) | (go_simp; decide)
            with_reducible refine hK _ ?_
            clear hK K
            simp only [Act.put, List.setIfInBounds_toArray, List.set_cons_zero, List.set_cons_succ]
            refine wpQuiet_nil ?_
            intro X1 hX1
            have hI1 := hid_of (hI.out.keep hX1)
            obtain ⟨-, gx2⟩ := hI1.out.row p x hx'.out
            obtain ⟨-, gy2⟩ := hI1.out.row j y hy'.out
            have ox : ∀ (r : Nat) u, (enc x)[r]? = some u → u.oneCell' = true := fun r u hu => Array.all_eq_true_iff_forall_mem.1 (E.one x) u (Array.mem_of_getElem? hu)
            have oy : ∀ (r : Nat) u, (enc y)[r]? = some u → u.oneCell' = true := fun r u hu => Array.all_eq_true_iff_forall_mem.1 (E.one y) u (Array.mem_of_getElem? hu)
            have gx2 : ∀ (r : Nat), r < 5 → (X1.cell? ⟨b, p * 5 + r, none⟩).isSome = true ∧ X1.frozen? ⟨b, p * 5 + r, none⟩ = false := fun r hr => by have := gx2 r hr; simpa using this
            have gy2 : ∀ (r : Nat), r < 5 → (X1.cell? ⟨b, j * 5 + r, none⟩).isSome = true ∧ X1.frozen? ⟨b, j * 5 + r, none⟩ = false := fun r hr => by have := gy2 r hr; simpa using this
            have xd0 : X1.cell? ⟨b, p * 5, none⟩ = some x0 := stay hX1 xc0
            have xf0 : X1.frozen? ⟨b, p * 5, none⟩ = false := (gx2 0 (by omega)).2
            have xo0 : x0.oneCell' = true := ox 0 x0 (by rw [ex]; rfl)
            have xd1 : X1.cell? ⟨b, p * 5 + 1, none⟩ = some x1 := stay hX1 xc1
            have xf1 : X1.frozen? ⟨b, p * 5 + 1, none⟩ = false := (gx2 1 (by omega)).2
            have xo1 : x1.oneCell' = true := ox 1 x1 (by rw [ex]; rfl)
            have xd2 : X1.cell? ⟨b, p * 5 + 2, none⟩ = some x2 := stay hX1 xc2
            have xf2 : X1.frozen? ⟨b, p * 5 + 2, none⟩ = false := (gx2 2 (by omega)).2
            have xo2 : x2.oneCell' = true := ox 2 x2 (by rw [ex]; rfl)
            have xd3 : X1.cell? ⟨b, p * 5 + 3, none⟩ = some x3 := stay hX1 xc3
            have xf3 : X1.frozen? ⟨b, p * 5 + 3, none⟩ = false := (gx2 3 (by omega)).2
            have xo3 : x3.oneCell' = true := ox 3 x3 (by rw [ex]; rfl)
            have xd4 : X1.cell? ⟨b, p * 5 + 4, none⟩ = some x4 := stay hX1 xc4
            have xf4 : X1.frozen? ⟨b, p * 5 + 4, none⟩ = false := (gx2 4 (by omega)).2
            have xo4 : x4.oneCell' = true := ox 4 x4 (by rw [ex]; rfl)
            have yd0 : X1.cell? ⟨b, j * 5, none⟩ = some y0 := stay hX1 yc0
            have yf0 : X1.frozen? ⟨b, j * 5, none⟩ = false := (gy2 0 (by omega)).2
            have yo0 : y0.oneCell' = true := oy 0 y0 (by rw [ey]; rfl)
            have yd1 : X1.cell? ⟨b, j * 5 + 1, none⟩ = some y1 := stay hX1 yc1
            have yf1 : X1.frozen? ⟨b, j * 5 + 1, none⟩ = false := (gy2 1 (by omega)).2
            have yo1 : y1.oneCell' = true := oy 1 y1 (by rw [ey]; rfl)
            have yd2 : X1.cell? ⟨b, j * 5 + 2, none⟩ = some y2 := stay hX1 yc2
            have yf2 : X1.frozen? ⟨b, j * 5 + 2, none⟩ = false := (gy2 2 (by omega)).2
            have yo2 : y2.oneCell' = true := oy 2 y2 (by rw [ey]; rfl)
            have yd3 : X1.cell? ⟨b, j * 5 + 3, none⟩ = some y3 := stay hX1 yc3
            have yf3 : X1.frozen? ⟨b, j * 5 + 3, none⟩ = false := (gy2 3 (by omega)).2
            have yo3 : y3.oneCell' = true := oy 3 y3 (by rw [ey]; rfl)
            have yd4 : X1.cell? ⟨b, j * 5 + 4, none⟩ = some y4 := stay hX1 yc4
            have yf4 : X1.frozen? ⟨b, j * 5 + 4, none⟩ = false := (gy2 4 (by omega)).2
            have yo4 : y4.oneCell' = true := oy 4 y4 (by rw [ey]; rfl)
            have hend : Hid (Ins enc lt w b n A S y (M.drop (k + 1 + 1) ++ B) p ((X1.setCells b (j * 5) (enc x).toList).setCells b (p * 5) (enc y).toList).drew L (x :: L2)) := by
              have hlj := (List.getElem?_eq_some_iff.1 hy'.out).1
              have hlp := (List.getElem?_eq_some_iff.1 hx'.out).1
              refine hI1.out.put hpj.out hly ?_ ((setCells_but b _ _ _).trans (setCells_but b _ _ _)).drew
              have h2 := (hI1.out.row.set E hlj x).set E (j := p) (by simpa using hlp) y
              exact h2.drew
            have n1 : ∀ r s, r < 5 → s < 5 → (p * 5 + r = j * 5 + s) = False := fun r s h1 h2 => eq_false (by have := hpj.out; omega)
            have n2 : ∀ s, s < 5 → (p * 5 = j * 5 + s) = False := fun s h2 => eq_false (by have := hpj.out; omega)
            have n3 : ∀ r, r < 5 → (p * 5 + r = j * 5) = False := fun r h1 => eq_false (by have := hpj.out; omega)
            have n4 : (p * 5 = j * 5) = False := eq_false (by have := hpj.out; omega)
            have n5 : ∀ r s, r < 5 → s < 5 → (j * 5 + s = p * 5 + r) = False := fun r s h1 h2 => eq_false (by have := hpj.out; omega)
            have n6 : ∀ s, s < 5 → (j * 5 + s = p * 5) = False := fun s h2 => eq_false (by have := hpj.out; omega)
            have n7 : ∀ r, r < 5 → (j * 5 = p * 5 + r) = False := fun r h1 => eq_false (by have := hpj.out; omega)
            have n8 : (j * 5 = p * 5) = False := eq_false (by have := hpj.out; omega)
            rw [ex, ey] at hend
            clear hI hI1 hX1 gx2 gy2 ox oy xc0 xc1 xc2 xc3 xc4 yc0 yc1 yc2 yc3 yc4 hcx hfin hx' hy' hcmp
            have hst := run_st
            go_upto_region 6 with fail
            go_region
            all_goals
              obtain ⟨X, hX⟩ : ∃ X, Hid (((((((((((X1.setCell ⟨b, j * 5, none⟩ x0).setCell ⟨b, j * 5 + 1, none⟩ x1).setCell ⟨b, j * 5 + 2, none⟩ x2).setCell ⟨b, j * 5 + 3, none⟩ x3).setCell ⟨b, j * 5 + 4, none⟩ x4).setCell ⟨b, p * 5, none⟩ y0).setCell ⟨b, p * 5 + 1, none⟩ y1).setCell ⟨b, p * 5 + 2, none⟩ y2).setCell ⟨b, p * 5 + 3, none⟩ y3).setCell ⟨b, p * 5 + 4, none⟩ y4).drew = X) := ⟨_, rfl⟩
              have hfi : Hid (Ins enc lt w b n A S y (M.drop (k + 1 + 1) ++ B) p X L (x :: L2)) := by rw [← hX.out]; exact hend.out
              rw [hX.out]
              clear hend hst n1 n2 n3 n4 n5 n6 n7 n8 xd0 xf0 xo0 xd1 xf1 xo1 xd2 xf2 xo2 xd3 xf3 xo3 xd4 xf4 xo4 yd0 yf0 yo0 yd1 yf1 yo1 yd2 yf2 yo2 yd3 yf3 yo3 yd4 yf4 yo4
              go_wp2_with fail
              exact ⟨⟨p, L, x :: L2, by first | rfl | (rw [j6]), hfi⟩, by have := hpj.out; simp [intOf]; omega⟩
          · have hly : lt y x = false := by rw [hlt.out]; exact decide_eq_false hcz
            with_reducible refine wpQuiet_step (fun K hK => ?_)
            try refine k_quiet_if (by kernel_rfl) ?_
            refine ⟨.bool false, fun w' _ => ?_, ?_⟩
            · first | (go_simp; done) | (go_simp; decide)
            with_reducible refine hK _ ?_
            clear hK K
            simp only [Act.put, List.setIfInBounds_toArray, List.set_cons_zero, List.set_cons_succ]
            with_reducible refine wpQuiet_step (fun K hK => ?_)
            try refine k_quiet_if (by kernel_rfl) ?_
            refine ⟨.bool false, fun w' _ => ?_, ?_⟩
            · first | (go_simp; done) | (go_simp; decide)
            with_reducible refine hK _ ?_
            clear hK K
            simp only [Act.put, List.setIfInBounds_toArray, List.set_cons_zero, List.set_cons_succ]
            refine wpQuiet_nil ?_
            intro X1 hX1
            have hz := hid_of (hfin.out _ X1 _ _ (hI.out.keep hX1) (fun L' x' e => by have := List.append_inj' e rfl; simp at this; rw [← this.2]; exact hly))
            clear xc0 xc1 xc2 xc3 xc4 yc0 yc1 yc2 yc3 yc4 hcx hfin hI hX1
            go_wp2_with fail
            exact ⟨⟨i + 1, k + 1, by go_num, by have := hi.out; omega, .inl hk'.out, hz.out.1, hz.out.2⟩, by simp [intOf]; omega⟩
    · have i1 : ¬ (i : Int) < (c : Int) := by omega
      have hM : M.length ≤ k + 1 := by have := hc.out; omega
      rw [List.take_of_length_le hM, List.drop_eq_nil_of_le hM] at hRi
      go_wp2_with fail
      exact bodyPost_end (results_none rfl _ _ _) rfl ⟨rfl, hRi.out, hBi.out⟩
end
end Go.Proofs.YtgigikcopedoeaaGreat.SortedV
