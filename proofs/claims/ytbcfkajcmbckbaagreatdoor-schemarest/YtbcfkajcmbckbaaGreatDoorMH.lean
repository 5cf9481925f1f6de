import Derived.Below
/-! Stable sorting, plain: merging, the sort by insertion, and that merging in halves is the same. No program. -/
namespace Go.Stab
variable {α : Type}
/-- A strict weak order, as a test. -/
structure Swo (lt : α → α → Bool) : Prop where
  irr : ∀ x, lt x x = false
  tr : ∀ x y z, lt x y = true → lt y z = true → lt x z = true
  neg : ∀ x y z, lt x y = false → lt y z = false → lt x z = false
/-- Two lists as one: what is alike comes out of the first one first. -/
def mergeL (lt : α → α → Bool) : List α → List α → List α
  | [], r => r
  | x :: l, [] => x :: l
  | x :: l, y :: r => if lt y x then y :: mergeL lt (x :: l) r else x :: mergeL lt l (y :: r)
termination_by l r => l.length + r.length
theorem mergeL_nil (lt : α → α → Bool) (l : List α) : mergeL lt l [] = l := by cases l <;> simp [mergeL]
theorem nil_mergeL (lt : α → α → Bool) (r : List α) : mergeL lt [] r = r := by simp [mergeL]
theorem mergeL_cons (lt : α → α → Bool) (x y : α) (l r : List α) : mergeL lt (x :: l) (y :: r) = if lt y x then y :: mergeL lt (x :: l) r else x :: mergeL lt l (y :: r) := by rw [mergeL]
theorem mergeL_length (lt : α → α → Bool) : ∀ (l r : List α), (mergeL lt l r).length = l.length + r.length
  | [], r => by simp [nil_mergeL]
  | x :: l, [] => by simp [mergeL_nil]
  | x :: l, y :: r => by
    rw [mergeL_cons]
    split
    · simp [mergeL_length lt (x :: l) r]; omega
    · simp [mergeL_length lt l (y :: r)]; omega
termination_by l r => l.length + r.length
theorem mergeL_perm (lt : α → α → Bool) : ∀ (l r : List α), (mergeL lt l r).Perm (l ++ r)
  | [], r => by simp [nil_mergeL]
  | x :: l, [] => by simp [mergeL_nil]
  | x :: l, y :: r => by
    rw [mergeL_cons]
    split
    · exact ((mergeL_perm lt (x :: l) r).cons y).trans (List.perm_middle (a := y) (l₁ := x :: l) (l₂ := r)).symm
    · exact (mergeL_perm lt l (y :: r)).cons x
termination_by l r => l.length + r.length
theorem mergeL_mem (lt : α → α → Bool) (l r : List α) (z : α) : z ∈ mergeL lt l r ↔ z ∈ l ∨ z ∈ r := by rw [(mergeL_perm lt l r).mem_iff, List.mem_append]
/-- A merge falls into two where all of one end of the right part is below all of the other end of the left one, and so on: no sorting is asked. -/
theorem mergeL_split (lt : α → α → Bool) : ∀ (l1 r1 l2 r2 : List α), (∀ y ∈ r1, ∀ x ∈ l2, lt y x = true) → (∀ x ∈ l1, ∀ y ∈ r2, lt y x = false) → mergeL lt (l1 ++ l2) (r1 ++ r2) = mergeL lt l1 r1 ++ mergeL lt l2 r2
  | [], [], l2, r2, _, _ => by simp [nil_mergeL]
  | [], y :: r1, l2, r2, h1, h2 => by
    have ih := mergeL_split lt [] r1 l2 r2 (fun y' hy' => h1 y' (List.mem_cons_of_mem _ hy')) h2
    rw [nil_mergeL] at ih ⊢
    cases l2 with
    | nil => simp [nil_mergeL]
    | cons x l2 =>
      simp only [List.nil_append, List.cons_append] at ih ⊢
      rw [mergeL_cons, if_pos (h1 y (List.mem_cons_self ..) x (List.mem_cons_self ..)), ih]
  | x :: l1, [], l2, r2, h1, h2 => by
    have ih := mergeL_split lt l1 [] l2 r2 h1 (fun x' hx' => h2 x' (List.mem_cons_of_mem _ hx'))
    rw [mergeL_nil] at ih ⊢
    cases r2 with
    | nil => simp [mergeL_nil]
    | cons y r2 =>
      simp only [List.nil_append, List.cons_append] at ih ⊢
      rw [mergeL_cons, h2 x (List.mem_cons_self ..) y (List.mem_cons_self ..), if_neg (by simp), ih]
  | x :: l1, y :: r1, l2, r2, h1, h2 => by
    simp only [List.cons_append]
    rw [mergeL_cons, mergeL_cons]
    split
    · have ih := mergeL_split lt (x :: l1) r1 l2 r2 (fun y' hy' => h1 y' (List.mem_cons_of_mem _ hy')) h2
      simp only [List.cons_append] at ih
      rw [ih, List.cons_append]
    · have ih := mergeL_split lt l1 (y :: r1) l2 r2 h1 (fun x' hx' => h2 x' (List.mem_cons_of_mem _ hx'))
      simp only [List.cons_append] at ih
      rw [ih, List.cons_append]
termination_by l1 r1 => l1.length + r1.length
/-- One ahead of the others goes in behind those that are below it. -/
theorem mergeL_one (lt : α → α → Bool) (x : α) (r1 r2 : List α) (h1 : ∀ y ∈ r1, lt y x = true) (h2 : ∀ y ∈ r2, lt y x = false) : mergeL lt [x] (r1 ++ r2) = r1 ++ x :: r2 := by
  have h := mergeL_split lt [] r1 [x] r2 (fun y hy x' hx' => by simp at hx'; subst hx'; exact h1 y hy) (fun x' hx' => by cases hx')
  rw [List.nil_append] at h
  rw [h, nil_mergeL]
  cases r2 with
  | nil => simp [mergeL_nil]
  | cons y r2 => rw [mergeL_cons, h2 y (List.mem_cons_self ..), if_neg (by simp), nil_mergeL]
/-- One behind the others goes in ahead of those that are above it. -/
theorem mergeL_last (lt : α → α → Bool) (y : α) (l1 l2 : List α) (h1 : ∀ x ∈ l1, lt y x = false) (h2 : ∀ x ∈ l2, lt y x = true) : mergeL lt (l1 ++ l2) [y] = l1 ++ y :: l2 := by
  have h := mergeL_split lt l1 [] l2 [y] (fun y' hy' => by cases hy') (fun x hx y' hy' => by simp at hy'; subst hy'; exact h1 x hx)
  rw [List.nil_append] at h
  rw [h, mergeL_nil]
  cases l2 with
  | nil => simp [nil_mergeL]
  | cons x l2 => rw [mergeL_cons, h2 x (List.mem_cons_self ..), if_pos rfl, mergeL_nil]
/-- None is below one that stands ahead of it. -/
def Up (lt : α → α → Bool) : List α → Prop
  | [] => True
  | x :: l => (∀ y ∈ l, lt y x = false) ∧ Up lt l
theorem Up.append {lt : α → α → Bool} : ∀ {l r : List α}, Up lt (l ++ r) → Up lt l ∧ Up lt r ∧ ∀ x ∈ l, ∀ y ∈ r, lt y x = false
  | [], r, h => ⟨trivial, h, fun x hx => by cases hx⟩
  | z :: l, r, h => by
    obtain ⟨h1, h2, h3⟩ := Up.append (l := l) (r := r) h.2
    refine ⟨⟨fun y hy => h.1 y (List.mem_append_left _ hy), h1⟩, h2, fun x hx y hy => ?_⟩
    rcases List.mem_cons.1 hx with rfl | hx
    · exact h.1 y (List.mem_append_right _ hy)
    · exact h3 x hx y hy
theorem Up.mk {lt : α → α → Bool} : ∀ {l r : List α}, Up lt l → Up lt r → (∀ x ∈ l, ∀ y ∈ r, lt y x = false) → Up lt (l ++ r)
  | [], _, _, h, _ => h
  | z :: l, r, h1, h2, h3 => ⟨fun y hy => by
      rcases List.mem_append.1 hy with hy | hy
      · exact h1.1 y hy
      · exact h3 z (List.mem_cons_self ..) y hy, Up.mk h1.2 h2 (fun x hx => h3 x (List.mem_cons_of_mem _ hx))⟩
theorem mergeL_up {lt : α → α → Bool} (S : Swo lt) : ∀ (l r : List α), Up lt l → Up lt r → Up lt (mergeL lt l r)
  | [], r, _, h => by rw [nil_mergeL]; exact h
  | x :: l, [], h, _ => by rw [mergeL_nil]; exact h
  | x :: l, y :: r, h1, h2 => by
    rw [mergeL_cons]
    split
    · rename_i hlt
      refine ⟨fun z hz => ?_, mergeL_up S (x :: l) r h1 h2.2⟩
      rcases (mergeL_mem lt _ _ z).1 hz with hz | hz
      · have hzx : lt z x = false := by
          rcases List.mem_cons.1 hz with rfl | hz
          · exact S.irr _
          · exact h1.1 z hz
        cases hzy : lt z y with
        | false => rfl
        | true => rw [S.tr z y x hzy hlt] at hzx; cases hzx
      · exact h2.1 z hz
    · rename_i hlt
      refine ⟨fun z hz => ?_, mergeL_up S l (y :: r) h1.2 h2⟩
      have hyx : lt y x = false := by simpa using hlt
      rcases (mergeL_mem lt _ _ z).1 hz with hz | hz
      · exact h1.1 z hz
      · rcases List.mem_cons.1 hz with rfl | hz
        · exact hyx
        · exact S.neg z y x (h2.1 z hz) hyx
termination_by l r => l.length + r.length
/-- Merging goes on. -/
theorem mergeL_assoc {lt : α → α → Bool} (S : Swo lt) : ∀ (a b c : List α), Up lt a → Up lt b → Up lt c → mergeL lt (mergeL lt a b) c = mergeL lt a (mergeL lt b c)
  | [], b, c, _, _, _ => by rw [nil_mergeL, nil_mergeL]
  | x :: a, [], c, _, _, _ => by rw [mergeL_nil, nil_mergeL]
  | x :: a, y :: b, [], _, _, _ => by rw [mergeL_nil, mergeL_nil]
  | x :: a, y :: b, z :: c, ha, hb, hc => by
    by_cases hyx : lt y x = true
    · by_cases hzy : lt z y = true
      · have hzx := S.tr z y x hzy hyx
        have ih := mergeL_assoc S (x :: a) (y :: b) c ha hb hc.2
        rw [mergeL_cons lt x y, if_pos hyx] at ih
        rw [mergeL_cons lt x y, if_pos hyx, mergeL_cons lt y z, if_pos hzy, mergeL_cons lt y z b c, if_pos hzy, mergeL_cons lt x z, if_pos hzx, ih]
      · have ih := mergeL_assoc S (x :: a) b (z :: c) ha hb.2 hc
        rw [mergeL_cons lt x y, if_pos hyx, mergeL_cons lt y z, if_neg hzy, mergeL_cons lt y z b c, if_neg hzy, mergeL_cons lt x y, if_pos hyx, ih]
    · have hyx' : lt y x = false := by simpa using hyx
      by_cases hzy : lt z y = true
      · by_cases hzx : lt z x = true
        · have ih := mergeL_assoc S (x :: a) (y :: b) c ha hb hc.2
          rw [mergeL_cons lt x y, if_neg hyx] at ih
          rw [mergeL_cons lt x y, if_neg hyx, mergeL_cons lt x z, if_pos hzx, mergeL_cons lt y z b c, if_pos hzy, mergeL_cons lt x z, if_pos hzx, ih]
        · have ih := mergeL_assoc S a (y :: b) (z :: c) ha.2 hb hc
          rw [mergeL_cons lt y z b c, if_pos hzy] at ih
          rw [mergeL_cons lt x y, if_neg hyx, mergeL_cons lt x z, if_neg hzx, mergeL_cons lt y z b c, if_pos hzy, mergeL_cons lt x z, if_neg hzx, ih]
      · have hzx : ¬ lt z x = true := by
          have := S.neg z y x (by simpa using hzy) hyx'
          simp [this]
        have ih := mergeL_assoc S a (y :: b) (z :: c) ha.2 hb hc
        rw [mergeL_cons lt y z b c, if_neg hzy] at ih
        rw [mergeL_cons lt x y, if_neg hyx, mergeL_cons lt x z, if_neg hzx, mergeL_cons lt y z b c, if_neg hzy, mergeL_cons lt x y, if_neg hyx, ih]
termination_by a b c => a.length + b.length + c.length
/-- The sort by insertion: each one goes in behind what is not above it. -/
def isort (lt : α → α → Bool) (l : List α) : List α := l.foldl (fun s y => mergeL lt s [y]) []
theorem isort_snoc (lt : α → α → Bool) (l : List α) (y : α) : isort lt (l ++ [y]) = mergeL lt (isort lt l) [y] := by simp [isort, List.foldl_append]
theorem isort_up {lt : α → α → Bool} (S : Swo lt) (l : List α) : Up lt (isort lt l) := by
  have h : ∀ (n : Nat) (l : List α), l.length = n → Up lt (isort lt l) := by
    intro n
    induction n with
    | zero => intro l hl; rw [List.eq_nil_of_length_eq_zero hl]; trivial
    | succ n ih =>
      intro l hl
      rcases List.eq_nil_or_concat l with rfl | ⟨l', y, rfl⟩
      · trivial
      · simp only [List.concat_eq_append] at hl ⊢
        rw [isort_snoc]
        exact mergeL_up S _ _ (ih l' (by simp at hl; omega)) ⟨(fun _ h => by cases h), trivial⟩
  exact h _ l rfl
/-- Sorted apart and merged is sorted at once. -/
theorem isort_append {lt : α → α → Bool} (S : Swo lt) (l r : List α) : isort lt (l ++ r) = mergeL lt (isort lt l) (isort lt r) := by
  have h : ∀ (n : Nat) (r : List α), r.length = n → isort lt (l ++ r) = mergeL lt (isort lt l) (isort lt r) := by
    intro n
    induction n with
    | zero => intro r hr; rw [List.eq_nil_of_length_eq_zero hr, List.append_nil]; exact (mergeL_nil lt _).symm
    | succ n ih =>
      intro r hr
      rcases List.eq_nil_or_concat r with rfl | ⟨r', y, rfl⟩
      · simp at hr
      · simp only [List.concat_eq_append] at hr ⊢
        rw [← List.append_assoc, isort_snoc, isort_snoc, ih r' (by simp at hr; omega)]
        exact mergeL_assoc S _ _ _ (isort_up S l) (isort_up S r') ⟨(fun _ h => by cases h), trivial⟩
  exact h _ r rfl
theorem isort_perm (lt : α → α → Bool) (l : List α) : (isort lt l).Perm l := by
  have h : ∀ (n : Nat) (l : List α), l.length = n → (isort lt l).Perm l := by
    intro n
    induction n with
    | zero => intro l hl; rw [List.eq_nil_of_length_eq_zero hl]; exact List.Perm.refl _
    | succ n ih =>
      intro l hl
      rcases List.eq_nil_or_concat l with rfl | ⟨l', y, rfl⟩
      · exact List.Perm.refl _
      · simp only [List.concat_eq_append] at hl ⊢
        rw [isort_snoc]
        exact (mergeL_perm lt _ _).trans ((ih l' (by simp at hl; omega)).append_right _)
  exact h _ l rfl
theorem isort_length (lt : α → α → Bool) (l : List α) : (isort lt l).length = l.length := (isort_perm lt l).length_eq
/-- What is sorted stays. -/
theorem isort_same {lt : α → α → Bool} : ∀ (l : List α), Up lt l → isort lt l = l := fun l => by
  have h : ∀ (n : Nat) (l : List α), l.length = n → Up lt l → isort lt l = l := by
    intro n
    induction n with
    | zero => intro l hl _; rw [List.eq_nil_of_length_eq_zero hl]; rfl
    | succ n ih =>
      intro l hl hu
      rcases List.eq_nil_or_concat l with rfl | ⟨l', y, rfl⟩
      · rfl
      · simp only [List.concat_eq_append] at hl hu ⊢
        obtain ⟨u1, -, u3⟩ := hu.append
        rw [isort_snoc, ih l' (by simp at hl; omega) u1]
        have := mergeL_last lt y l' [] (fun x hx => u3 x hx y (by simp)) (fun x hx => by cases hx)
        simpa using this
  exact h _ l rfl
end Go.Stab
/-! Stable sorting, plain: where a merge is cut in two; rotation; blocks. No program. -/
namespace Go.Stab
variable {α : Type}
theorem Up.get {lt : α → α → Bool} (S : Swo lt) : ∀ {l : List α} (_ : Up lt l) {i j : Nat} {x y : α}, i ≤ j → l[i]? = some x → l[j]? = some y → lt y x = false
  | [], _, i, j, x, y, _, h, _ => by simp at h
  | z :: l, hu, i, j, x, y, hij, hx, hy => by
    rcases j with _ | j
    · obtain rfl : i = 0 := by omega
      rw [hx] at hy
      cases hy
      exact S.irr _
    · rcases i with _ | i
      · simp at hx hy
        subst hx
        exact hu.1 y (List.mem_of_getElem? hy)
      · simp at hx hy
        exact hu.2.get S (by omega) hx hy
/-- y is not above y', y' is below x', x' is not above x: then y is below x. -/
theorem Swo.sand {lt : α → α → Bool} (S : Swo lt) {y y' x' x : α} (h1 : lt y' y = false) (h2 : lt y' x' = true) (h3 : lt x x' = false) : lt y x = true := by
  cases h : lt y x with
  | true => rfl
  | false => rw [S.neg y' x x' (S.neg y' y x h1 h) h3] at h2; cases h2
theorem mem_take_get {l : List α} {n : Nat} {x : α} (h : x ∈ l.take n) : ∃ i, i < n ∧ l[i]? = some x := by
  obtain ⟨i, hi⟩ := List.mem_iff_getElem?.1 h
  rw [List.getElem?_take] at hi
  split at hi
  · exact ⟨i, by omega, hi⟩
  · cases hi
theorem mem_drop_get {l : List α} {n : Nat} {x : α} (h : x ∈ l.drop n) : ∃ i, n ≤ i ∧ l[i]? = some x := by
  obtain ⟨i, hi⟩ := List.mem_iff_getElem?.1 h
  rw [List.getElem?_drop] at hi
  exact ⟨n + i, by omega, hi⟩
/-- Where a merge is cut: by the neighbours of the cut alone. -/
theorem merge_cut {lt : α → α → Bool} (S : Swo lt) {l r : List α} (hl : Up lt l) (hr : Up lt r) (p q : Nat)
    (h1 : ∀ x y, l[p]? = some x → 0 < q → r[q - 1]? = some y → lt y x = true) (h2 : ∀ x y, 0 < p → l[p - 1]? = some x → r[q]? = some y → lt y x = false) (hp : p ≤ l.length) (hq : q ≤ r.length) :
    mergeL lt l r = mergeL lt (l.take p) (r.take q) ++ mergeL lt (l.drop p) (r.drop q) := by
  have h := mergeL_split lt (l.take p) (r.take q) (l.drop p) (r.drop q) (fun y hy x hx => ?_) (fun x hx y hy => ?_)
  · rw [List.take_append_drop, List.take_append_drop] at h
    exact h
  · obtain ⟨i, hi, ey⟩ := mem_take_get hy
    obtain ⟨j, hj, ex⟩ := mem_drop_get hx
    have hjl := (List.getElem?_eq_some_iff.1 ex).1
    obtain ⟨x', ex'⟩ : ∃ x', l[p]? = some x' := ⟨l[p], List.getElem?_eq_getElem (by omega)⟩
    obtain ⟨y', ey'⟩ : ∃ y', r[q - 1]? = some y' := ⟨r[q - 1], List.getElem?_eq_getElem (by omega)⟩
    exact S.sand (hr.get S (by omega) ey ey') (h1 x' y' ex' (by omega) ey') (hl.get S hj ex' ex)
  · obtain ⟨i, hi, ex⟩ := mem_take_get hx
    obtain ⟨j, hj, ey⟩ := mem_drop_get hy
    have hjl := (List.getElem?_eq_some_iff.1 ey).1
    obtain ⟨x', ex'⟩ : ∃ x', l[p - 1]? = some x' := ⟨l[p - 1], List.getElem?_eq_getElem (by omega)⟩
    obtain ⟨y', ey'⟩ : ∃ y', r[q]? = some y' := ⟨r[q], List.getElem?_eq_getElem (by omega)⟩
    exact S.neg y x' x (S.neg y y' x' (hr.get S hj ey' ey) (h2 x' y' (by omega) ex' ey')) (hl.get S (by omega) ex ex')
/-- The search for the cut: what is below at one place is so at all behind it. -/
theorem cut_mono {lt : α → α → Bool} (S : Swo lt) {l r : List α} (hl : Up lt l) (hr : Up lt r) {c c' d d' : Nat} {x x' y y' : α} (hc : c ≤ c') (hd : d' ≤ d) (ex : l[c]? = some x) (ex' : l[c']? = some x') (ey : r[d]? = some y) (ey' : r[d']? = some y') (h : lt y x = true) : lt y' x' = true :=
  S.sand (hr.get S hd ey' ey) h (hl.get S hc ex ex')
/-- One element ahead: the place is found by its neighbours. -/
theorem one_cut {lt : α → α → Bool} (S : Swo lt) {x : α} {r : List α} (hr : Up lt r) (q : Nat) (hq : q ≤ r.length) (h1 : ∀ y, 0 < q → r[q - 1]? = some y → lt y x = true) (h2 : ∀ y, r[q]? = some y → lt y x = false) : mergeL lt [x] r = r.take q ++ x :: r.drop q := by
  have h := mergeL_one lt x (r.take q) (r.drop q) (fun y hy => ?_) (fun y hy => ?_)
  · rw [List.take_append_drop] at h
    exact h
  · obtain ⟨i, hi, ey⟩ := mem_take_get hy
    obtain ⟨y', ey'⟩ : ∃ y', r[q - 1]? = some y' := ⟨r[q - 1], List.getElem?_eq_getElem (by omega)⟩
    exact S.sand (hr.get S (by omega) ey ey') (h1 y' (by omega) ey') (S.irr x)
  · obtain ⟨j, hj, ey⟩ := mem_drop_get hy
    have hjl := (List.getElem?_eq_some_iff.1 ey).1
    obtain ⟨y', ey'⟩ : ∃ y', r[q]? = some y' := ⟨r[q], List.getElem?_eq_getElem (by omega)⟩
    exact S.neg y y' x (hr.get S hj ey' ey) (h2 y' ey')
/-- One element behind. -/
theorem last_cut {lt : α → α → Bool} (S : Swo lt) {y : α} {l : List α} (hl : Up lt l) (p : Nat) (hp : p ≤ l.length) (h1 : ∀ x, 0 < p → l[p - 1]? = some x → lt y x = false) (h2 : ∀ x, l[p]? = some x → lt y x = true) : mergeL lt l [y] = l.take p ++ y :: l.drop p := by
  have h := mergeL_last lt y (l.take p) (l.drop p) (fun x hx => ?_) (fun x hx => ?_)
  · rw [List.take_append_drop] at h
    exact h
  · obtain ⟨i, hi, ex⟩ := mem_take_get hx
    obtain ⟨x', ex'⟩ : ∃ x', l[p - 1]? = some x' := ⟨l[p - 1], List.getElem?_eq_getElem (by omega)⟩
    exact S.neg y x' x (h1 x' (by omega) ex') (hl.get S (by omega) ex ex')
  · obtain ⟨j, hj, ex⟩ := mem_drop_get hx
    have hjl := (List.getElem?_eq_some_iff.1 ex).1
    obtain ⟨x', ex'⟩ : ∃ x', l[p]? = some x' := ⟨l[p], List.getElem?_eq_getElem (by omega)⟩
    exact S.sand (S.irr y) (h2 x' ex') (hl.get S hj ex' ex)
/-- Blocks of s elements, each sorted. -/
def chunks (lt : α → α → Bool) (s : Nat) : Nat → List α → List α
  | 0, _ => []
  | f + 1, l => if l.length ≤ s then isort lt l else isort lt (l.take s) ++ chunks lt s f (l.drop s)
theorem chunks_short (lt : α → α → Bool) {s f : Nat} {l : List α} (h : l.length ≤ s) : chunks lt s (f + 1) l = isort lt l := by rw [chunks, if_pos h]
theorem chunks_long (lt : α → α → Bool) {s f : Nat} {l : List α} (h : s < l.length) : chunks lt s (f + 1) l = isort lt (l.take s) ++ chunks lt s f (l.drop s) := by rw [chunks, if_neg (by omega)]
theorem chunks_fuel (lt : α → α → Bool) {s : Nat} (hs : 0 < s) : ∀ (f g : Nat) (l : List α), l.length < f → l.length < g → chunks lt s f l = chunks lt s g l
  | 0, _, _, h, _ => by omega
  | _, 0, _, _, h => by omega
  | f + 1, g + 1, l, hf, hg => by
    by_cases h : l.length ≤ s
    · rw [chunks_short lt h, chunks_short lt h]
    · rw [chunks_long lt (by omega), chunks_long lt (by omega), chunks_fuel lt hs f g (l.drop s) (by simp; omega) (by simp; omega)]
/-- All blocks, with fuel enough. -/
def blocks (lt : α → α → Bool) (s : Nat) (l : List α) : List α := chunks lt s (l.length + 1) l
theorem blocks_short (lt : α → α → Bool) {s : Nat} {l : List α} (h : l.length ≤ s) : blocks lt s l = isort lt l := chunks_short lt h
theorem blocks_long (lt : α → α → Bool) {s : Nat} (hs : 0 < s) {l : List α} (h : s < l.length) : blocks lt s l = isort lt (l.take s) ++ blocks lt s (l.drop s) := by
  unfold blocks
  rw [chunks_long lt h, chunks_fuel lt hs l.length ((l.drop s).length + 1) (l.drop s) (by simp; omega) (by omega)]
theorem blocks_length (lt : α → α → Bool) {s : Nat} (hs : 0 < s) : ∀ (n : Nat) (l : List α), l.length ≤ n → (blocks lt s l).length = l.length
  | 0, l, h => by rw [blocks_short lt (by omega), isort_length]
  | n + 1, l, h => by
    by_cases hl : l.length ≤ s
    · rw [blocks_short lt hl, isort_length]
    · rw [blocks_long lt hs (by omega), List.length_append, isort_length, blocks_length lt hs n (l.drop s) (by simp; omega)]
      simp
      omega
/-- Two blocks merged are one of twice the size. -/
theorem blocks_twice {lt : α → α → Bool} (S : Swo lt) {s : Nat} {l : List α} : mergeL lt (isort lt (l.take s)) (isort lt ((l.drop s).take s)) = isort lt (l.take (2 * s)) := by
  rw [← isort_append S]
  congr 1
  have : l.take (2 * s) = (l.take (2 * s)).take s ++ (l.take (2 * s)).drop s := (List.take_append_drop s _).symm
  rw [this, List.take_take, List.drop_take]
  congr 1
  · congr 1; omega
  · congr 1; omega
theorem blocks_rest {lt : α → α → Bool} (S : Swo lt) {s : Nat} {l : List α} : mergeL lt (isort lt (l.take s)) (isort lt (l.drop s)) = isort lt l := by
  rw [← isort_append S, List.take_append_drop]
end Go.Stab
