import Derived.Below
/-! Stable sorting, plain: merging, the sort by insertion, and that merging in halves is the same. No program. -/
namespace Go.Stab
variable {α : Type}
/-- A strict weak order, as a test. -/
structure Swo (lt : α → α → Bool) : Prop where
  irr : ∀ x, lt x x = false
  tr : ∀ x y z, lt x y = true → lt y z = true → lt x z = true
  neg : ∀ x y z, lt x y = false → lt y z = false → lt x z = false
/-- Two lists as one: what is alike comes out of the first one first. -/
def mergeL (lt : α → α → Bool) : List α → List α → List α
  | [], r => r
  | x :: l, [] => x :: l
  | x :: l, y :: r => if lt y x then y :: mergeL lt (x :: l) r else x :: mergeL lt l (y :: r)
termination_by l r => l.length + r.length
theorem mergeL_nil (lt : α → α → Bool) (l : List α) : mergeL lt l [] = l := by cases l <;> simp [mergeL]
theorem nil_mergeL (lt : α → α → Bool) (r : List α) : mergeL lt [] r = r := by simp [mergeL]
theorem mergeL_cons (lt : α → α → Bool) (x y : α) (l r : List α) : mergeL lt (x :: l) (y :: r) = if lt y x then y :: mergeL lt (x :: l) r else x :: mergeL lt l (y :: r) := by rw [mergeL]
theorem mergeL_length (lt : α → α → Bool) : ∀ (l r : List α), (mergeL lt l r).length = l.length + r.length
  | [], r => by simp [nil_mergeL]
  | x :: l, [] => by simp [mergeL_nil]
  | x :: l, y :: r => by
    rw [mergeL_cons]
    split
    · simp [mergeL_length lt (x :: l) r]; omega
    · simp [mergeL_length lt l (y :: r)]; omega
termination_by l r => l.length + r.length
theorem mergeL_perm (lt : α → α → Bool) : ∀ (l r : List α), (mergeL lt l r).Perm (l ++ r)
  | [], r => by simp [nil_mergeL]
  | x :: l, [] => by simp [mergeL_nil]
  | x :: l, y :: r => by
    rw [mergeL_cons]
    split
    · exact ((mergeL_perm lt (x :: l) r).cons y).trans (List.perm_middle (a := y) (l₁ := x :: l) (l₂ := r)).symm
    · exact (mergeL_perm lt l (y :: r)).cons x
termination_by l r => l.length + r.length
theorem mergeL_mem (lt : α → α → Bool) (l r : List α) (z : α) : z ∈ mergeL lt l r ↔ z ∈ l ∨ z ∈ r := by rw [(mergeL_perm lt l r).mem_iff, List.mem_append]
/-- A merge falls into two where all of one end of the right part is below all of the other end of the left one, and so on: no sorting is asked. -/
theorem mergeL_split (lt : α → α → Bool) : ∀ (l1 r1 l2 r2 : List α), (∀ y ∈ r1, ∀ x ∈ l2, lt y x = true) → (∀ x ∈ l1, ∀ y ∈ r2, lt y x = false) → mergeL lt (l1 ++ l2) (r1 ++ r2) = mergeL lt l1 r1 ++ mergeL lt l2 r2
  | [], [], l2, r2, _, _ => by simp [nil_mergeL]
  | [], y :: r1, l2, r2, h1, h2 => by
    have ih := mergeL_split lt [] r1 l2 r2 (fun y' hy' => h1 y' (List.mem_cons_of_mem _ hy')) h2
    rw [nil_mergeL] at ih ⊢
    cases l2 with
    | nil => simp [nil_mergeL]
    | cons x l2 =>
      simp only [List.nil_append, List.cons_append] at ih ⊢
      rw [mergeL_cons, if_pos (h1 y (List.mem_cons_self ..) x (List.mem_cons_self ..)), ih]
  | x :: l1, [], l2, r2, h1, h2 => by
    have ih := mergeL_split lt l1 [] l2 r2 h1 (fun x' hx' => h2 x' (List.mem_cons_of_mem _ hx'))
    rw [mergeL_nil] at ih ⊢
    cases r2 with
    | nil => simp [mergeL_nil]
    | cons y r2 =>
      simp only [List.nil_append, List.cons_append] at ih ⊢
      rw [mergeL_cons, h2 x (List.mem_cons_self ..) y (List.mem_cons_self ..), if_neg (by simp), ih]
  | x :: l1, y :: r1, l2, r2, h1, h2 => by
    simp only [List.cons_append]
    rw [mergeL_cons, mergeL_cons]
    split
    · have ih := mergeL_split lt (x :: l1) r1 l2 r2 (fun y' hy' => h1 y' (List.mem_cons_of_mem _ hy')) h2
      simp only [List.cons_append] at ih
      rw [ih, List.cons_append]
    · have ih := mergeL_split lt l1 (y :: r1) l2 r2 h1 (fun x' hx' => h2 x' (List.mem_cons_of_mem _ hx'))
      simp only [List.cons_append] at ih
      rw [ih, List.cons_append]
termination_by l1 r1 => l1.length + r1.length
/-- One ahead of the others goes in behind those that are below it. -/
theorem mergeL_one (lt : α → α → Bool) (x : α) (r1 r2 : List α) (h1 : ∀ y ∈ r1, lt y x = true) (h2 : ∀ y ∈ r2, lt y x = false) : mergeL lt [x] (r1 ++ r2) = r1 ++ x :: r2 := by
  have h := mergeL_split lt [] r1 [x] r2 (fun y hy x' hx' => by simp at hx'; subst hx'; exact h1 y hy) (fun x' hx' => by cases hx')
  rw [List.nil_append] at h
  rw [h, nil_mergeL]
  cases r2 with
  | nil => simp [mergeL_nil]
  | cons y r2 => rw [mergeL_cons, h2 y (List.mem_cons_self ..), if_neg (by simp), nil_mergeL]
/-- One behind the others goes in ahead of those that are above it. -/
theorem mergeL_last (lt : α → α → Bool) (y : α) (l1 l2 : List α) (h1 : ∀ x ∈ l1, lt y x = false) (h2 : ∀ x ∈ l2, lt y x = true) : mergeL lt (l1 ++ l2) [y] = l1 ++ y :: l2 := by
  have h := mergeL_split lt l1 [] l2 [y] (fun y' hy' => by cases hy') (fun x hx y' hy' => by simp at hy'; subst hy'; exact h1 x hx)
  rw [List.nil_append] at h
  rw [h, mergeL_nil]
  cases l2 with
  | nil => simp [nil_mergeL]
  | cons x l2 => rw [mergeL_cons, h2 x (List.mem_cons_self ..), if_pos rfl, mergeL_nil]
/-- None is below one that stands ahead of it. -/
def Up (lt : α → α → Bool) : List α → Prop
  | [] => True
  | x :: l => (∀ y ∈ l, lt y x = false) ∧ Up lt l
theorem Up.append {lt : α → α → Bool} : ∀ {l r : List α}, Up lt (l ++ r) → Up lt l ∧ Up lt r ∧ ∀ x ∈ l, ∀ y ∈ r, lt y x = false
  | [], r, h => ⟨trivial, h, fun x hx => by cases hx⟩
  | z :: l, r, h => by
    obtain ⟨h1, h2, h3⟩ := Up.append (l := l) (r := r) h.2
    refine ⟨⟨fun y hy => h.1 y (List.mem_append_left _ hy), h1⟩, h2, fun x hx y hy => ?_⟩
    rcases List.mem_cons.1 hx with rfl | hx
    · exact h.1 y (List.mem_append_right _ hy)
    · exact h3 x hx y hy
theorem Up.mk {lt : α → α → Bool} : ∀ {l r : List α}, Up lt l → Up lt r → (∀ x ∈ l, ∀ y ∈ r, lt y x = false) → Up lt (l ++ r)
  | [], _, _, h, _ => h
  | z :: l, r, h1, h2, h3 => ⟨fun y hy => by
      rcases List.mem_append.1 hy with hy | hy
      · exact h1.1 y hy
      · exact h3 z (List.mem_cons_self ..) y hy, Up.mk h1.2 h2 (fun x hx => h3 x (List.mem_cons_of_mem _ hx))⟩
theorem mergeL_up {lt : α → α → Bool} (S : Swo lt) : ∀ (l r : List α), Up lt l → Up lt r → Up lt (mergeL lt l r)
  | [], r, _, h => by rw [nil_mergeL]; exact h
  | x :: l, [], h, _ => by rw [mergeL_nil]; exact h
  | x :: l, y :: r, h1, h2 => by
    rw [mergeL_cons]
    split
    · rename_i hlt
      refine ⟨fun z hz => ?_, mergeL_up S (x :: l) r h1 h2.2⟩
      rcases (mergeL_mem lt _ _ z).1 hz with hz | hz
      · have hzx : lt z x = false := by
          rcases List.mem_cons.1 hz with rfl | hz
          · exact S.irr _
          · exact h1.1 z hz
        cases hzy : lt z y with
        | false => rfl
        | true => rw [S.tr z y x hzy hlt] at hzx; cases hzx
      · exact h2.1 z hz
    · rename_i hlt
      refine ⟨fun z hz => ?_, mergeL_up S l (y :: r) h1.2 h2⟩
      have hyx : lt y x = false := by simpa using hlt
      rcases (mergeL_mem lt _ _ z).1 hz with hz | hz
      · exact h1.1 z hz
      · rcases List.mem_cons.1 hz with rfl | hz
        · exact hyx
        · exact S.neg z y x (h2.1 z hz) hyx
termination_by l r => l.length + r.length
/-- Merging goes on. -/
theorem mergeL_assoc {lt : α → α → Bool} (S : Swo lt) : ∀ (a b c : List α), Up lt a → Up lt b → Up lt c → mergeL lt (mergeL lt a b) c = mergeL lt a (mergeL lt b c)
  | [], b, c, _, _, _ => by rw [nil_mergeL, nil_mergeL]
  | x :: a, [], c, _, _, _ => by rw [mergeL_nil, nil_mergeL]
  | x :: a, y :: b, [], _, _, _ => by rw [mergeL_nil, mergeL_nil]
  | x :: a, y :: b, z :: c, ha, hb, hc => by
    by_cases hyx : lt y x = true
    · by_cases hzy : lt z y = true
      · have hzx := S.tr z y x hzy hyx
        have ih := mergeL_assoc S (x :: a) (y :: b) c ha hb hc.2
        rw [mergeL_cons lt x y, if_pos hyx] at ih
        rw [mergeL_cons lt x y, if_pos hyx, mergeL_cons lt y z, if_pos hzy, mergeL_cons lt y z b c, if_pos hzy, mergeL_cons lt x z, if_pos hzx, ih]
      · have ih := mergeL_assoc S (x :: a) b (z :: c) ha hb.2 hc
        rw [mergeL_cons lt x y, if_pos hyx, mergeL_cons lt y z, if_neg hzy, mergeL_cons lt y z b c, if_neg hzy, mergeL_cons lt x y, if_pos hyx, ih]
    · have hyx' : lt y x = false := by simpa using hyx
      by_cases hzy : lt z y = true
      · by_cases hzx : lt z x = true
        · have ih := mergeL_assoc S (x :: a) (y :: b) c ha hb hc.2
          rw [mergeL_cons lt x y, if_neg hyx] at ih
          rw [mergeL_cons lt x y, if_neg hyx, mergeL_cons lt x z, if_pos hzx, mergeL_cons lt y z b c, if_pos hzy, mergeL_cons lt x z, if_pos hzx, ih]
        · have ih := mergeL_assoc S a (y :: b) (z :: c) ha.2 hb hc
          rw [mergeL_cons lt y z b c, if_pos hzy] at ih
          rw [mergeL_cons lt x y, if_neg hyx, mergeL_cons lt x z, if_neg hzx, mergeL_cons lt y z b c, if_pos hzy, mergeL_cons lt x z, if_neg hzx, ih]
      · have hzx : ¬ lt z x = true := by
          have := S.neg z y x (by simpa using hzy) hyx'
          simp [this]
        have ih := mergeL_assoc S a (y :: b) (z :: c) ha.2 hb hc
        rw [mergeL_cons lt y z b c, if_neg hzy] at ih
        rw [mergeL_cons lt x y, if_neg hyx, mergeL_cons lt x z, if_neg hzx, mergeL_cons lt y z b c, if_neg hzy, mergeL_cons lt x y, if_neg hyx, ih]
termination_by a b c => a.length + b.length + c.length
/-- The sort by insertion: each one goes in behind what is not above it. -/
def isort (lt : α → α → Bool) (l : List α) : List α := l.foldl (fun s y => mergeL lt s [y]) []
theorem isort_snoc (lt : α → α → Bool) (l : List α) (y : α) : isort lt (l ++ [y]) = mergeL lt (isort lt l) [y] := by simp [isort, List.foldl_append]
theorem isort_up {lt : α → α → Bool} (S : Swo lt) (l : List α) : Up lt (isort lt l) := by
  have h : ∀ (n : Nat) (l : List α), l.length = n → Up lt (isort lt l) := by
    intro n
    induction n with
    | zero => intro l hl; rw [List.eq_nil_of_length_eq_zero hl]; trivial
    | succ n ih =>
      intro l hl
      rcases List.eq_nil_or_concat l with rfl | ⟨l', y, rfl⟩
      · trivial
      · simp only [List.concat_eq_append] at hl ⊢
        rw [isort_snoc]
        exact mergeL_up S _ _ (ih l' (by simp at hl; omega)) ⟨(fun _ h => by cases h), trivial⟩
  exact h _ l rfl
/-- Sorted apart and merged is sorted at once. -/
theorem isort_append {lt : α → α → Bool} (S : Swo lt) (l r : List α) : isort lt (l ++ r) = mergeL lt (isort lt l) (isort lt r) := by
  have h : ∀ (n : Nat) (r : List α), r.length = n → isort lt (l ++ r) = mergeL lt (isort lt l) (isort lt r) := by
    intro n
    induction n with
    | zero => intro r hr; rw [List.eq_nil_of_length_eq_zero hr, List.append_nil]; exact (mergeL_nil lt _).symm
    | succ n ih =>
      intro r hr
      rcases List.eq_nil_or_concat r with rfl | ⟨r', y, rfl⟩
      · simp at hr
      · simp only [List.concat_eq_append] at hr ⊢
        rw [← List.append_assoc, isort_snoc, isort_snoc, ih r' (by simp at hr; omega)]
        exact mergeL_assoc S _ _ _ (isort_up S l) (isort_up S r') ⟨(fun _ h => by cases h), trivial⟩
  exact h _ r rfl
theorem isort_perm (lt : α → α → Bool) (l : List α) : (isort lt l).Perm l := by
  have h : ∀ (n : Nat) (l : List α), l.length = n → (isort lt l).Perm l := by
    intro n
    induction n with
    | zero => intro l hl; rw [List.eq_nil_of_length_eq_zero hl]; exact List.Perm.refl _
    | succ n ih =>
      intro l hl
      rcases List.eq_nil_or_concat l with rfl | ⟨l', y, rfl⟩
      · exact List.Perm.refl _
      · simp only [List.concat_eq_append] at hl ⊢
        rw [isort_snoc]
        exact (mergeL_perm lt _ _).trans ((ih l' (by simp at hl; omega)).append_right _)
  exact h _ l rfl
theorem isort_length (lt : α → α → Bool) (l : List α) : (isort lt l).length = l.length := (isort_perm lt l).length_eq
/-- What is sorted stays. -/
theorem isort_same {lt : α → α → Bool} : ∀ (l : List α), Up lt l → isort lt l = l := fun l => by
  have h : ∀ (n : Nat) (l : List α), l.length = n → Up lt l → isort lt l = l := by
    intro n
    induction n with
    | zero => intro l hl _; rw [List.eq_nil_of_length_eq_zero hl]; rfl
    | succ n ih =>
      intro l hl hu
      rcases List.eq_nil_or_concat l with rfl | ⟨l', y, rfl⟩
      · rfl
      · simp only [List.concat_eq_append] at hl hu ⊢
        obtain ⟨u1, -, u3⟩ := hu.append
        rw [isort_snoc, ih l' (by simp at hl; omega) u1]
        have := mergeL_last lt y l' [] (fun x hx => u3 x hx y (by simp)) (fun x hx => by cases hx)
        simpa using this
  exact h _ l rfl
end Go.Stab
