import Derived.Test.YtpdcinicnekeoaaPA
/-! watch, plain: lists of changes in one. No program. -/
namespace Go.Watch
/-- Two lists as one. -/
def mw : List Chg → List Chg → List Chg
  | [], r => r
  | x :: l, [] => x :: l
  | x :: l, y :: r => if y.st < x.st then y :: mw (x :: l) r else x :: mw l (y :: r)
termination_by l r => l.length + r.length
theorem nil_mw (r : List Chg) : mw [] r = r := by rw [mw]
theorem mw_nil (l : List Chg) : mw l [] = l := by cases l <;> rw [mw]
theorem mw_cons (x y : Chg) (l r : List Chg) : mw (x :: l) (y :: r) = if y.st < x.st then y :: mw (x :: l) r else x :: mw l (y :: r) := by rw [mw]
theorem mw_lt {x y : Chg} {l r : List Chg} (h : y.st < x.st) : mw (x :: l) (y :: r) = y :: mw (x :: l) r := by rw [mw_cons, if_pos h]
theorem mw_ge {x y : Chg} {l r : List Chg} (h : ¬ y.st < x.st) : mw (x :: l) (y :: r) = x :: mw l (y :: r) := by rw [mw_cons, if_neg h]
theorem mw_len : (l r : List Chg) → (mw l r).length = l.length + r.length
  | [], r => by rw [nil_mw]; simp
  | x :: l, [] => by rw [mw_nil]; simp
  | x :: l, y :: r => by
    rw [mw_cons]
    split
    · have := mw_len (x :: l) r
      simp at this ⊢
      omega
    · have := mw_len l (y :: r)
      simp at this ⊢
      omega
termination_by l r => l.length + r.length
theorem mw_assoc : (a b c : List Chg) → mw (mw a b) c = mw a (mw b c)
  | [], b, c => by rw [nil_mw, nil_mw]
  | x :: a, [], c => by rw [mw_nil, nil_mw]
  | x :: a, y :: b, [] => by rw [mw_nil, mw_nil]
  | x :: a, y :: b, z :: c => by
    by_cases hyx : y.st < x.st
    · by_cases hzy : z.st < y.st
      · have ih := mw_assoc (x :: a) (y :: b) c
        rw [mw_lt hyx] at ih ⊢
        rw [mw_lt hzy, mw_lt hzy, mw_lt (show z.st < x.st by omega), ih]
      · have ih := mw_assoc (x :: a) b (z :: c)
        rw [mw_lt hyx, mw_ge hzy, mw_ge hzy, mw_lt hyx, ih]
    · by_cases hzy : z.st < y.st
      · by_cases hzx : z.st < x.st
        · have ih := mw_assoc (x :: a) (y :: b) c
          rw [mw_ge hyx] at ih ⊢
          rw [mw_lt hzx, mw_lt hzy, mw_lt hzx, ih]
        · have ih := mw_assoc a (y :: b) (z :: c)
          rw [mw_lt hzy] at ih
          rw [mw_ge hyx, mw_ge hzx, mw_lt hzy, mw_ge hzx, ih]
      · have ih := mw_assoc a (y :: b) (z :: c)
        rw [mw_ge hzy] at ih
        rw [mw_ge hyx, mw_ge (show ¬ z.st < x.st by omega), mw_ge hzy, mw_ge hyx, ih]
termination_by a b c => a.length + b.length + c.length
theorem mw_mem : (l r : List Chg) → (c : Chg) → c ∈ mw l r → c ∈ l ∨ c ∈ r
  | [], r, c, h => by rw [nil_mw] at h; exact .inr h
  | x :: l, [], c, h => by rw [mw_nil] at h; exact .inl h
  | x :: l, y :: r, c, h => by
    rw [mw_cons] at h
    split at h
    · rcases List.mem_cons.1 h with rfl | h
      · exact .inr (by simp)
      · rcases mw_mem (x :: l) r c h with h | h
        · exact .inl h
        · exact .inr (by simp [h])
    · rcases List.mem_cons.1 h with rfl | h
      · exact .inl (by simp)
      · rcases mw_mem l (y :: r) c h with h | h
        · exact .inl (by simp [h])
        · exact .inr h
termination_by l r => l.length + r.length
theorem mw_rise : (l r : List Chg) → Rise l → Rise r → Rise (mw l r)
  | [], r, _, h => by rw [nil_mw]; exact h
  | x :: l, [], h, _ => by rw [mw_nil]; exact h
  | x :: l, y :: r, h1, h2 => by
    rw [mw_cons]
    split
    · refine (mw_rise (x :: l) r h1 h2.tail).cons (fun d hd => ?_)
      rcases mw_mem _ _ d hd with hd | hd
      · rcases List.mem_cons.1 hd with rfl | hd
        · omega
        · have := h1.head d hd; omega
      · exact h2.head d hd
    · refine (mw_rise l (y :: r) h1.tail h2).cons (fun d hd => ?_)
      rcases mw_mem _ _ d hd with hd | hd
      · exact h1.head d hd
      · rcases List.mem_cons.1 hd with rfl | hd
        · omega
        · have := h2.head d hd; omega
termination_by l r => l.length + r.length
/-- Several lists as one. -/
def kM : List (List Chg) → List Chg
  | [] => []
  | a :: r => mw a (kM r)
theorem kM_app : (a b : List (List Chg)) → kM (a ++ b) = mw (kM a) (kM b)
  | [], b => by simp [kM, nil_mw]
  | x :: a, b => by
    rw [List.cons_append, kM, kM_app a b, ← mw_assoc]
    rfl
def totL (ls : List (List Chg)) : Nat := (ls.map List.length).sum
theorem kM_len : (ls : List (List Chg)) → (kM ls).length = totL ls
  | [] => rfl
  | a :: r => by
    rw [kM, mw_len, kM_len r]
    simp [totL]
theorem kM_rise : (ls : List (List Chg)) → (∀ l ∈ ls, Rise l) → Rise (kM ls)
  | [], _ => Rise.nil
  | a :: r, h => mw_rise _ _ (h a (by simp)) (kM_rise r (fun l hl => h l (by simp [hl])))
theorem kM_head : (ls : List (List Chg)) → (d : Chg) → (t : List Chg) → kM ls = d :: t → ∃ (j : Nat) (r' : List Chg), ls[j]? = some (d :: r')
  | [], d, t, h => by simp [kM] at h
  | a :: r, d, t, h => by
    rw [kM] at h
    cases a with
    | nil =>
      rw [nil_mw] at h
      obtain ⟨j, r', h1⟩ := kM_head r d t h
      exact ⟨j + 1, r', by simpa using h1⟩
    | cons x a =>
      cases hk : kM r with
      | nil =>
        rw [hk, mw_nil] at h
        exact ⟨0, a, by rw [← (List.cons.inj h).1]; rfl⟩
      | cons y s =>
        rw [hk, mw_cons] at h
        split at h
        · obtain ⟨j, r', h1⟩ := kM_head r y s hk
          exact ⟨j + 1, r', by rw [← (List.cons.inj h).1]; simpa using h1⟩
        · exact ⟨0, a, by rw [← (List.cons.inj h).1]; rfl⟩
/-- The first of the least. -/
structure Best (ls : List (List Chg)) (i q : Nat) (c : Chg) (r : List Chg) : Prop where
  lt : q < i
  at' : ls[q]? = some (c :: r)
  le : ∀ (j : Nat) d r', j < i → ls[j]? = some (d :: r') → c.st ≤ d.st ∧ (j < q → c.st < d.st)
def NoneB (ls : List (List Chg)) (i : Nat) : Prop := ∀ (j : Nat) l, j < i → ls[j]? = some l → l = []
theorem NoneB.done {ls : List (List Chg)} (h : NoneB ls ls.length) : kM ls = [] := by
  cases hk : kM ls with
  | nil => rfl
  | cons d t =>
    obtain ⟨j, r', h1⟩ := kM_head ls d t hk
    have := h j _ (List.getElem?_eq_some_iff.1 h1).1 h1
    cases this
theorem best_kM : (ls : List (List Chg)) → (q : Nat) → (c : Chg) → (r : List Chg) → ls[q]? = some (c :: r) → (∀ (j : Nat) d r', ls[j]? = some (d :: r') → c.st ≤ d.st ∧ (j < q → c.st < d.st)) → kM ls = c :: kM (ls.set q r)
  | [], q, c, r, h, _ => by simp at h
  | a :: ls, 0, c, r, h, hle => by
    simp at h
    subst h
    rw [List.set_cons_zero, kM, kM]
    cases hk : kM ls with
    | nil => rw [mw_nil, mw_nil]
    | cons d t =>
      obtain ⟨j, r', h1⟩ := kM_head ls d t hk
      have := (hle (j + 1) d r' (by simpa using h1)).1
      rw [mw_ge (by omega)]
  | a :: ls, q + 1, c, r, h, hle => by
    have ih := best_kM ls q c r (by simpa using h) (fun j d r' hj => by
      have := hle (j + 1) d r' (by simpa using hj)
      exact ⟨this.1, fun h' => this.2 (by omega)⟩)
    rw [List.set_cons_succ, kM, kM, ih]
    cases a with
    | nil => rw [nil_mw, nil_mw]
    | cons d r' =>
      have := (hle 0 d r' rfl).2 (by omega)
      rw [mw_lt this]
theorem Best.done {ls : List (List Chg)} {q : Nat} {c : Chg} {r : List Chg} (h : Best ls ls.length q c r) : kM ls = c :: kM (ls.set q r) :=
  best_kM ls q c r h.at' (fun j d r' hj => h.le j d r' (List.getElem?_eq_some_iff.1 hj).1 hj)
end Go.Watch
