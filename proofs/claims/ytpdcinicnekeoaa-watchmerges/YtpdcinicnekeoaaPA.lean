import Derived.Below
/-! watch, plain: changes, logs, what is asked of them. No program. -/
namespace Go.Watch
/-- A change. -/
structure Chg where
  st : Int
  nm : ByteArray
  id : ByteArray
  kd : Int
/-- The stamp of the last one. -/
def lastSt : List Chg → Int
  | [] => 0
  | [c] => c.st
  | _ :: d :: l => lastSt (d :: l)
theorem lastSt_snoc : (l : List Chg) → (c : Chg) → lastSt (l ++ [c]) = c.st
  | [], _ => rfl
  | [_], _ => rfl
  | _ :: d :: l, c => by
    have := lastSt_snoc (d :: l) c
    simpa [lastSt] using this
theorem lastSt_app (l : List Chg) (r : List Chg) (h : r ≠ []) : lastSt (l ++ r) = lastSt r := by
  obtain ⟨r', c, rfl⟩ := List.eq_nil_or_concat r |>.resolve_left h
  rw [List.concat_eq_append, ← List.append_assoc, lastSt_snoc, lastSt_snoc]
theorem lastSt_get (l : List Chg) (i : Nat) (c : Chg) (h : l[i]? = some c) (hi : i + 1 = l.length) : lastSt l = c.st := by
  rcases List.eq_nil_or_concat l with rfl | ⟨r', d, rfl⟩
  · simp at h
  · rw [List.concat_eq_append] at h hi ⊢
    rw [lastSt_snoc]
    have : i = r'.length := by simp at hi; omega
    subst this
    simp at h
    rw [h]
/-- A change with another stamp. -/
def Chg.at (s : Int) (c : Chg) : Chg := ⟨s, c.nm, c.id, c.kd⟩
/-- Stamps never fall. -/
def Rise (l : List Chg) : Prop := ∀ (i j : Nat) (c d : Chg), l[i]? = some c → l[j]? = some d → i ≤ j → c.st ≤ d.st
theorem Rise.nil : Rise [] := fun i j c d h => by simp at h
theorem Rise.drop {l : List Chg} (h : Rise l) (k : Nat) : Rise (l.drop k) := fun i j c d hi hj hij => by
  rw [List.getElem?_drop] at hi hj
  exact h _ _ c d hi hj (by omega)
theorem Rise.take {l : List Chg} (h : Rise l) (k : Nat) : Rise (l.take k) := fun i j c d hi hj hij => by
  have hi' := (List.getElem?_eq_some_iff.1 hi).1
  have hj' := (List.getElem?_eq_some_iff.1 hj).1
  rw [List.length_take] at hi' hj'
  rw [List.getElem?_take_of_lt (by omega)] at hi hj
  exact h _ _ c d hi hj hij
theorem Rise.tail {c : Chg} {l : List Chg} (h : Rise (c :: l)) : Rise l := by simpa using h.drop 1
theorem Rise.head {c : Chg} {l : List Chg} (h : Rise (c :: l)) : ∀ d ∈ l, c.st ≤ d.st := fun d hd => by
  obtain ⟨i, hi⟩ := List.getElem?_of_mem hd
  exact h 0 (i + 1) c d rfl (by simpa using hi) (by omega)
theorem Rise.cons {c : Chg} {l : List Chg} (h : Rise l) (hc : ∀ d ∈ l, c.st ≤ d.st) : Rise (c :: l) := fun i j a b hi hj hij => by
  rcases i with _ | i
  · simp at hi
    subst hi
    rcases j with _ | j
    · simp at hj; subst hj; omega
    · exact hc b (List.mem_of_getElem? (by simpa using hj))
  · rcases j with _ | j
    · omega
    · exact h i j a b (by simpa using hi) (by simpa using hj) (by omega)
theorem Rise.filter {p : Chg → Bool} : {l : List Chg} → Rise l → Rise (l.filter p)
  | [], _ => Rise.nil
  | c :: l, h => by
    have ih := Rise.filter (p := p) h.tail
    rw [List.filter_cons]
    split
    · exact ih.cons (fun d hd => h.head d (List.mem_filter.1 hd).1)
    · exact ih
theorem Rise.app : {l r : List Chg} → Rise l → Rise r → (∀ c ∈ l, ∀ d ∈ r, c.st ≤ d.st) → Rise (l ++ r)
  | [], _, _, h, _ => h
  | c :: l, r, h, h2, hc => by
    rw [List.cons_append]
    refine (Rise.app h.tail h2 (fun x hx => hc x (by simp [hx]))).cons (fun d hd => ?_)
    rcases List.mem_append.1 hd with hd | hd
    · exact h.head d hd
    · exact hc c (by simp) d hd
theorem Rise.last {l : List Chg} (h : Rise l) : ∀ c ∈ l, c.st ≤ lastSt l := fun c hc => by
  obtain ⟨i, hi⟩ := List.getElem?_of_mem hc
  have hl := (List.getElem?_eq_some_iff.1 hi).1
  have he := List.getElem?_eq_getElem (l := l) (i := l.length - 1) (by omega)
  rw [lastSt_get l _ _ he (by omega)]
  exact h _ _ _ _ hi he (by omega)
theorem Rise.same {l : List Chg} {s : Int} (h : ∀ c ∈ l, c.st = s) : Rise l := fun i j c d hi hj _ => by
  rw [h c (List.mem_of_getElem? hi), h d (List.mem_of_getElem? hj)]
  exact Int.le_refl _
/-- What goes by the document: one by one, from the front. -/
def dropR (k : Nat) : Int → List Chg → Int × List Chg
  | h, [] => (h, [])
  | h, c :: l => if k < (c :: l).length then dropR k (if h < c.st then c.st else h) l else (h, c :: l)
theorem dropR_eq (k : Nat) : (l : List Chg) → (h : Int) → Rise l → (∀ c ∈ l, h ≤ c.st) → dropR k h l = (if l.length ≤ k then h else lastSt (l.take (l.length - k)), l.drop (l.length - k))
  | [], h, _, _ => by simp [dropR]
  | c :: l, h, hr, hh => by
    unfold dropR
    by_cases hk : k < (c :: l).length
    · rw [if_pos hk]
      have e : (if h < c.st then c.st else h) = c.st := by
        have := hh c (by simp)
        split <;> omega
      rw [e, dropR_eq k l c.st hr.tail hr.head, if_neg (show ¬ (c :: l).length ≤ k by omega)]
      have e2 : (c :: l).length - k = (l.length - k) + 1 := by simp at hk ⊢; omega
      rw [e2, List.take_succ_cons, List.drop_succ_cons]
      congr 1
      by_cases h2 : l.length ≤ k
      · rw [if_pos h2, show l.length - k = 0 from by omega]
        simp [lastSt]
      · rw [if_neg h2]
        have : l.take (l.length - k) ≠ [] := by
          intro e
          have := congrArg List.length e
          simp at this
          omega
        exact (lastSt_app [c] _ this).symm
    · rw [if_neg hk, if_pos (by omega), show (c :: l).length - k = 0 from by omega]
      rfl
/-- A log: its horizon, its changes. -/
structure Lg where
  hor : Int
  cs : List Chg
structure Lg.Ok (k : Nat) (g : Lg) : Prop where
  rise : Rise g.cs
  pos : ∀ c ∈ g.cs, 1 ≤ c.st
  hor : ∀ c ∈ g.cs, g.hor ≤ c.st
  top : g.hor ≤ lastSt g.cs
  hor0 : 0 ≤ g.hor
  len : g.cs.length ≤ k
theorem lastSt_nonneg {l : List Chg} (h : ∀ c ∈ l, 1 ≤ c.st) : 0 ≤ lastSt l := by
  rcases List.eq_nil_or_concat l with rfl | ⟨r', d, rfl⟩
  · exact Int.le_refl _
  · rw [List.concat_eq_append] at h ⊢
    rw [lastSt_snoc]
    have := h d (by simp)
    omega
/-- With, by the document. -/
def withG (k : Nat) (g : Lg) (s : Int) (new : List Chg) : Lg :=
  if s ≤ lastSt g.cs ∨ new = [] then g else
    ⟨(dropR k g.hor (g.cs ++ new.map (Chg.at s))).1, (dropR k g.hor (g.cs ++ new.map (Chg.at s))).2⟩
theorem mem_at {s : Int} {new : List Chg} {c : Chg} (h : c ∈ new.map (Chg.at s)) : c.st = s := by
  obtain ⟨d, _, rfl⟩ := List.mem_map.1 h
  rfl
theorem all_ok {k : Nat} {g : Lg} {s : Int} {new : List Chg} (h : g.Ok k) (hs : lastSt g.cs < s) : Rise (g.cs ++ new.map (Chg.at s)) ∧ (∀ c ∈ g.cs ++ new.map (Chg.at s), g.hor ≤ c.st ∧ 1 ≤ c.st ∧ c.st ≤ s) := by
  have h0 := lastSt_nonneg h.pos
  refine ⟨h.rise.app (Rise.same (fun c hc => mem_at hc)) (fun c hc d hd => by rw [mem_at hd]; have := h.rise.last c hc; omega), fun c hc => ?_⟩
  rcases List.mem_append.1 hc with hc | hc
  · have := h.rise.last c hc
    exact ⟨h.hor c hc, h.pos c hc, by omega⟩
  · rw [mem_at hc]
    have := h.top
    omega
theorem withG_eq {k : Nat} {g : Lg} {s : Int} {new : List Chg} (h : g.Ok k) (hs : lastSt g.cs < s) (hn : new ≠ []) :
    withG k g s new = ⟨if g.cs.length + new.length ≤ k then g.hor else lastSt ((g.cs ++ new.map (Chg.at s)).take (g.cs.length + new.length - k)), (g.cs ++ new.map (Chg.at s)).drop (g.cs.length + new.length - k)⟩ := by
  unfold withG
  rw [if_neg (by intro h'; rcases h' with h' | h'; · omega
                 · exact hn h')]
  rw [dropR_eq k _ _ (all_ok h hs).1 (fun c hc => ((all_ok h hs).2 c hc).1)]
  simp
theorem withG_last {k : Nat} {g : Lg} {s : Int} {new : List Chg} (h : g.Ok k) (hk : 1 ≤ k) (hs : lastSt g.cs < s) (hn : new ≠ []) : lastSt (withG k g s new).cs = s ∧ (withG k g s new).cs ≠ [] := by
  rw [withG_eq h hs hn]
  have hl : 0 < new.length := List.length_pos_iff.2 hn
  obtain ⟨r', d, rfl⟩ := List.eq_nil_or_concat new |>.resolve_left hn
  simp only [List.concat_eq_append, List.map_append, List.map_cons, List.map_nil, ← List.append_assoc, List.length_append, List.length_cons, List.length_nil]
  rw [List.drop_append_of_le_length (by simp; omega)]
  exact ⟨lastSt_snoc _ _, by simp⟩
theorem withG_ok {k : Nat} {g : Lg} {s : Int} {new : List Chg} (h : g.Ok k) (hk : 1 ≤ k) : (withG k g s new).Ok k := by
  by_cases hc : s ≤ lastSt g.cs ∨ new = []
  · unfold withG
    rw [if_pos hc]
    exact h
  · have hs : lastSt g.cs < s := by
      rcases Int.lt_or_le (lastSt g.cs) s with h' | h'
      · exact h'
      · exact absurd (.inl h') hc
    have hn : new ≠ [] := fun e => hc (.inr e)
    have hlast := withG_last h hk hs hn
    obtain ⟨h1, h2⟩ := all_ok (new := new) h hs
    rw [withG_eq h hs hn] at hlast ⊢
    have h0 := lastSt_nonneg h.pos
    have hmem : ∀ c ∈ (g.cs ++ new.map (Chg.at s)).drop (g.cs.length + new.length - k), c ∈ g.cs ++ new.map (Chg.at s) := fun c hc => List.mem_of_mem_drop hc
    have hhor : (if g.cs.length + new.length ≤ k then g.hor else lastSt ((g.cs ++ new.map (Chg.at s)).take (g.cs.length + new.length - k))) ≤ s ∧ 0 ≤ (if g.cs.length + new.length ≤ k then g.hor else lastSt ((g.cs ++ new.map (Chg.at s)).take (g.cs.length + new.length - k))) ∧ ∀ c ∈ (g.cs ++ new.map (Chg.at s)).drop (g.cs.length + new.length - k), (if g.cs.length + new.length ≤ k then g.hor else lastSt ((g.cs ++ new.map (Chg.at s)).take (g.cs.length + new.length - k))) ≤ c.st := by
      by_cases hle : g.cs.length + new.length ≤ k
      · rw [if_pos hle]
        have := h.top
        exact ⟨by omega, h.hor0, fun c hc => (h2 c (hmem c hc)).1⟩
      · rw [if_neg hle]
        generalize hm : g.cs.length + new.length - k = m at *
        have hml : m ≤ (g.cs ++ new.map (Chg.at s)).length := by simp; omega
        have he := List.getElem?_eq_getElem (l := g.cs ++ new.map (Chg.at s)) (i := m - 1) (by omega)
        have e := lastSt_get ((g.cs ++ new.map (Chg.at s)).take m) (m - 1) _ (by rw [List.getElem?_take_of_lt (by omega)]; exact he) (by rw [List.length_take]; omega)
        rw [e]
        have hin := h2 _ (List.mem_of_getElem? he)
        refine ⟨by omega, by omega, fun c hc => ?_⟩
        obtain ⟨i, hi⟩ := List.getElem?_of_mem hc
        rw [List.getElem?_drop] at hi
        exact h1 _ _ _ _ he hi (by omega)
    exact ⟨h1.drop _, fun c hc => (h2 c (hmem c hc)).2.1, hhor.2.2, by rw [hlast.1]; exact hhor.1, hhor.2.1, by simp; omega⟩
/-- With, as the code goes: what comes, what stays. -/
theorem withG_code {k : Nat} {g : Lg} {s : Int} {new : List Chg} (h : g.Ok k) (hs : lastSt g.cs < s) (hn : new ≠ []) :
    withG k g s new = ⟨if 0 < new.length - k then s else if 0 < g.cs.length - (k - (new.length - (new.length - k))) then lastSt (g.cs.take (g.cs.length - (k - (new.length - (new.length - k))))) else g.hor,
      g.cs.drop (g.cs.length - (k - (new.length - (new.length - k)))) ++ (new.drop (new.length - k)).map (Chg.at s)⟩ := by
  rw [withG_eq h hs hn]
  have hl := h.len
  congr 1
  · by_cases h1 : 0 < new.length - k
    · rw [if_pos h1, if_neg (by omega)]
      have e : (g.cs ++ new.map (Chg.at s)).take (g.cs.length + new.length - k) = g.cs ++ (new.take (new.length - k)).map (Chg.at s) := by
        rw [List.take_append, List.take_of_length_le (by omega), ← List.map_take]
        congr 3
        omega
      rw [e, lastSt_app _ _ (by intro e'; have := congrArg List.length e'; simp at this; omega)]
      obtain ⟨r', d, hd⟩ := List.eq_nil_or_concat ((new.take (new.length - k)).map (Chg.at s)) |>.resolve_left (by intro e'; have := congrArg List.length e'; simp at this; omega)
      have hmem : d ∈ (new.take (new.length - k)).map (Chg.at s) := by rw [hd]; simp
      rw [hd, List.concat_eq_append, lastSt_snoc, mem_at hmem]
    · rw [if_neg h1]
      have e0 : new.length - (new.length - k) = new.length := by omega
      rw [e0]
      by_cases h2 : 0 < g.cs.length - (k - new.length)
      · rw [if_pos h2, if_neg (by omega), List.take_append_of_le_length (by omega)]
        congr 2
        omega
      · rw [if_neg h2, if_pos (by omega)]
  · by_cases h1 : 0 < new.length - k
    · rw [List.drop_append, List.drop_eq_nil_of_le (as := g.cs) (by omega), List.drop_eq_nil_of_le (as := g.cs) (by omega), ← List.map_drop]
      congr 3
      omega
    · have e0 : new.length - k = 0 := by omega
      rw [e0, List.drop_append_of_le_length (by omega)]
      simp only [Nat.sub_zero, List.drop_zero]
      congr 2
      omega
end Go.Watch
