import Derived.Test.YtdgdfpgekccibabKL
/-! clocks: what is known is what is ahead by links, the document says. -/
namespace Go.Proofs.Ytdgdfpgekccibab
open Go Go.RowKit
/-- Does event k, if there is one, store at the thing of b? -/
def storeOf (evs : List Ev) (k : Nat) (b : Ev) : Bool := match evs[k]? with
  | some a => decide (a.k = 6) && decide (a.o = b.o) && decide (a.n = b.n)
  | none => false
def oneT (a b : Ev) : Bool := decide (a.o = b.o) && decide (a.n = b.n)
/-- No store of b's thing from event m on, of d events. -/
def noStore (evs : List Ev) (b : Ev) (m : Nat) : Nat → Bool
  | 0 => true
  | d + 1 => noStore evs b m d && !storeOf evs (m + d) b
theorem noStore_at {evs : List Ev} {b : Ev} {m : Nat} : {d : Nat} → noStore evs b m d = true → ∀ k, m ≤ k → k < m + d → storeOf evs k b = false
  | 0, _ => fun k h1 h2 => by omega
  | d + 1, h => fun k h1 h2 => by
    simp only [noStore, Bool.and_eq_true, Bool.not_eq_true'] at h
    by_cases e : k = m + d
    · subst e; exact h.2
    · exact noStore_at h.1 k h1 (by omega)
theorem noStore_of {evs : List Ev} {b : Ev} {m : Nat} : {d : Nat} → (∀ k, m ≤ k → k < m + d → storeOf evs k b = false) → noStore evs b m d = true
  | 0, _ => rfl
  | d + 1, h => by
    simp only [noStore, Bool.and_eq_true, Bool.not_eq_true']
    exact ⟨noStore_of (fun k h1 h2 => h k h1 (by omega)), h _ (by omega) (by omega)⟩
/-- Is event i, a, linked to the later event j, b? -/
def linkE (evs : List Ev) (i j : Nat) (a b : Ev) : Bool := decide (a.c = b.c) || (oneT a b && ((decide (a.k = 2) && (decide (b.k = 1) || decide (b.k = 3))) || (decide (a.k = 4) && decide (b.k = 1)) || ((decide (a.k = 6) || decide (a.k = 7)) && (decide (b.k = 5) || decide (b.k = 7)) && noStore evs b (i + 1) (j - (i + 1)))))
def linkB (evs : List Ev) (i j : Nat) : Bool := match evs[i]?, evs[j]? with
  | some a, some b => linkE evs i j a b
  | _, _ => false
theorem linkB_eq {evs : List Ev} {i j : Nat} {a b : Ev} (ha : evs[i]? = some a) (hb : evs[j]? = some b) : linkB evs i j = linkE evs i j a b := by unfold linkB; rw [ha, hb]
/-- Does event j know event i, which is below it? -/
def knowB (evs : List Ev) (j i : Nat) : Bool := match evs[i]? with
  | some e => decide (i < j) && decide (clkAt evs i e.c.toNat ≤ clkAt evs j e.c.toNat)
  | none => false
theorem knowB_eq {evs : List Ev} {i j : Nat} {e : Ev} (he : evs[i]? = some e) : knowB evs j i = (decide (i < j) && decide (clkAt evs i e.c.toNat ≤ clkAt evs j e.c.toNat)) := by unfold knowB; rw [he]
/-- Marks of one kind of step grow; those of stores as long as there is no store. -/
theorem passM_grow {k m : Nat} {f : Nat → Clk} {x : Clk} (h : m = 2 → k ≠ 6) (i : Nat) : f m i ≤ passM k f x m i := by
  unfold passM upd joinC
  split
  · dsimp only; split
    · next e => subst e; dsimp only; omega
    · exact Nat.le_refl _
  split
  · dsimp only; split
    · next e => subst e; dsimp only; omega
    · exact Nat.le_refl _
  split
  · next e6 =>
    dsimp only; split
    · next e => exact absurd e6 (h e)
    · exact Nat.le_refl _
  split
  · dsimp only; split
    · next e => subst e; dsimp only; omega
    · exact Nat.le_refl _
  · exact Nat.le_refl _
theorem toNat_k {k : Int} {n : Nat} (h0 : 0 < n) (h : k.toNat = n) : k = n := by omega
theorem mm_grow (evs : List Ev) (o n : Int) (m : Nat) {i : Nat} : (d : Nat) → i + d ≤ evs.length → (m = 2 → ∀ k e, i ≤ k → k < i + d → evs[k]? = some e → e.k = 6 → e.o = o → e.n = n → False) → ∀ x, (runS (evs.take i)).mm o n m x ≤ (runS (evs.take (i + d))).mm o n m x
  | 0, _, _ => fun x => Nat.le_refl _
  | d + 1, h, hs => fun x => by
    have ih := mm_grow evs o n m (i := i) d (by omega) (fun hm k e h1 h2 => hs hm k e h1 (by omega)) x
    obtain ⟨e, he⟩ : ∃ e, evs[i + d]? = some e := ⟨_, List.getElem?_eq_getElem (by omega)⟩
    rw [← Nat.add_assoc, runS_take he]
    refine Nat.le_trans ih ?_
    by_cases e1 : o = e.o ∧ n = e.n
    · have : (stepS (runS (evs.take (i + d))) e).mm o n = passM e.k.toNat ((runS (evs.take (i + d))).mm o n) (bumped (runS (evs.take (i + d))) e) := by obtain ⟨rfl, rfl⟩ := e1; simp [stepS, updM_same]
      rw [this]
      exact passM_grow (fun hm h6 => hs hm (i + d) e (by omega) (by omega) he (toNat_k (by decide) h6) e1.1.symm e1.2.symm) x
    · have : (stepS (runS (evs.take (i + d))) e).mm o n = (runS (evs.take (i + d))).mm o n := by simp [stepS, updM_other _ _ e1]
      rw [this]
      exact Nat.le_refl _
/-- What a step of a kind leaves at its thing. -/
theorem mark_left {evs : List Ev} {i : Nat} {e : Ev} (he : evs[i]? = some e) {m : Nat} (hm : (m = 0 ∧ e.k = 2) ∨ (m = 1 ∧ e.k = 4) ∨ (m = 2 ∧ (e.k = 6 ∨ e.k = 7))) (x : Nat) : clkAt evs i x ≤ (runS (evs.take (i + 1))).mm e.o e.n m x := by
  rw [clkAt_eq he, runS_take he]
  have : (stepS (runS (evs.take i)) e).mm e.o e.n = passM e.k.toNat ((runS (evs.take i)).mm e.o e.n) (bumped (runS (evs.take i)) e) := by simp [stepS, updM_same]
  rw [this]
  unfold nowOf passC passM upd joinC
  rcases hm with ⟨rfl, h⟩ | ⟨rfl, h⟩ | ⟨rfl, h | h⟩ <;> rw [h] <;> simp <;> omega
/-- What a step of a kind takes from its thing. -/
theorem mark_taken {evs : List Ev} {j : Nat} {e : Ev} (he : evs[j]? = some e) {m : Nat} (hm : (m = 0 ∧ (e.k = 1 ∨ e.k = 3)) ∨ (m = 1 ∧ e.k = 1) ∨ (m = 2 ∧ (e.k = 5 ∨ e.k = 7))) (x : Nat) : (runS (evs.take j)).mm e.o e.n m x ≤ clkAt evs j x := by
  rw [clkAt_eq he]
  unfold nowOf passC joinC
  rcases hm with ⟨rfl, h | h⟩ | ⟨rfl, h⟩ | ⟨rfl, h | h⟩ <;> rw [h] <;> simp <;> omega
/-- Who is linked to an event knows all that it knew. -/
theorem link_le {evs : List Ev} {i j : Nat} (hij : i < j) (hj : j < evs.length) (h : linkB evs i j = true) : ∀ x, clkAt evs i x ≤ clkAt evs j x := by
  obtain ⟨a, ha⟩ : ∃ a, evs[i]? = some a := ⟨_, List.getElem?_eq_getElem (by omega)⟩
  obtain ⟨b, hb⟩ : ∃ b, evs[j]? = some b := ⟨_, List.getElem?_eq_getElem hj⟩
  rw [linkB_eq ha hb] at h
  unfold linkE at h
  by_cases hc : a.c = b.c
  · refine clk_knows ha hij hj ?_
    rw [hc]
    have := own_later hb hij
    omega
  · rw [decide_eq_false hc, Bool.false_or, Bool.and_eq_true] at h
    obtain ⟨h1, h2⟩ := h
    unfold oneT at h1
    simp only [Bool.and_eq_true, decide_eq_true_eq] at h1
    obtain ⟨ho, hn⟩ := h1
    have go : ∀ m, ((m = 0 ∧ a.k = 2) ∨ (m = 1 ∧ a.k = 4) ∨ (m = 2 ∧ (a.k = 6 ∨ a.k = 7))) → ((m = 0 ∧ (b.k = 1 ∨ b.k = 3)) ∨ (m = 1 ∧ b.k = 1) ∨ (m = 2 ∧ (b.k = 5 ∨ b.k = 7))) → (m = 2 → noStore evs b (i + 1) (j - (i + 1)) = true) → ∀ x, clkAt evs i x ≤ clkAt evs j x := fun m q1 q2 q3 x => by
      have t1 := mark_left ha q1 x
      have t3 := mark_taken hb q2 x
      rw [ho, hn] at t1
      have t2 := mm_grow evs b.o b.n m (i := i + 1) (j - (i + 1)) (by omega) (fun hm k e k1 k2 he k6 ko kn => by
        have := noStore_at (q3 hm) k k1 k2
        unfold storeOf at this
        rw [he] at this
        simp [k6, ko, kn] at this) x
      rw [show i + 1 + (j - (i + 1)) = j from by omega] at t2
      omega
    simp only [Bool.or_eq_true, Bool.and_eq_true, decide_eq_true_eq] at h2
    rcases h2 with (⟨h2, h3⟩ | ⟨h2, h3⟩) | ⟨⟨h2, h3⟩, h4⟩
    · exact go 0 (.inl ⟨rfl, h2⟩) (.inl ⟨rfl, h3⟩) (fun h => by cases h)
    · exact go 1 (.inr (.inl ⟨rfl, h2⟩)) (.inr (.inl ⟨rfl, h3⟩)) (fun h => by cases h)
    · exact go 2 (.inr (.inr ⟨rfl, h2⟩)) (.inr (.inr ⟨rfl, h3⟩)) (fun _ => h4)
/-- Where what is known comes from. -/
structure Src (evs : List Ev) (k : Nat) : Prop where
  cl : ∀ c x, (runS (evs.take k)).cl c x = 0 ∨ ∃ m e, m < k ∧ evs[m]? = some e ∧ e.c.toNat = c ∧ (runS (evs.take k)).cl c x = clkAt evs m x
  m0 : ∀ o n x, (runS (evs.take k)).mm o n 0 x = 0 ∨ ∃ m e, m < k ∧ evs[m]? = some e ∧ e.k = 2 ∧ e.o = o ∧ e.n = n ∧ (runS (evs.take k)).mm o n 0 x = clkAt evs m x
  m1 : ∀ o n x, (runS (evs.take k)).mm o n 1 x = 0 ∨ ∃ m e, m < k ∧ evs[m]? = some e ∧ e.k = 4 ∧ e.o = o ∧ e.n = n ∧ (runS (evs.take k)).mm o n 1 x = clkAt evs m x
  m2 : ∀ o n x, (runS (evs.take k)).mm o n 2 x = 0 ∨ ∃ m e, m < k ∧ evs[m]? = some e ∧ (e.k = 6 ∨ e.k = 7) ∧ e.o = o ∧ e.n = n ∧ (∀ q f, m < q → q < k → evs[q]? = some f → f.k = 6 → f.o = o → f.n = n → False) ∧ (runS (evs.take k)).mm o n 2 x = clkAt evs m x
theorem src_all (evs : List Ev) : (k : Nat) → k ≤ evs.length → Src evs k
  | 0, _ => ⟨fun _ _ => .inl rfl, fun _ _ _ => .inl rfl, fun _ _ _ => .inl rfl, fun _ _ _ => .inl rfl⟩
  | k + 1, h => by
    obtain ⟨i1, i2, i3, i4⟩ := src_all evs k (by omega)
    obtain ⟨e, he⟩ : ∃ e, evs[k]? = some e := ⟨_, List.getElem?_eq_getElem (by omega)⟩
    have hnow := clkAt_eq he
    have hmm : ∀ o n, o = e.o ∧ n = e.n → (runS (evs.take (k + 1))).mm o n = passM e.k.toNat ((runS (evs.take k)).mm o n) (bumped (runS (evs.take k)) e) := fun o n h => by obtain ⟨rfl, rfl⟩ := h; rw [runS_take he]; simp [stepS, updM_same]
    have hmo : ∀ o n, ¬ (o = e.o ∧ n = e.n) → (runS (evs.take (k + 1))).mm o n = (runS (evs.take k)).mm o n := fun o n h => by rw [runS_take he]; simp [stepS, updM_other _ _ h]
    have hpl : e.k.toNat ≠ 1 → e.k.toNat ≠ 3 → e.k.toNat ≠ 5 → e.k.toNat ≠ 7 → clkAt evs k = bumped (runS (evs.take k)) e := fun n1 n3 n5 n7 => by
      rw [hnow]
      unfold nowOf passC
      rw [if_neg n1, if_neg n3, if_neg n5, if_neg n7]
    refine ⟨fun c x => ?_, fun o n x => ?_, fun o n x => ?_, fun o n x => ?_⟩
    · by_cases ec : c = e.c.toNat
      · exact .inr ⟨k, e, by omega, he, ec.symm, by rw [ec, clkAt_cl he]⟩
      · have : (runS (evs.take (k + 1))).cl c = (runS (evs.take k)).cl c := by rw [runS_take he]; simp [stepS, upd_other _ _ ec]
        rw [this]
        rcases i1 c x with h | ⟨m, f, h1, h2⟩
        · exact .inl h
        · exact .inr ⟨m, f, by omega, h2⟩
    · have hold : (runS (evs.take (k + 1))).mm o n 0 x = (runS (evs.take k)).mm o n 0 x → (runS (evs.take (k + 1))).mm o n 0 x = 0 ∨ ∃ m e, m < k + 1 ∧ evs[m]? = some e ∧ e.k = 2 ∧ e.o = o ∧ e.n = n ∧ (runS (evs.take (k + 1))).mm o n 0 x = clkAt evs m x := fun h => by
        rw [h]
        rcases i2 o n x with h | ⟨m, f, h1, h2⟩
        · exact .inl h
        · exact .inr ⟨m, f, by omega, h2⟩
      by_cases e1 : o = e.o ∧ n = e.n
      · by_cases e2 : e.k.toNat = 2
        · have hv : (runS (evs.take (k + 1))).mm o n 0 x = max ((runS (evs.take k)).mm o n 0 x) (clkAt evs k x) := by
            rw [hmm o n e1, hpl (by omega) (by omega) (by omega) (by omega)]
            unfold passM
            rw [if_pos e2, upd_same]
            rfl
          by_cases hle : (runS (evs.take k)).mm o n 0 x ≤ clkAt evs k x
          · exact .inr ⟨k, e, by omega, he, toNat_k (by decide) e2, e1.1.symm, e1.2.symm, by rw [hv]; omega⟩
          · exact hold (by rw [hv]; omega)
        · refine hold ?_
          rw [hmm o n e1]
          unfold passM
          rw [if_neg e2]
          split
          · rw [upd_other _ _ (by decide)]
          split
          · rw [upd_other _ _ (by decide)]
          split
          · rw [upd_other _ _ (by decide)]
          · rfl
      · exact hold (by rw [hmo o n e1])
    · have hold : (runS (evs.take (k + 1))).mm o n 1 x = (runS (evs.take k)).mm o n 1 x → (runS (evs.take (k + 1))).mm o n 1 x = 0 ∨ ∃ m e, m < k + 1 ∧ evs[m]? = some e ∧ e.k = 4 ∧ e.o = o ∧ e.n = n ∧ (runS (evs.take (k + 1))).mm o n 1 x = clkAt evs m x := fun h => by
        rw [h]
        rcases i3 o n x with h | ⟨m, f, h1, h2⟩
        · exact .inl h
        · exact .inr ⟨m, f, by omega, h2⟩
      by_cases e1 : o = e.o ∧ n = e.n
      · by_cases e2 : e.k.toNat = 4
        · have hv : (runS (evs.take (k + 1))).mm o n 1 x = max ((runS (evs.take k)).mm o n 1 x) (clkAt evs k x) := by
            rw [hmm o n e1, hpl (by omega) (by omega) (by omega) (by omega)]
            unfold passM
            rw [if_neg (by omega), if_pos e2, upd_same]
            rfl
          by_cases hle : (runS (evs.take k)).mm o n 1 x ≤ clkAt evs k x
          · exact .inr ⟨k, e, by omega, he, toNat_k (by decide) e2, e1.1.symm, e1.2.symm, by rw [hv]; omega⟩
          · exact hold (by rw [hv]; omega)
        · refine hold ?_
          rw [hmm o n e1]
          unfold passM
          split
          · rw [upd_other _ _ (by decide)]
          split
          · rw [upd_other _ _ (by decide)]
          split
          · rw [upd_other _ _ (by decide)]
          · rfl
      · exact hold (by rw [hmo o n e1])
    · have hold : (¬ (o = e.o ∧ n = e.n) ∨ e.k.toNat ≠ 6) → (runS (evs.take (k + 1))).mm o n 2 x = (runS (evs.take k)).mm o n 2 x → (runS (evs.take (k + 1))).mm o n 2 x = 0 ∨ ∃ m e, m < k + 1 ∧ evs[m]? = some e ∧ (e.k = 6 ∨ e.k = 7) ∧ e.o = o ∧ e.n = n ∧ (∀ q f, m < q → q < k + 1 → evs[q]? = some f → f.k = 6 → f.o = o → f.n = n → False) ∧ (runS (evs.take (k + 1))).mm o n 2 x = clkAt evs m x := fun hno h => by
        rw [h]
        rcases i4 o n x with h | ⟨m, f, h1, h2, h3, h4, h5, h6, h7⟩
        · exact .inl h
        · refine .inr ⟨m, f, by omega, h2, h3, h4, h5, fun q g q1 q2 q3 q4 q5 q6 => ?_, h7⟩
          by_cases eq : q = k
          · subst eq
            rw [he] at q3
            cases q3
            rcases hno with hno | hno
            · exact hno ⟨q5.symm, q6.symm⟩
            · exact hno (by omega)
          · exact h6 q g q1 (by omega) q3 q4 q5 q6
      by_cases e1 : o = e.o ∧ n = e.n
      · by_cases e2 : e.k.toNat = 6
        · refine .inr ⟨k, e, by omega, he, .inl (toNat_k (by decide) e2), e1.1.symm, e1.2.symm, fun q g q1 q2 => by omega, ?_⟩
          rw [hmm o n e1, hpl (by omega) (by omega) (by omega) (by omega)]
          unfold passM
          rw [if_neg (by omega), if_neg (by omega), if_pos e2, upd_same]
        by_cases e3 : e.k.toNat = 7
        · refine .inr ⟨k, e, by omega, he, .inr (toNat_k (by decide) e3), e1.1.symm, e1.2.symm, fun q g q1 q2 => by omega, ?_⟩
          rw [hmm o n e1, hnow]
          unfold passM nowOf passC
          rw [if_neg (by omega), if_neg (by omega), if_neg (by omega), if_pos e3, upd_same, if_neg (by omega), if_neg (by omega), if_neg (by omega), if_pos e3, e1.1, e1.2]
        · refine hold (.inr e2) ?_
          rw [hmm o n e1]
          unfold passM
          split
          · rw [upd_other _ _ (by decide)]
          split
          · rw [upd_other _ _ (by decide)]
          · rfl
      · exact hold (.inl e1) (by rw [hmo o n e1])
/-- What is known is known by a link. -/
theorem know_link {evs : List Ev} (hok : ∀ e ∈ evs, 0 ≤ e.c) {i j : Nat} (hij : i < j) (hj : j < evs.length) (h : knowB evs j i = true) : ∃ m, i ≤ m ∧ m < j ∧ linkB evs m j = true ∧ (i = m ∨ knowB evs m i = true) := by
  obtain ⟨e, he⟩ : ∃ e, evs[i]? = some e := ⟨_, List.getElem?_eq_getElem (by omega)⟩
  obtain ⟨f, hf⟩ : ∃ f, evs[j]? = some f := ⟨_, List.getElem?_eq_getElem hj⟩
  rw [knowB_eq he, Bool.and_eq_true, decide_eq_true_eq, decide_eq_true_eq] at h
  have hle := h.2
  have hce := hok e (List.mem_of_getElem? he)
  have hcf := hok f (List.mem_of_getElem? hf)
  have hpos : 0 < clkAt evs i e.c.toNat := by rw [clkAt_own he]; omega
  obtain ⟨s1, s2, s3, s4⟩ := src_all evs j (by omega)
  -- from an event that knows it
  have fin : ∀ m g, m < j → evs[m]? = some g → linkB evs m j = true → clkAt evs i e.c.toNat ≤ clkAt evs m e.c.toNat → ∃ m, i ≤ m ∧ m < j ∧ linkB evs m j = true ∧ (i = m ∨ knowB evs m i = true) := fun m g hm hg hl hk => by
    by_cases him : m < i
    · have := own_later he him; omega
    · refine ⟨m, by omega, hm, hl, ?_⟩
      by_cases e1 : i = m
      · exact .inl e1
      · right
        rw [knowB_eq he, Bool.and_eq_true, decide_eq_true_eq, decide_eq_true_eq]
        exact ⟨by omega, hk⟩
  have link : ∀ m g, evs[m]? = some g → linkE evs m j g f = true → linkB evs m j = true := fun m g hg h => by rw [linkB_eq hg hf]; exact h
  by_cases hc : e.c = f.c
  · exact ⟨i, Nat.le_refl _, hij, link i e he (by unfold linkE; simp [hc]), .inl rfl⟩
  · have hb : bumped (runS (evs.take j)) f e.c.toNat = (runS (evs.take j)).cl f.c.toNat e.c.toNat := by
      unfold bumped bumpC
      rw [if_neg (by omega)]
    have goX : clkAt evs i e.c.toNat ≤ bumped (runS (evs.take j)) f e.c.toNat → ∃ m, i ≤ m ∧ m < j ∧ linkB evs m j = true ∧ (i = m ∨ knowB evs m i = true) := fun hx => by
      rw [hb] at hx
      rcases s1 f.c.toNat e.c.toNat with h0 | ⟨m, g, h1, h2, h3, h4⟩
      · omega
      · have hcg := hok g (List.mem_of_getElem? h2)
        exact fin m g h1 h2 (link m g h2 (by unfold linkE; rw [decide_eq_true (by omega : g.c = f.c)]; rfl)) (by rw [← h4]; exact hx)
    have go0 : (f.k = 1 ∨ f.k = 3) → clkAt evs i e.c.toNat ≤ (runS (evs.take j)).mm f.o f.n 0 e.c.toNat → ∃ m, i ≤ m ∧ m < j ∧ linkB evs m j = true ∧ (i = m ∨ knowB evs m i = true) := fun hk hx => by
      rcases s2 f.o f.n e.c.toNat with h0 | ⟨m, g, h1, h2, h3, h4, h5, h6⟩
      · omega
      · refine fin m g h1 h2 (link m g h2 ?_) (by rw [← h6]; exact hx)
        unfold linkE oneT
        rcases hk with hk | hk <;> simp [h3, h4, h5, hk]
    have go1 : f.k = 1 → clkAt evs i e.c.toNat ≤ (runS (evs.take j)).mm f.o f.n 1 e.c.toNat → ∃ m, i ≤ m ∧ m < j ∧ linkB evs m j = true ∧ (i = m ∨ knowB evs m i = true) := fun hk hx => by
      rcases s3 f.o f.n e.c.toNat with h0 | ⟨m, g, h1, h2, h3, h4, h5, h6⟩
      · omega
      · refine fin m g h1 h2 (link m g h2 ?_) (by rw [← h6]; exact hx)
        unfold linkE oneT
        simp [h3, h4, h5, hk]
    have go2 : (f.k = 5 ∨ f.k = 7) → clkAt evs i e.c.toNat ≤ (runS (evs.take j)).mm f.o f.n 2 e.c.toNat → ∃ m, i ≤ m ∧ m < j ∧ linkB evs m j = true ∧ (i = m ∨ knowB evs m i = true) := fun hk hx => by
      rcases s4 f.o f.n e.c.toNat with h0 | ⟨m, g, h1, h2, h3, h4, h5, h6, h7⟩
      · omega
      · refine fin m g h1 h2 (link m g h2 ?_) (by rw [← h7]; exact hx)
        have hns : noStore evs f (m + 1) (j - (m + 1)) = true := noStore_of (fun q q1 q2 => by
          unfold storeOf
          cases hq : evs[q]? with
          | none => rfl
          | some z =>
            by_cases z1 : z.k = 6
            · by_cases z2 : z.o = f.o
              · by_cases z3 : z.n = f.n
                · exact (h6 q z (by omega) (by omega) hq z1 z2 z3).elim
                · simp [z3]
              · simp [z2]
            · simp [z1])
        unfold linkE oneT
        rcases h3 with h3 | h3 <;> rcases hk with hk | hk <;> simp [h3, h4, h5, hk, hns]
    rw [clkAt_eq hf] at hle
    unfold nowOf passC joinC at hle
    split at hle
    · next e1 =>
      have k1 : f.k = 1 := toNat_k (by decide) e1
      dsimp only at hle
      by_cases q1 : clkAt evs i e.c.toNat ≤ bumped (runS (evs.take j)) f e.c.toNat
      · exact goX q1
      by_cases q2 : clkAt evs i e.c.toNat ≤ (runS (evs.take j)).mm f.o f.n 0 e.c.toNat
      · exact go0 (.inl k1) q2
      · exact go1 k1 (by omega)
    split at hle
    · next e1 =>
      have k1 : f.k = 3 := toNat_k (by decide) e1
      dsimp only at hle
      by_cases q1 : clkAt evs i e.c.toNat ≤ bumped (runS (evs.take j)) f e.c.toNat
      · exact goX q1
      · exact go0 (.inr k1) (by omega)
    split at hle
    · next e1 =>
      have k1 : f.k = 5 := toNat_k (by decide) e1
      dsimp only at hle
      by_cases q1 : clkAt evs i e.c.toNat ≤ bumped (runS (evs.take j)) f e.c.toNat
      · exact goX q1
      · exact go2 (.inl k1) (by omega)
    split at hle
    · next e1 =>
      have k1 : f.k = 7 := toNat_k (by decide) e1
      dsimp only at hle
      by_cases q1 : clkAt evs i e.c.toNat ≤ bumped (runS (evs.take j)) f e.c.toNat
      · exact goX q1
      · exact go2 (.inr k1) (by omega)
    · exact goX hle
/-- A row of the document's table behind its first m events. -/
def rowB (evs : List Ev) (j : Nat) : Nat → Nat → Bool
  | 0, _ => false
  | m + 1, k => if linkB evs m j then (if k = m then true else if k < m then rowB evs j m k || knowB evs m k else rowB evs j m k) else rowB evs j m k
theorem rowB_iff (evs : List Ev) (j : Nat) : (m k : Nat) → rowB evs j m k = true ↔ ∃ q, k ≤ q ∧ q < m ∧ linkB evs q j = true ∧ (k = q ∨ knowB evs q k = true)
  | 0, k => ⟨(fun h => by cases h), (fun ⟨q, _, h, _⟩ => by omega)⟩
  | m + 1, k => by
    have ih := rowB_iff evs j m k
    have hup : (∃ q, k ≤ q ∧ q < m ∧ linkB evs q j = true ∧ (k = q ∨ knowB evs q k = true)) → ∃ q, k ≤ q ∧ q < m + 1 ∧ linkB evs q j = true ∧ (k = q ∨ knowB evs q k = true) := fun ⟨q, h1, h2, h3⟩ => ⟨q, h1, by omega, h3⟩
    unfold rowB
    split
    · next hl =>
      split
      · next e => exact ⟨fun _ => ⟨m, by omega, by omega, hl, .inl e⟩, fun _ => rfl⟩
      split
      · next hne hlt =>
        rw [Bool.or_eq_true, ih]
        refine ⟨fun h => h.elim hup (fun h => ⟨m, by omega, by omega, hl, .inr h⟩), fun ⟨q, h1, h2, h3, h4⟩ => ?_⟩
        by_cases e : q = m
        · subst e
          exact .inr (h4.resolve_left hne)
        · exact .inl ⟨q, h1, by omega, h3, h4⟩
      · next hne hlt =>
        rw [ih]
        exact ⟨hup, fun ⟨q, h1, h2, _⟩ => by omega⟩
    · next hl =>
      rw [ih]
      refine ⟨hup, fun ⟨q, h1, h2, h3, h4⟩ => ?_⟩
      by_cases e : q = m
      · subst e
        exact absurd h3 hl
      · exact ⟨q, h1, by omega, h3, h4⟩
/-- At its end the row tells what is known. -/
theorem rowB_know {evs : List Ev} (hok : ∀ e ∈ evs, 0 ≤ e.c) {j : Nat} (hj : j < evs.length) (k : Nat) : rowB evs j j k = knowB evs j k := by
  cases hk : knowB evs j k with
  | true =>
    have hkj : k < j := by
      unfold knowB at hk
      split at hk
      · simp at hk; exact hk.1
      · cases hk
    rw [rowB_iff]
    obtain ⟨m, h1, h2, h3⟩ := know_link hok hkj hj hk
    exact ⟨m, h1, h2, h3⟩
  | false =>
    cases hr : rowB evs j j k with
    | false => rfl
    | true =>
      rw [rowB_iff] at hr
      obtain ⟨q, h1, h2, h3, h4⟩ := hr
      exfalso
      obtain ⟨e, he⟩ : ∃ e, evs[k]? = some e := ⟨_, List.getElem?_eq_getElem (by omega)⟩
      have hle := link_le h2 hj h3
      have : knowB evs j k = true := by
        rw [knowB_eq he, Bool.and_eq_true, decide_eq_true_eq, decide_eq_true_eq]
        refine ⟨by omega, ?_⟩
        rcases h4 with rfl | h4
        · exact hle _
        · rw [knowB_eq he, Bool.and_eq_true, decide_eq_true_eq, decide_eq_true_eq] at h4
          exact Nat.le_trans h4.2 (hle _)
      rw [hk] at this
      cases this
end Go.Proofs.Ytdgdfpgekccibab
