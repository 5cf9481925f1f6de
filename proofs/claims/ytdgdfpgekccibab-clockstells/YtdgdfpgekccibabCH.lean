import Derived.Test.YtdgdfpgekccibabCG
/-! clocks: the state of a walk through a trace, and its memory. -/
namespace Go.Proofs.Ytdgdfpgekccibab
open Go Go.RowKit
abbrev Marks := Int → Int → Nat → Clk
/-- The clients' clocks and the things' marks. -/
structure St where
  cl : Nat → Clk
  mm : Marks
def updM (m : Marks) (o n : Int) (x : Nat → Clk) : Marks := fun o' n' => if o' = o ∧ n' = n then x else m o' n'
theorem updM_same (m : Marks) (o n : Int) (x : Nat → Clk) : updM m o n x o n = x := by simp [updM]
theorem updM_other (m : Marks) {o n o' n' : Int} (x : Nat → Clk) (h : ¬ (o' = o ∧ n' = n)) : updM m o n x o' n' = m o' n' := by simp [updM, h]
def st0 : St := ⟨fun _ => zeroC, fun _ _ _ => zeroC⟩
/-- The client's clock behind the count, ahead of what the kind does. -/
def bumped (s : St) (e : Ev) : Clk := bumpC (s.cl e.c.toNat) e.c.toNat
def nowOf (s : St) (e : Ev) : Clk := passC e.k.toNat (s.mm e.o e.n) (bumped s e)
def stepS (s : St) (e : Ev) : St := ⟨upd s.cl e.c.toNat (nowOf s e), updM s.mm e.o e.n (passM e.k.toNat (s.mm e.o e.n) (bumped s e))⟩
def runS (l : List Ev) : St := l.foldl stepS st0
theorem runS_snoc (l : List Ev) (e : Ev) : runS (l ++ [e]) = stepS (runS l) e := by simp [runS]
theorem runS_take {l : List Ev} {k : Nat} {e : Ev} (h : l[k]? = some e) : runS (l.take (k + 1)) = stepS (runS (l.take k)) e := by
  obtain ⟨hk, rfl⟩ := List.getElem?_eq_some_iff.1 h
  rw [List.take_succ_eq_append_getElem hk, runS_snoc]
/-- No count is above n. -/
def Bd (n : Nat) (s : St) : Prop := (∀ c i, s.cl c i ≤ n) ∧ ∀ o k j i, s.mm o k j i ≤ n
theorem joinC_le {n : Nat} {a b : Clk} (ha : ∀ i, a i ≤ n) (hb : ∀ i, b i ≤ n) : ∀ i, joinC a b i ≤ n := fun i => by
  have := ha i; have := hb i
  unfold joinC; omega
theorem upd_le {n : Nat} {f : Nat → Clk} {c : Nat} {x : Clk} (hf : ∀ c i, f c i ≤ n) (hx : ∀ i, x i ≤ n) : ∀ c' i, upd f c x c' i ≤ n := fun c' i => by
  unfold upd
  split
  · exact hx i
  · exact hf c' i
theorem passC_le {n k : Nat} {m : Nat → Clk} {x : Clk} (hm : ∀ j i, m j i ≤ n) (hx : ∀ i, x i ≤ n) : ∀ i, passC k m x i ≤ n := by
  unfold passC
  split
  · exact joinC_le (joinC_le hx (hm 0)) (hm 1)
  split
  · exact joinC_le hx (hm 0)
  split
  · exact joinC_le hx (hm 2)
  split
  · exact joinC_le hx (hm 2)
  · exact hx
theorem passM_le {n k : Nat} {m : Nat → Clk} {x : Clk} (hm : ∀ j i, m j i ≤ n) (hx : ∀ i, x i ≤ n) : ∀ j i, passM k m x j i ≤ n := by
  unfold passM
  split
  · exact upd_le hm (joinC_le (hm 0) hx)
  split
  · exact upd_le hm (joinC_le (hm 1) hx)
  split
  · exact upd_le hm hx
  split
  · exact upd_le hm (joinC_le hx (hm 2))
  · exact hm
theorem Bd.step {n : Nat} {s : St} (h : Bd n s) (e : Ev) : Bd (n + 1) (stepS s e) := by
  obtain ⟨h1, h2⟩ := h
  have hx : ∀ i, bumped s e i ≤ n + 1 := fun i => by
    have := h1 e.c.toNat i
    unfold bumped bumpC
    split <;> omega
  have hm : ∀ j i, s.mm e.o e.n j i ≤ n + 1 := fun j i => by have := h2 e.o e.n j i; omega
  refine ⟨upd_le (fun c i => by have := h1 c i; omega) (passC_le hm hx), fun o k j i => ?_⟩
  unfold stepS updM
  simp only
  split
  · exact passM_le hm hx j i
  · have := h2 o k j i; omega
theorem runS_bdk (l : List Ev) : (k : Nat) → k ≤ l.length → Bd k (runS (l.take k))
  | 0, _ => ⟨fun _ _ => Nat.le_refl _, fun _ _ _ _ => Nat.le_refl _⟩
  | k + 1, h => by
    rw [runS_take (List.getElem?_eq_getElem (i := k) (by omega))]
    exact (runS_bdk l k (by omega)).step _
/-- The walk's own memory. -/
structure ItAt (w : World) (bC bK mb n : Nat) (f : Where) (s : St) : Prop where
  cl : Grid w bC 16 81 s.cl
  ks : w.heap[bK]? = some (.cells kindsA 65 (0, 0))
  th : ThAt w mb n f
  mm : ∀ o k b, f o k = some b → Grid w b 3 87 (s.mm o k)
  no : ∀ o k, f o k = none → s.mm o k = fun _ => zeroC
  inj : ∀ o k o' k' b, f o k = some b → f o' k' = some b → o = o' ∧ k = k'
  ap : ∀ o k b, f o k = some b → b ≠ bC ∧ b ≠ bK ∧ b ≠ mb
  ne : bC ≠ bK ∧ bC ≠ mb ∧ bK ≠ mb
/-- Its blocks. -/
def OwnB (bC bK mb : Nat) (f : Where) (b : Nat) : Prop := b = bC ∨ b = bK ∨ b = mb ∨ ∃ o k, f o k = some b
theorem ItAt.lt {w : World} {bC bK mb n : Nat} {f : Where} {s : St} (h : ItAt w bC bK mb n f s) {b : Nat} (hb : OwnB bC bK mb f b) : b < w.heap.size := by
  rcases hb with rfl | rfl | rfl | ⟨o, k, hb⟩
  · exact h.cl.lt
  · exact (Array.getElem?_eq_some_iff.1 h.ks).1
  · exact h.th.lt
  · exact (h.mm o k b hb).lt
theorem ItAt.keep {w w' : World} {bC bK mb n : Nat} {f : Where} {s : St} (h : ItAt w bC bK mb n f s) (hk : ∀ b, OwnB bC bK mb f b → w'.heap[b]? = w.heap[b]?) : ItAt w' bC bK mb n f s :=
  ⟨h.cl.keep (hk _ (.inl rfl)), (hk _ (.inr (.inl rfl))).trans h.ks, h.th.keep (hk _ (.inr (.inr (.inl rfl)))), fun o k b hb => (h.mm o k b hb).keep (hk _ (.inr (.inr (.inr ⟨o, k, hb⟩)))), h.no, h.inj, h.ap, h.ne⟩
theorem ItAt.below {w w' : World} {bC bK mb n : Nat} {f : Where} {s : St} (h : ItAt w bC bK mb n f s) (hk : Below w.heap.size w w') : ItAt w' bC bK mb n f s := h.keep (fun b hb => hk.block b (h.lt hb))
theorem zeros48_grid {w : World} {b : Nat} (h : w.heap[b]? = some (.cells zeros48 87 (0, 0))) : Grid w b 3 87 (fun _ => zeroC) := by
  refine ⟨zeros48, h, rfl, fun c hc i hi => ?_⟩
  have : zeros48 = Array.replicate 48 (.int .i32 0) := by kernel_rfl
  rw [this, Array.getElem?_replicate, if_pos (by omega)]
  rfl
/-- The count. -/
theorem ItAt.bump {w : World} {bC bK mb n : Nat} {f : Where} {s : St} (h : ItAt w bC bK mb n f s) {c : Nat} (hc : c < 16) : ItAt (w.setCell ⟨bC, c * 16 + c, none⟩ (.int .i32 ((s.cl c c : Int) + 1))) bC bK mb n f ⟨upd s.cl c (bumpC (s.cl c) c), s.mm⟩ := by
  rw [show ((s.cl c c : Int) + 1) = ((s.cl c c + 1 : Nat) : Int) by omega]
  have hk : ∀ b, b ≠ bC → (w.setCell ⟨bC, c * 16 + c, none⟩ (.int .i32 ((s.cl c c + 1 : Nat)))).heap[b]? = w.heap[b]? := fun b hb => Below.heap_setCell _ _ _ _ hb
  refine ⟨(h.cl.set hc hc (s.cl c c + 1)).congr (fun c' _ i _ => ?_), (hk _ h.ne.1.symm).trans h.ks, h.th.keep (hk _ h.ne.2.1.symm), fun o k b hb => (h.mm o k b hb).keep (hk _ (h.ap o k b hb).1), h.no, h.inj, h.ap, h.ne⟩
  show upd s.cl c (upd (s.cl c) c (s.cl c c + 1)) c' i = upd s.cl c (bumpC (s.cl c) c) c' i
  by_cases e : c' = c
  · subst e
    rw [upd_same, upd_same]
    unfold upd bumpC
    split
    · next e => rw [e]
    · rfl
  · rw [upd_other _ _ e, upd_other _ _ e]
/-- What a step does that passes clocks on. -/
theorem ItAt.pass {w w1 : World} {bC bK mb n n' b : Nat} {f : Where} {s : St} {o k : Int} (h : ItAt w bC bK mb n f s)
    (h1 : ThAt w1 mb n' (updW f o k b)) (hF : Fr (· = mb) w w1) (hb : f o k = some b ∨ (f o k = none ∧ w.heap.size ≤ b ∧ w1.heap[b]? = some (.cells zeros48 87 (0, 0)))) :
    Grid w1 b 3 87 (s.mm o k) ∧ Grid w1 bC 16 81 s.cl ∧ b ≠ bC ∧
    (∀ kd c e1 w2, PassPost kd b bC c 87 81 (s.mm o k) s.cl w1 e1 w2 → ItAt w2 bC bK mb n' (updW f o k b) ⟨upd s.cl c (passC kd (s.mm o k) (s.cl c)), updM s.mm o k (passM kd (s.mm o k) (s.cl c))⟩) := by
  have hbG : Grid w1 b 3 87 (s.mm o k) := by
    rcases hb with hb | ⟨hb, _, hz⟩
    · exact (h.mm o k b hb).fr hF (h.ap o k b hb).2.2
    · rw [h.no o k hb]; exact zeros48_grid hz
  have hap : b ≠ bC ∧ b ≠ bK ∧ b ≠ mb := by
    rcases hb with hb | ⟨_, hb, _⟩
    · exact h.ap o k b hb
    · have h1 := h.lt (.inl rfl)
      have h2 := h.lt (.inr (.inl rfl))
      have h3 := h.lt (.inr (.inr (.inl rfl)))
      omega
  refine ⟨hbG, h.cl.fr hF h.ne.2.1, hap.1, ?_⟩
  rintro kd c e1 w2 ⟨-, g1, g2, g3⟩
  have hold : ∀ o' k' b', ¬ (o' = o ∧ k' = k) → f o' k' = some b' → b' ≠ b := fun o' k' b' hn hb' e => by
    subst e
    rcases hb with hb | ⟨_, hb, _⟩
    · exact hn (h.inj _ _ _ _ _ hb' hb)
    · have := h.lt (.inr (.inr (.inr ⟨o', k', hb'⟩))); omega
  have hcase : ∀ o' k' b', updW f o k b o' k' = some b' → (o' = o ∧ k' = k ∧ b' = b) ∨ (¬ (o' = o ∧ k' = k) ∧ f o' k' = some b') := fun o' k' b' hu => by
    by_cases e : o' = o ∧ k' = k
    · obtain ⟨rfl, rfl⟩ := e
      rw [updW_same] at hu
      exact .inl ⟨rfl, rfl, (Option.some.inj hu).symm⟩
    · rw [updW_other _ _ e] at hu
      exact .inr ⟨e, hu⟩
  refine ⟨g2, ?_, h1.keep (g3.block mb h1.lt (fun e => e.elim (fun e => hap.2.2 e.symm) (fun e => h.ne.2.1 e.symm))), fun o' k' b' hb' => ?_, fun o' k' hn => ?_, fun o1 k1 o2 k2 b' e1 e2 => ?_, fun o' k' b' hb' => ?_, h.ne⟩
  · have hlt := h.lt (.inr (.inl rfl))
    rw [g3.block bK (Nat.lt_of_lt_of_le hlt hF.size) (fun e => e.elim (fun e => hap.2.1 e.symm) (fun e => h.ne.1 e.symm)), hF.block bK hlt h.ne.2.2]
    exact h.ks
  · rcases hcase o' k' b' hb' with ⟨rfl, rfl, rfl⟩ | ⟨hn, hb'⟩
    · simp only [updM_same]
      exact g1
    · simp only [updM_other _ _ hn]
      have hlt := h.lt (.inr (.inr (.inr ⟨o', k', hb'⟩)))
      exact ((h.mm o' k' b' hb').fr hF (h.ap _ _ _ hb').2.2).keep (g3.block b' (Nat.lt_of_lt_of_le hlt hF.size) (fun e => e.elim (fun e => hold _ _ _ hn hb' e) (fun e => (h.ap _ _ _ hb').1 e)))
  · have hne : ¬ (o' = o ∧ k' = k) := by
      rintro ⟨rfl, rfl⟩
      rw [updW_same] at hn
      cases hn
    rw [updW_other _ _ hne] at hn
    simp only [updM_other _ _ hne]
    exact h.no _ _ hn
  · rcases hcase _ _ _ e1 with ⟨rfl, rfl, rfl⟩ | ⟨hn1, e1'⟩
    · rcases hcase _ _ _ e2 with ⟨rfl, rfl, _⟩ | ⟨hn2, e2'⟩
      · exact ⟨rfl, rfl⟩
      · exact absurd rfl (hold _ _ _ hn2 e2')
    · rcases hcase _ _ _ e2 with ⟨rfl, rfl, rfl⟩ | ⟨hn2, e2'⟩
      · exact absurd rfl (hold _ _ _ hn1 e1')
      · exact h.inj _ _ _ _ _ e1' e2'
  · rcases hcase _ _ _ hb' with ⟨_, _, rfl⟩ | ⟨_, hb'⟩
    · exact hap
    · exact h.ap _ _ _ hb'
end Go.Proofs.Ytdgdfpgekccibab
