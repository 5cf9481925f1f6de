import Derived.Test.YtdgdfpgekccibabCQ
/-! clocks: uses as they come; their counts rise. -/
namespace Go.Proofs.Ytdgdfpgekccibab
open Go Go.RowKit
abbrev AllU := Int → Int → List Usr
def updA (f : AllU) (o n : Int) (x : List Usr) : AllU := fun o' n' => if o' = o ∧ n' = n then x else f o' n'
theorem updA_same (f : AllU) (o n : Int) (x : List Usr) : updA f o n x o n = x := by simp [updA]
theorem updA_other (f : AllU) {o n o' n' : Int} (x : List Usr) (h : ¬ (o' = o ∧ n' = n)) : updA f o n x o' n' = f o' n' := by simp [updA, h]
/-- Does an event use a cell? -/
def isUse (e : Ev) : Bool := decide (e.k = 8) || decide (e.k = 9)
def stepU (evs : List Ev) (k : Nat) (e : Ev) (us : AllU) : AllU := if isUse e then updA us e.o e.n (useU (us e.o e.n) e.c.toNat (k, clkAt evs k e.c.toNat) (decide (e.k = 9))) else us
/-- The uses of the first k events. -/
def usK (evs : List Ev) : Nat → AllU
  | 0 => fun _ _ => []
  | k + 1 => match evs[k]? with
    | some e => stepU evs k e (usK evs k)
    | none => usK evs k
theorem usK_succ {evs : List Ev} {k : Nat} {e : Ev} (h : evs[k]? = some e) : usK evs (k + 1) = stepU evs k e (usK evs k) := by simp [usK, h]
/-- The event with which event k races first. -/
def raceAt (evs : List Ev) (k : Nat) : Option Nat := match evs[k]? with
  | some e => if isUse e then apartU (usK evs k e.o e.n) (clkAt evs k) (decide (e.k = 9)) else none
  | none => none
/-- The races of the first k events. -/
def raceK (evs : List Ev) : Nat → List (Nat × Nat)
  | 0 => []
  | k + 1 => match raceAt evs k with
    | some i => raceK evs k ++ [(i, k)]
    | none => raceK evs k
/-- Nobody knows more of a client than itself. -/
def Self (s : St) : Prop := (∀ c i, s.cl c i ≤ s.cl i i) ∧ ∀ o k m i, s.mm o k m i ≤ s.cl i i
theorem passC_self {k : Nat} {m : Nat → Clk} {x b : Clk} (hm : ∀ j i, m j i ≤ b i) (hx : ∀ i, x i ≤ b i) : ∀ i, passC k m x i ≤ b i := fun i => by
  have h0 := hm 0 i
  have h1 := hm 1 i
  have h2 := hm 2 i
  have h3 := hx i
  unfold passC joinC
  split
  · dsimp only; omega
  split
  · dsimp only; omega
  split
  · dsimp only; omega
  split
  · dsimp only; omega
  · exact h3
theorem passC_ge {k : Nat} {m : Nat → Clk} {x : Clk} (i : Nat) : x i ≤ passC k m x i := by
  unfold passC joinC
  split
  · dsimp only; omega
  split
  · dsimp only; omega
  split
  · dsimp only; omega
  split
  · dsimp only; omega
  · exact Nat.le_refl _
theorem passM_self {k : Nat} {m : Nat → Clk} {x b : Clk} (hm : ∀ j i, m j i ≤ b i) (hx : ∀ i, x i ≤ b i) : ∀ j i, passM k m x j i ≤ b i := fun j i => by
  have h0 := hm 0 i
  have h1 := hm 1 i
  have h2 := hm 2 i
  have h3 := hx i
  have hj := hm j i
  unfold passM upd joinC
  split
  · dsimp only; split
    · dsimp only; omega
    · exact hj
  split
  · dsimp only; split
    · dsimp only; omega
    · exact hj
  split
  · dsimp only; split
    · exact h3
    · exact hj
  split
  · dsimp only; split
    · dsimp only; omega
    · exact hj
  · exact hj
theorem nowOf_own {s : St} (h : Self s) (e : Ev) : nowOf s e e.c.toNat = s.cl e.c.toNat e.c.toNat + 1 := by
  have h1 : nowOf s e e.c.toNat ≤ (fun i => if i = e.c.toNat then s.cl i i + 1 else s.cl i i) e.c.toNat := passC_self (b := fun i => if i = e.c.toNat then s.cl i i + 1 else s.cl i i) (fun j i => by have := h.2 e.o e.n j i; split <;> omega) (fun i => by
    have := h.1 e.c.toNat i
    unfold bumped bumpC
    split
    · next e1 => subst e1; omega
    · exact this) e.c.toNat
  have h2 : bumped s e e.c.toNat ≤ nowOf s e e.c.toNat := passC_ge _
  simp only [if_true] at h1
  have h3 : bumped s e e.c.toNat = s.cl e.c.toNat e.c.toNat + 1 := by simp [bumped, bumpC]
  omega
theorem stepS_diag {s : St} (h : Self s) (e : Ev) (i : Nat) : (stepS s e).cl i i = if i = e.c.toNat then s.cl i i + 1 else s.cl i i := by
  simp only [stepS]
  split
  · next e1 => subst e1; rw [upd_same, nowOf_own h]
  · next e1 => rw [upd_other _ _ e1]
theorem Self.step {s : St} (h : Self s) (e : Ev) : Self (stepS s e) := by
  have hb : ∀ i, s.cl i i ≤ (stepS s e).cl i i := fun i => by rw [stepS_diag h]; split <;> omega
  have hx : ∀ i, bumped s e i ≤ (stepS s e).cl i i := fun i => by
    rw [stepS_diag h]
    have := h.1 e.c.toNat i
    unfold bumped bumpC
    split
    · next e1 => subst e1; omega
    · exact this
  have hm : ∀ j i, s.mm e.o e.n j i ≤ (stepS s e).cl i i := fun j i => Nat.le_trans (h.2 _ _ _ _) (hb i)
  refine ⟨fun c i => ?_, fun o k m i => ?_⟩
  · by_cases e1 : c = e.c.toNat
    · subst e1
      have : (stepS s e).cl e.c.toNat = nowOf s e := by simp [stepS, upd_same]
      rw [this]
      exact passC_self hm hx i
    · have : (stepS s e).cl c = s.cl c := by simp [stepS, upd_other _ _ e1]
      rw [this]
      exact Nat.le_trans (h.1 c i) (hb i)
  · by_cases e1 : o = e.o ∧ k = e.n
    · have : (stepS s e).mm o k = passM e.k.toNat (s.mm e.o e.n) (bumped s e) := by obtain ⟨rfl, rfl⟩ := e1; simp [stepS, updM_same]
      rw [this]
      exact passM_self hm hx m i
    · have : (stepS s e).mm o k = s.mm o k := by simp [stepS, updM_other _ _ e1]
      rw [this]
      exact Nat.le_trans (h.2 _ _ _ _) (hb i)
theorem runS_self (l : List Ev) : (k : Nat) → k ≤ l.length → Self (runS (l.take k))
  | 0, _ => ⟨fun _ _ => Nat.le_refl _, fun _ _ _ _ => Nat.le_refl _⟩
  | k + 1, h => by
    rw [runS_take (List.getElem?_eq_getElem (i := k) (by omega))]
    exact (runS_self l k (by omega)).step _
theorem clkAt_eq {evs : List Ev} {k : Nat} {e : Ev} (h : evs[k]? = some e) : clkAt evs k = nowOf (runS (evs.take k)) e := by unfold clkAt; rw [h]
theorem clkAt_own {evs : List Ev} {k : Nat} {e : Ev} (h : evs[k]? = some e) : clkAt evs k e.c.toNat = (runS (evs.take k)).cl e.c.toNat e.c.toNat + 1 := by
  rw [clkAt_eq h]
  exact nowOf_own (runS_self evs k (by have := (List.getElem?_eq_some_iff.1 h).1; omega)) e
/-- Uses as the first k events leave them. -/
structure GoodU (n : Nat) (d : Nat → Nat) (us : List Usr) : Prop where
  c : ∀ u ∈ us, u.c < 16
  ra : ∀ u ∈ us, Rise u.all
  rw : ∀ u ∈ us, Rise u.wr
  la : ∀ u ∈ us, u.all.length ≤ n
  lw : ∀ u ∈ us, u.wr.length ≤ n
  ba : ∀ u ∈ us, ∀ x ∈ u.all, x.2 ≤ d u.c
  bw : ∀ u ∈ us, ∀ x ∈ u.wr, x.2 ≤ d u.c
  ln : us.length ≤ n
theorem rise_snoc {l : Uses} (h : Rise l) {u : Nat × Nat} (hu : ∀ x ∈ l, x.2 < u.2) : Rise (l ++ [u]) := fun i j a b ha hb hij => by
  have hjl := (List.getElem?_eq_some_iff.1 hb).1
  simp at hjl
  rw [List.getElem?_append_left (by omega)] at ha
  by_cases e : j < l.length
  · rw [List.getElem?_append_left e] at hb
    exact h i j a b ha hb hij
  · obtain rfl : j = l.length := by omega
    simp at hb
    subst hb
    exact hu a (List.mem_of_getElem? ha)
theorem GoodU.mono {n n' : Nat} {d d' : Nat → Nat} {us : List Usr} (h : GoodU n d us) (hn : n ≤ n') (hd : ∀ i, d i ≤ d' i) : GoodU n' d' us :=
  ⟨h.c, h.ra, h.rw, fun u hu => Nat.le_trans (h.la u hu) hn, fun u hu => Nat.le_trans (h.lw u hu) hn, fun u hu x hx => Nat.le_trans (h.ba u hu x hx) (hd _), fun u hu x hx => Nat.le_trans (h.bw u hu x hx) (hd _), Nat.le_trans h.ln hn⟩
theorem GoodU.use {n : Nat} {d d' : Nat → Nat} {us : List Usr} (h : GoodU n d us) {c ev cn : Nat} (wb : Bool) (hc : c < 16) (hcn : d c < cn) (hd : ∀ i, d i ≤ d' i) (hdc : cn ≤ d' c) : GoodU (n + 1) d' (useU us c (ev, cn) wb) := by
  have hbump : ∀ x : Usr, x.c = c → Rise x.all → Rise x.wr → x.all.length ≤ n → x.wr.length ≤ n → (∀ y ∈ x.all, y.2 ≤ d c) → (∀ y ∈ x.wr, y.2 ≤ d c) → let z := bumpU x (ev, cn) wb; z.c = c ∧ Rise z.all ∧ Rise z.wr ∧ z.all.length ≤ n + 1 ∧ z.wr.length ≤ n + 1 ∧ (∀ y ∈ z.all, y.2 ≤ d' c) ∧ (∀ y ∈ z.wr, y.2 ≤ d' c) := fun x hx r1 r2 l1 l2 b1 b2 => by
    refine ⟨hx, rise_snoc r1 (fun y hy => by have := b1 y hy; simp only; omega), ?_, by simp [bumpU]; omega, ?_, fun y hy => ?_, fun y hy => ?_⟩
    · unfold bumpU
      cases wb
      · exact r2
      · exact rise_snoc r2 (fun y hy => by have := b2 y hy; simp only; omega)
    · unfold bumpU
      cases wb
      · simp; omega
      · simp; omega
    · simp [bumpU] at hy
      rcases hy with hy | rfl
      · have := b1 y hy; have := hd c; omega
      · exact hdc
    · unfold bumpU at hy
      cases wb
      · have := b2 y hy; have := hd c; omega
      · simp at hy
        rcases hy with hy | rfl
        · have := b2 y hy; have := hd c; omega
        · exact hdc
  have hall : ∀ v ∈ useU us c (ev, cn) wb, v ∈ us ∨ ∃ x, v = bumpU x (ev, cn) wb ∧ x.c = c ∧ Rise x.all ∧ Rise x.wr ∧ x.all.length ≤ n ∧ x.wr.length ≤ n ∧ (∀ y ∈ x.all, y.2 ≤ d c) ∧ (∀ y ∈ x.wr, y.2 ≤ d c) := fun v hv => by
    rcases useU_cases us c with ⟨i, x, h1, h2, h3, h4⟩ | ⟨h1, h2⟩
    · rw [h4] at hv
      rcases List.mem_or_eq_of_mem_set hv with hv | rfl
      · exact .inl hv
      · have hm := List.mem_of_getElem? h1
        exact .inr ⟨x, rfl, h2, h.ra x hm, h.rw x hm, h.la x hm, h.lw x hm, fun y hy => by have := h.ba x hm y hy; rwa [h2] at this, fun y hy => by have := h.bw x hm y hy; rwa [h2] at this⟩
    · rw [h2] at hv
      rcases List.mem_or_eq_of_mem_set hv with hv | rfl
      · rcases List.mem_append.1 hv with hv | hv
        · exact .inl hv
        · simp at hv
          subst hv
          exfalso
          have hl : ((us ++ [(⟨c, [], []⟩ : Usr)]).set us.length (bumpU ⟨c, [], []⟩ (ev, cn) wb)) = us ++ [bumpU ⟨c, [], []⟩ (ev, cn) wb] := by
            rw [List.set_append_right _ _ (Nat.le_refl _)]; simp
          have hv2 : (⟨c, [], []⟩ : Usr) ∈ us ++ [bumpU ⟨c, [], []⟩ (ev, cn) wb] := by
            rw [← hl, ← h2]; rw [h2]; assumption
          rcases List.mem_append.1 hv2 with h | h
          · exact h1 _ h rfl
          · simp [bumpU] at h
      · exact .inr ⟨⟨c, [], []⟩, rfl, rfl, fun i j u v hu => by simp at hu, fun i j u v hu => by simp at hu, by simp, by simp, fun y hy => by simp at hy, fun y hy => by simp at hy⟩
  have hget : ∀ v ∈ useU us c (ev, cn) wb, v.c < 16 ∧ Rise v.all ∧ Rise v.wr ∧ v.all.length ≤ n + 1 ∧ v.wr.length ≤ n + 1 ∧ (∀ y ∈ v.all, y.2 ≤ d' v.c) ∧ (∀ y ∈ v.wr, y.2 ≤ d' v.c) := fun v hv => by
    rcases hall v hv with hm | ⟨x, rfl, hx, r1, r2, l1, l2, b1, b2⟩
    · exact ⟨h.c v hm, h.ra v hm, h.rw v hm, by have := h.la v hm; omega, by have := h.lw v hm; omega, fun y hy => Nat.le_trans (h.ba v hm y hy) (hd _), fun y hy => Nat.le_trans (h.bw v hm y hy) (hd _)⟩
    · obtain ⟨q1, q2, q3, q4, q5, q6, q7⟩ := hbump x hx r1 r2 l1 l2 b1 b2
      exact ⟨by rw [q1]; exact hc, q2, q3, q4, q5, by rw [q1]; exact q6, by rw [q1]; exact q7⟩
  refine ⟨fun u hu => (hget u hu).1, fun u hu => (hget u hu).2.1, fun u hu => (hget u hu).2.2.1, fun u hu => (hget u hu).2.2.2.1, fun u hu => (hget u hu).2.2.2.2.1, fun u hu => (hget u hu).2.2.2.2.2.1, fun u hu => (hget u hu).2.2.2.2.2.2, ?_⟩
  rcases useU_cases us c with ⟨i, x, h1, h2, h3, h4⟩ | ⟨h1, h2⟩
  · rw [h4, List.length_set]; have := h.ln; omega
  · rw [h2, List.length_set, List.length_append]; have := h.ln; simp; omega
theorem usK_good (evs : List Ev) (hok : ∀ e ∈ evs, okEv 16 e = true) : (k : Nat) → k ≤ evs.length → ∀ o n, GoodU k (fun i => (runS (evs.take k)).cl i i) (usK evs k o n)
  | 0, _ => fun o n => ⟨fun u hu => by simp [usK] at hu, fun u hu => by simp [usK] at hu, fun u hu => by simp [usK] at hu, fun u hu => by simp [usK] at hu, fun u hu => by simp [usK] at hu, fun u hu => by simp [usK] at hu, fun u hu => by simp [usK] at hu, by simp [usK]⟩
  | k + 1, h => fun o n => by
    have ih := usK_good evs hok k (by omega)
    obtain ⟨e, he⟩ : ∃ e, evs[k]? = some e := ⟨_, List.getElem?_eq_getElem (by omega)⟩
    have hs := runS_self evs k (by omega)
    have hdiag : ∀ i, (runS (evs.take k)).cl i i ≤ (runS (evs.take (k + 1))).cl i i := fun i => by
      rw [runS_take he, stepS_diag hs]; split <;> omega
    rw [usK_succ he]
    unfold stepU
    split
    · by_cases e1 : o = e.o ∧ n = e.n
      · obtain ⟨rfl, rfl⟩ := e1
        rw [updA_same]
        have hev := hok e (List.mem_of_getElem? he)
        unfold okEv at hev
        simp at hev
        refine (ih e.o e.n).use _ (by omega) ?_ hdiag ?_
        · rw [clkAt_own he]; omega
        · rw [clkAt_own he, runS_take he, stepS_diag hs]; simp
      · rw [updA_other _ _ e1]
        exact (ih o n).mono (by omega) hdiag
    · exact (ih o n).mono (by omega) hdiag
end Go.Proofs.Ytdgdfpgekccibab
