import Derived.Test.YtdgdfpgekccibabKO
/-! clocks: what is used under one lock never races. -/
namespace Go.Proofs.Ytdgdfpgekccibab
open Go Go.RowKit
/-- Every use that is noted is one of the first k events. -/
structure FromEv (evs : List Ev) (k : Nat) (o n : Int) (c : Nat) (x : Nat × Nat) : Prop where
  lt : x.1 < k
  ev : ∃ e, evs[x.1]? = some e ∧ isUse e = true ∧ e.o = o ∧ e.n = n ∧ e.c.toNat = c ∧ x.2 = clkAt evs x.1 e.c.toNat
def WrEv (evs : List Ev) (x : Nat × Nat) : Prop := ∃ e, evs[x.1]? = some e ∧ e.k = 9
theorem useU_from {us : List Usr} {c : Nat} {x : Nat × Nat} {wb : Bool} {v : Usr} (hv : v ∈ useU us c x wb) : (∀ y ∈ v.all, (∃ u ∈ us, u.c = v.c ∧ y ∈ u.all) ∨ (v.c = c ∧ y = x)) ∧ ∀ y ∈ v.wr, (∃ u ∈ us, u.c = v.c ∧ y ∈ u.wr) ∨ (v.c = c ∧ y = x ∧ wb = true) := by
  induction us with
  | nil =>
    simp [useU] at hv
    subst hv
    refine ⟨fun y hy => ?_, fun y hy => ?_⟩
    · simp [bumpU] at hy
      exact .inr ⟨rfl, hy⟩
    · cases wb
      · simp [bumpU] at hy
      · simp [bumpU] at hy
        exact .inr ⟨rfl, hy, rfl⟩
  | cons z us ih =>
    unfold useU at hv
    split at hv
    · next hz =>
      rcases List.mem_cons.1 hv with rfl | hv
      · refine ⟨fun y hy => ?_, fun y hy => ?_⟩
        · simp [bumpU] at hy
          rcases hy with hy | hy
          · exact .inl ⟨z, by simp, rfl, hy⟩
          · exact .inr ⟨hz, hy⟩
        · cases wb
          · simp [bumpU] at hy
            exact .inl ⟨z, by simp, rfl, hy⟩
          · simp [bumpU] at hy
            rcases hy with hy | hy
            · exact .inl ⟨z, by simp, rfl, hy⟩
            · exact .inr ⟨hz, hy, rfl⟩
      · exact ⟨fun y hy => .inl ⟨v, by simp [hv], rfl, hy⟩, fun y hy => .inl ⟨v, by simp [hv], rfl, hy⟩⟩
    · rcases List.mem_cons.1 hv with rfl | hv
      · exact ⟨fun y hy => .inl ⟨v, by simp, rfl, hy⟩, fun y hy => .inl ⟨v, by simp, rfl, hy⟩⟩
      · obtain ⟨h1, h2⟩ := ih hv
        refine ⟨fun y hy => ?_, fun y hy => ?_⟩
        · rcases h1 y hy with ⟨u, hu, h⟩ | h
          · exact .inl ⟨u, by simp [hu], h⟩
          · exact .inr h
        · rcases h2 y hy with ⟨u, hu, h⟩ | h
          · exact .inl ⟨u, by simp [hu], h⟩
          · exact .inr h
theorem usK_from (evs : List Ev) : (k : Nat) → k ≤ evs.length → ∀ o n, ∀ u ∈ usK evs k o n, (∀ x ∈ u.all, FromEv evs k o n u.c x) ∧ ∀ x ∈ u.wr, FromEv evs k o n u.c x ∧ WrEv evs x
  | 0, _ => fun o n u hu => by simp [usK] at hu
  | k + 1, h => fun o n u hu => by
    obtain ⟨f, hf⟩ : ∃ f, evs[k]? = some f := ⟨_, List.getElem?_eq_getElem (by omega)⟩
    have ih := usK_from evs k (by omega)
    have hup : ∀ o n c x, FromEv evs k o n c x → FromEv evs (k + 1) o n c x := fun o n c x h => ⟨by have := h.lt; omega, h.ev⟩
    rw [usK_succ hf] at hu
    unfold stepU at hu
    split at hu
    · next huse =>
      by_cases e1 : o = f.o ∧ n = f.n
      · obtain ⟨rfl, rfl⟩ := e1
        rw [updA_same] at hu
        obtain ⟨h1, h2⟩ := useU_from hu
        have hnew : u.c = f.c.toNat → FromEv evs (k + 1) f.o f.n u.c (k, clkAt evs k f.c.toNat) := fun hc => ⟨by simp, f, hf, huse, rfl, rfl, hc.symm, rfl⟩
        refine ⟨fun x hx => ?_, fun x hx => ?_⟩
        · rcases h1 x hx with ⟨v, hv, hc, hxv⟩ | ⟨hc, rfl⟩
          · have := (ih _ _ v hv).1 x hxv
            rw [hc] at this
            exact hup _ _ _ _ this
          · exact hnew hc
        · rcases h2 x hx with ⟨v, hv, hc, hxv⟩ | ⟨hc, rfl, hwb⟩
          · have := (ih _ _ v hv).2 x hxv
            rw [hc] at this
            exact ⟨hup _ _ _ _ this.1, this.2⟩
          · exact ⟨hnew hc, f, hf, of_decide_eq_true hwb⟩
      · rw [updA_other _ _ e1] at hu
        exact ⟨fun x hx => hup _ _ _ _ ((ih o n u hu).1 x hx), fun x hx => ⟨hup _ _ _ _ ((ih o n u hu).2 x hx).1, ((ih o n u hu).2 x hx).2⟩⟩
    · exact ⟨fun x hx => hup _ _ _ _ ((ih o n u hu).1 x hx), fun x hx => ⟨hup _ _ _ _ ((ih o n u hu).2 x hx).1, ((ih o n u hu).2 x hx).2⟩⟩
/-- Of the first k events all are known. -/
def Hold (evs : List Ev) (k : Nat) (X : Clk) : Prop := ∀ i e, i < k → evs[i]? = some e → clkAt evs i e.c.toNat ≤ X e.c.toNat
theorem Hold.mono {evs : List Ev} {k : Nat} {X Y : Clk} (h : Hold evs k X) (hXY : ∀ x, X x ≤ Y x) : Hold evs k Y := fun i e hi he => Nat.le_trans (h i e hi he) (hXY _)
theorem hold_race {evs : List Ev} {k : Nat} (hk : k < evs.length) (h : Hold evs k (clkAt evs k)) : raceAt evs k = none := by
  unfold raceAt
  rw [List.getElem?_eq_getElem hk]
  simp only
  split
  · refine fold_known _ _ _ (fun u hu => firstU_known (fun x hx => ?_))
    obtain ⟨h1, h2⟩ := usK_from evs k (by omega) _ _ u hu
    have h3 : FromEv evs k evs[k].o evs[k].n u.c x := by
      cases hw : decide (evs[k].k = 9) with
      | true => rw [hw] at hx; exact h1 x hx
      | false => rw [hw] at hx; exact (h2 x hx).1
    obtain ⟨hlt, e, he, -, -, -, hc, hx2⟩ := h3
    have := h _ e hlt he
    rw [hx2, ← hc]
    exact this
  · rfl
theorem clkAt_snoc {evs : List Ev} (e : Ev) {i : Nat} (hi : i < evs.length) : clkAt (evs ++ [e]) i = clkAt evs i := by
  have := clkAt_take (evs ++ [e]) hi
  rw [List.take_left'  rfl] at this
  exact this.symm
theorem raceAt_snoc {evs : List Ev} (e : Ev) {i : Nat} (hi : i < evs.length) : raceAt (evs ++ [e]) i = raceAt evs i := by
  have := raceAt_take (evs ++ [e]) hi
  rw [List.take_left' rfl] at this
  exact this.symm
theorem clkAt_last (evs : List Ev) (e : Ev) : clkAt (evs ++ [e]) evs.length = nowOf (runS evs) e := by
  rw [clkAt_eq (e := e) (by simp), List.take_left' rfl]
theorem Hold.snoc {evs : List Ev} (e : Ev) {X : Clk} (h : Hold evs evs.length X) : Hold (evs ++ [e]) evs.length X := fun i f hi hf => by
  rw [List.getElem?_append_left hi] at hf
  rw [clkAt_snoc e hi]
  exact h i f hi hf
theorem Hold.add {evs : List Ev} {e : Ev} {X : Clk} (h : Hold (evs ++ [e]) evs.length X) (hX : clkAt (evs ++ [e]) evs.length e.c.toNat ≤ X e.c.toNat) : Hold (evs ++ [e]) (evs ++ [e]).length X := fun i f hi hf => by
  by_cases e1 : i = evs.length
  · subst e1
    simp at hf
    subst hf
    exact hX
  · simp at hi
    exact h i f (by omega) hf
/-- Between two turns: the lock's mark knows all; within one: its client does. Nothing races. -/
structure Between (evs : List Ev) : Prop where
  hold : Hold evs evs.length ((runS evs).mm 1 0 0)
  free : ∀ j, j < evs.length → raceAt evs j = none
structure Within (evs : List Ev) (c : Nat) : Prop where
  hold : Hold evs evs.length ((runS evs).cl c)
  free : ∀ j, j < evs.length → raceAt evs j = none
theorem between_nil : Between [] := ⟨fun i e hi => by simp at hi, fun j hj => by simp at hj⟩
theorem free_snoc {evs : List Ev} {e : Ev} (h : ∀ j, j < evs.length → raceAt evs j = none) (hl : raceAt (evs ++ [e]) evs.length = none) : ∀ j, j < (evs ++ [e]).length → raceAt (evs ++ [e]) j = none := fun j hj => by
  by_cases e1 : j = evs.length
  · rw [e1]; exact hl
  · simp at hj
    rw [raceAt_snoc e (by omega)]
    exact h j (by omega)
theorem cl_snoc (evs : List Ev) (e : Ev) : (runS (evs ++ [e])).cl e.c.toNat = nowOf (runS evs) e := by rw [runS_snoc]; simp [stepS, upd_same]
theorem step_hold {evs : List Ev} {e : Ev} (h : Hold evs evs.length (nowOf (runS evs) e)) (hf : ∀ j, j < evs.length → raceAt evs j = none) : Within (evs ++ [e]) e.c.toNat := by
  have h1 : Hold (evs ++ [e]) evs.length (clkAt (evs ++ [e]) evs.length) := by rw [clkAt_last]; exact h.snoc e
  refine ⟨?_, free_snoc hf (hold_race (by simp) h1)⟩
  rw [cl_snoc, ← clkAt_last]
  exact h1.add (Nat.le_refl _)
theorem bumped_le (s : St) (e : Ev) (x : Nat) : s.cl e.c.toNat x ≤ bumped s e x := by
  unfold bumped bumpC
  split <;> omega
theorem now_le (s : St) (e : Ev) (x : Nat) : s.cl e.c.toNat x ≤ nowOf s e x := Nat.le_trans (bumped_le s e x) (passC_ge x)
theorem Between.lock {evs : List Ev} (h : Between evs) (c : Int) : Within (evs ++ [⟨c, 1, 1, 0⟩]) c.toNat :=
  step_hold (e := ⟨c, 1, 1, 0⟩) (h.hold.mono (fun x => by
    unfold nowOf passC joinC
    simp only [Int.toNat_one, if_true]
    omega)) h.free
theorem Within.use {evs : List Ev} {c : Int} (h : Within evs c.toNat) (k o n : Int) : Within (evs ++ [⟨c, k, o, n⟩]) c.toNat :=
  step_hold (e := ⟨c, k, o, n⟩) (h.hold.mono (fun x => now_le (runS evs) ⟨c, k, o, n⟩ x)) h.free
theorem Within.unlock {evs : List Ev} {c : Int} (h : Within evs c.toNat) : Between (evs ++ [⟨c, 2, 1, 0⟩]) := by
  have h1 := h.use 2 1 0
  refine ⟨h1.hold.mono (fun x => ?_), h1.free⟩
  rw [runS_snoc]
  simp only [stepS, updM_same, upd_same]
  unfold nowOf passC passM upd joinC
  simp
  omega
theorem Between.races {evs : List Ev} (h : Between evs) : raceK evs evs.length = [] := raceK_none evs _ h.free
end Go.Proofs.Ytdgdfpgekccibab
