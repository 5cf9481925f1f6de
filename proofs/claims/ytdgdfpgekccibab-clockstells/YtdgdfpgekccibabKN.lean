import Derived.Test.YtdgdfpgekccibabPU
/-! clocks: who knows an event of a client knows all that it knew. -/
namespace Go.Proofs.Ytdgdfpgekccibab
open Go Go.RowKit
/-- Of the first k events: X knows all that those knew which it knows. -/
def Knows (evs : List Ev) (k : Nat) (X : Clk) : Prop := ∀ i e, i < k → evs[i]? = some e → clkAt evs i e.c.toNat ≤ X e.c.toNat → ∀ x, clkAt evs i x ≤ X x
theorem Knows.join {evs : List Ev} {k : Nat} {X Y : Clk} (h1 : Knows evs k X) (h2 : Knows evs k Y) : Knows evs k (joinC X Y) := fun i e hi he hle x => by
  unfold joinC at hle ⊢
  by_cases h : clkAt evs i e.c.toNat ≤ X e.c.toNat
  · have := h1 i e hi he h x
    omega
  · have := h2 i e hi he (by omega) x
    omega
theorem own_mono (evs : List Ev) (c : Nat) {i : Nat} : (d : Nat) → i + d ≤ evs.length → (runS (evs.take i)).cl c c ≤ (runS (evs.take (i + d))).cl c c
  | 0, _ => Nat.le_refl _
  | d + 1, h => by
    have ih := own_mono evs c (i := i) d (by omega)
    rw [← Nat.add_assoc, runS_take (List.getElem?_eq_getElem (i := i + d) (by omega)), stepS_diag (runS_self evs (i + d) (by omega))]
    split <;> omega
/-- An event's own count is at most its client's later one. -/
theorem own_le {evs : List Ev} {i k : Nat} {e : Ev} (he : evs[i]? = some e) (hik : i < k) (hk : k ≤ evs.length) : clkAt evs i e.c.toNat ≤ (runS (evs.take k)).cl e.c.toNat e.c.toNat := by
  have h1 := own_mono evs e.c.toNat (i := i + 1) (k - (i + 1)) (by omega)
  rw [show i + 1 + (k - (i + 1)) = k from by omega, runS_take he, stepS_diag (runS_self evs i (by omega)), if_pos rfl] at h1
  rw [clkAt_own he]
  exact h1
theorem Knows.bump {evs : List Ev} {k c : Nat} (hk : k ≤ evs.length) (h : Knows evs k ((runS (evs.take k)).cl c)) : Knows evs k (bumpC ((runS (evs.take k)).cl c) c) := fun i e hi he hle x => by
  have h1 : clkAt evs i e.c.toNat ≤ (runS (evs.take k)).cl c e.c.toNat := by
    by_cases ec : e.c.toNat = c
    · have := own_le he hi hk
      rw [ec] at this ⊢
      exact this
    · unfold bumpC at hle
      rw [if_neg ec] at hle
      exact hle
  have := h i e hi he h1 x
  unfold bumpC
  split <;> omega
theorem Knows.zero (evs : List Ev) (X : Clk) : Knows evs 0 X := fun i e hi => by omega
/-- One event more. -/
theorem Knows.more {evs : List Ev} {k : Nat} {e : Ev} {X : Clk} (he : evs[k]? = some e) (h : Knows evs k X) (hk : clkAt evs k e.c.toNat ≤ X e.c.toNat → ∀ x, clkAt evs k x ≤ X x) : Knows evs (k + 1) X := fun i e' hi he' hle x => by
  by_cases hik : i = k
  · subst hik
    rw [he] at he'
    cases he'
    exact hk hle x
  · exact h i e' (by omega) he' hle x
theorem joinC_le1 (X Y : Clk) (x : Nat) : X x ≤ joinC X Y x := by unfold joinC; omega
theorem joinC_le2 (X Y : Clk) (x : Nat) : Y x ≤ joinC X Y x := by unfold joinC; omega
theorem knows_all (evs : List Ev) : (k : Nat) → k ≤ evs.length → (∀ c, Knows evs k ((runS (evs.take k)).cl c)) ∧ ∀ o n m, Knows evs k ((runS (evs.take k)).mm o n m)
  | 0, _ => ⟨fun c => Knows.zero _ _, fun o n m => Knows.zero _ _⟩
  | k + 1, h => by
    obtain ⟨ih1, ih2⟩ := knows_all evs k (by omega)
    obtain ⟨e, he⟩ : ∃ e, evs[k]? = some e := ⟨_, List.getElem?_eq_getElem (by omega)⟩
    have hself := runS_self evs k (by omega)
    have hnow := clkAt_eq he
    have hown := clkAt_own he
    have hx : Knows evs k (bumped (runS (evs.take k)) e) := (ih1 e.c.toNat).bump (by omega)
    have hold : ∀ X : Clk, X e.c.toNat ≤ (runS (evs.take k)).cl e.c.toNat e.c.toNat → Knows evs k X → Knows evs (k + 1) X := fun X hX hK => hK.more he (fun hle => by omega)
    have hnew : ∀ X : Clk, (∀ x, clkAt evs k x ≤ X x) → Knows evs k X → Knows evs (k + 1) X := fun X hX hK => hK.more he (fun _ => hX)
    have hm := ih2 e.o e.n
    have hK : Knows evs k (clkAt evs k) := by
      rw [hnow]
      unfold nowOf passC
      split
      · exact (hx.join (hm 0)).join (hm 1)
      split
      · exact hx.join (hm 0)
      split
      · exact hx.join (hm 2)
      split
      · exact hx.join (hm 2)
      · exact hx
    rw [runS_take he]
    refine ⟨fun c => ?_, fun o n m => ?_⟩
    · by_cases ec : c = e.c.toNat
      · subst ec
        have : (stepS (runS (evs.take k)) e).cl e.c.toNat = clkAt evs k := by rw [hnow]; simp [stepS, upd_same]
        rw [this]
        exact hnew _ (fun _ => Nat.le_refl _) hK
      · have : (stepS (runS (evs.take k)) e).cl c = (runS (evs.take k)).cl c := by simp [stepS, upd_other _ _ ec]
        rw [this]
        exact hold _ (hself.1 c _) (ih1 c)
    · by_cases eo : o = e.o ∧ n = e.n
      · obtain ⟨rfl, rfl⟩ := eo
        have : (stepS (runS (evs.take k)) e).mm e.o e.n = passM e.k.toNat ((runS (evs.take k)).mm e.o e.n) (bumped (runS (evs.take k)) e) := by simp [stepS, updM_same]
        rw [this]
        have hom : ∀ j, Knows evs (k + 1) ((runS (evs.take k)).mm e.o e.n j) := fun j => hold _ (hself.2 _ _ _ _) (hm j)
        have hpl : e.k.toNat ≠ 1 → e.k.toNat ≠ 3 → e.k.toNat ≠ 5 → e.k.toNat ≠ 7 → clkAt evs k = bumped (runS (evs.take k)) e := fun n1 n3 n5 n7 => by
          rw [hnow]
          unfold nowOf passC
          rw [if_neg n1, if_neg n3, if_neg n5, if_neg n7]
        unfold passM
        split
        · next e2 =>
          unfold upd
          split
          · exact hnew _ (fun x => by rw [hpl (by omega) (by omega) (by omega) (by omega)]; exact joinC_le2 _ _ x) ((hm 0).join hx)
          · exact hom m
        split
        · next e4 =>
          unfold upd
          split
          · exact hnew _ (fun x => by rw [hpl (by omega) (by omega) (by omega) (by omega)]; exact joinC_le2 _ _ x) ((hm 1).join hx)
          · exact hom m
        split
        · next e6 =>
          unfold upd
          split
          · exact hnew _ (fun x => by rw [hpl (by omega) (by omega) (by omega) (by omega)]; exact Nat.le_refl _) hx
          · exact hom m
        split
        · next e7 =>
          unfold upd
          split
          · refine hnew _ (fun x => ?_) (hx.join (hm 2))
            rw [hnow]
            unfold nowOf passC
            rw [if_neg (by omega), if_neg (by omega), if_neg (by omega), if_pos e7]
            exact Nat.le_refl _
          · exact hom m
        · exact hom m
      · have : (stepS (runS (evs.take k)) e).mm o n = (runS (evs.take k)).mm o n := by simp [stepS, updM_other _ _ eo]
        rw [this]
        exact hold _ (hself.2 _ _ _ _) (ih2 o n m)
/-- Of two events the later one knows all that the first one knew, just if it knows the first one. -/
theorem clk_knows {evs : List Ev} {i j : Nat} {e : Ev} (he : evs[i]? = some e) (hij : i < j) (hj : j < evs.length) (h : clkAt evs i e.c.toNat ≤ clkAt evs j e.c.toNat) : ∀ x, clkAt evs i x ≤ clkAt evs j x := by
  obtain ⟨f, hf⟩ : ∃ f, evs[j]? = some f := ⟨_, List.getElem?_eq_getElem hj⟩
  have hk := (knows_all evs (j + 1) (by omega)).1 f.c.toNat
  have : (runS (evs.take (j + 1))).cl f.c.toNat = clkAt evs j := by rw [runS_take hf, clkAt_eq hf]; simp [stepS, upd_same]
  rw [this] at hk
  exact hk i e (by omega) he h
end Go.Proofs.Ytdgdfpgekccibab
