import Derived.Test.YtpdcinicnekeoaaPD
/-! watch, plain: what is left of several lists. No program. -/
namespace Go.Watch
def remL (ls : List (List Chg)) (f : Nat → Nat) : List (List Chg) := ls.mapIdx fun j l => l.drop (f j)
theorem remL_at (ls : List (List Chg)) (f : Nat → Nat) (j : Nat) : (remL ls f)[j]? = (ls[j]?).map (fun l => l.drop (f j)) := by simp [remL]
theorem remL_len (ls : List (List Chg)) (f : Nat → Nat) : (remL ls f).length = ls.length := by simp [remL]
def upd (f : Nat → Nat) (q : Nat) : Nat → Nat := fun j => if j = q then f q + 1 else f j
theorem remL_set {ls : List (List Chg)} {f : Nat → Nat} {q : Nat} {l : List Chg} (h : ls[q]? = some l) : (remL ls f).set q (l.drop (f q + 1)) = remL ls (upd f q) := by
  apply List.ext_getElem?
  intro j
  have hl := (List.getElem?_eq_some_iff.1 h).1
  rw [List.getElem?_set, remL_at, remL_at, remL_len]
  by_cases e : q = j
  · subst e
    rw [if_pos rfl, h, if_pos hl]
    simp [upd]
  · have e' : ¬ j = q := fun x => e x.symm
    rw [if_neg e]
    simp [upd, e']
theorem remL_zero (ls : List (List Chg)) : remL ls (fun _ => 0) = ls := by
  apply List.ext_getElem?
  intro j
  rw [remL_at]
  simp
/-- The best so far, as a number. -/
def BB (ls : List (List Chg)) (i : Nat) (b : Int) : Prop := (b = -1 ∧ NoneB ls i) ∨ ∃ (q : Nat) (c : Chg) (r : List Chg), b = q ∧ Best ls i q c r
theorem BB.skip {ls : List (List Chg)} {i : Nat} {b : Int} (h : BB ls i b) (hi : ls[i]? = some []) : BB ls (i + 1) b := by
  rcases h with ⟨h1, h2⟩ | ⟨q, c, r, h1, h2⟩
  · refine .inl ⟨h1, fun j l hj hl => ?_⟩
    by_cases e : j = i
    · subst e; rw [hi] at hl; cases hl; rfl
    · exact h2 j l (by omega) hl
  · refine .inr ⟨q, c, r, h1, by have := h2.lt; omega, h2.at', fun j d r' hj hl => ?_⟩
    by_cases e : j = i
    · subst e; rw [hi] at hl; cases hl
    · exact h2.le j d r' (by omega) hl
theorem BB.first {ls : List (List Chg)} {i : Nat} {c : Chg} {r : List Chg} (h : NoneB ls i) (hi : ls[i]? = some (c :: r)) : BB ls (i + 1) (i : Nat) := by
  refine .inr ⟨i, c, r, rfl, by omega, hi, fun j d r' hj hl => ?_⟩
  by_cases e : j = i
  · subst e; rw [hi] at hl; cases hl; exact ⟨Int.le_refl _, fun h => by omega⟩
  · have := h j _ (by omega) hl; cases this
theorem BB.better {ls : List (List Chg)} {i q : Nat} {c d : Chg} {r s : List Chg} (h : Best ls i q c r) (hi : ls[i]? = some (d :: s)) (hlt : d.st < c.st) : BB ls (i + 1) (i : Nat) := by
  refine .inr ⟨i, d, s, rfl, by omega, hi, fun j e r' hj hl => ?_⟩
  by_cases e : j = i
  · subst e; rw [hi] at hl; cases hl; exact ⟨Int.le_refl _, fun h => by omega⟩
  · have := (h.le j _ r' (by omega) hl).1; exact ⟨by omega, fun _ => by omega⟩
theorem BB.same {ls : List (List Chg)} {i q : Nat} {c d : Chg} {r s : List Chg} (h : Best ls i q c r) (hi : ls[i]? = some (d :: s)) (hlt : ¬ d.st < c.st) : BB ls (i + 1) (q : Nat) := by
  have := h.lt
  refine .inr ⟨q, c, r, rfl, by omega, h.at', fun j e r' hj hl => ?_⟩
  by_cases e : j = i
  · subst e; rw [hi] at hl; cases hl; exact ⟨by omega, fun h => by omega⟩
  · exact h.le j _ r' (by omega) hl
end Go.Watch
