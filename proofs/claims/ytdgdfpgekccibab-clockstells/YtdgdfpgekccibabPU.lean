import Derived.Test.YtdgdfpgekccibabCR
import Derived.Test.YtdgdfpgekccibabCM
/-! clocks: a beginning of a trace. -/
namespace Go.Proofs.Ytdgdfpgekccibab
open Go Go.RowKit
theorem stepU_take (evs : List Ev) {k m : Nat} (h : k < m) (e : Ev) (us : AllU) : stepU (evs.take m) k e us = stepU evs k e us := by
  unfold stepU
  rw [clkAt_take evs h]
theorem usK_take (evs : List Ev) (m : Nat) : (k : Nat) → k ≤ m → usK (evs.take m) k = usK evs k
  | 0, _ => rfl
  | k + 1, h => by
    have ih := usK_take evs m k (by omega)
    simp only [usK]
    rw [List.getElem?_take_of_lt (by omega), ih]
    cases evs[k]? with
    | none => rfl
    | some e => exact stepU_take evs (by omega) e _
theorem raceAt_take (evs : List Ev) {k m : Nat} (h : k < m) : raceAt (evs.take m) k = raceAt evs k := by
  unfold raceAt
  rw [List.getElem?_take_of_lt h, usK_take evs m k (by omega), clkAt_take evs h]
theorem raceK_take (evs : List Ev) (m : Nat) : (k : Nat) → k ≤ m → raceK (evs.take m) k = raceK evs k
  | 0, _ => rfl
  | k + 1, h => by
    simp only [raceK]
    rw [raceAt_take evs (by omega), raceK_take evs m k (by omega)]
/-- What is told later: a second event that is not below. -/
theorem raceK_more (evs : List Ev) (k : Nat) : (d : Nat) → ∃ t, raceK evs (k + d) = raceK evs k ++ t ∧ ∀ u ∈ t, k ≤ u.2
  | 0 => ⟨[], by simp, fun u hu => by cases hu⟩
  | d + 1 => by
    obtain ⟨t, h1, h2⟩ := raceK_more evs k d
    rw [← Nat.add_assoc]
    cases hr : raceAt evs (k + d) with
    | none => exact ⟨t, by simp only [raceK, hr]; exact h1, h2⟩
    | some i =>
      refine ⟨t ++ [(i, k + d)], by simp only [raceK, hr]; rw [h1, List.append_assoc], fun u hu => ?_⟩
      rcases List.mem_append.1 hu with hu | hu
      · exact h2 u hu
      · simp at hu
        subst hu
        simp
theorem chk_take {evs : List Ev} {clients : Int} (h : chk evs clients = 0) (m : Nat) : chk (evs.take m) clients = 0 := by
  obtain ⟨c1, c2, c3, c4⟩ := chk_ok h
  have hl : (evs.take m).length ≤ evs.length := by rw [List.length_take]; omega
  unfold chk
  rw [if_neg (by omega), if_neg (by omega), if_pos]
  rw [List.all_eq_true]
  exact fun e he => c4 e (List.mem_of_mem_take he)
end Go.Proofs.Ytdgdfpgekccibab
