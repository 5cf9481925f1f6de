import Derived.Test.YtelmdbfddmpaaaaA9
/-! Both Prints. -/
namespace Go.Proofs.Ytelmdbfddmpaaaa
open Go Go.RowKit

def joined (l : List ByteArray) : ByteArray := ⟨(Lib.join (l.map (·.data.toList)) [46]).toArray⟩
/-- What Print answers. -/
def printV (l : List ByteArray) : Value := .tuple #[.string (if pathOk l = true then joined l else ⟨#[]⟩), .int .i64 (if pathOk l = true then 0 else 20)]
theorem printV_bad {l : List ByteArray} (h : pathOk l = false) : printV l = .tuple #[.string ⟨#[]⟩, .int .i64 20] := by simp [printV, h]
theorem printV_ok {l : List ByteArray} (h : pathOk l = true) : printV l = .tuple #[.string (joined l), .int .i64 0] := by simp [printV, h]
theorem pathOk_len {l : List ByteArray} (h : pathOk l = true) : 1 ≤ l.length ∧ l.length ≤ 16 ∧ ∀ s ∈ l, seg s = true := by
  simp [pathOk] at h
  exact ⟨h.1.1, h.1.2, h.2⟩
theorem pathOk_short {l : List ByteArray} (h : l.length < 1 ∨ 16 < l.length) : pathOk l = false := by
  rcases h with h | h
  · have : ¬ 1 ≤ l.length := by omega
    simp [pathOk, this]
  · have : ¬ l.length ≤ 16 := by omega
    simp [pathOk, this]
theorem seg_small {s : ByteArray} (h : seg s = true) : s.size ≤ 64 := by
  simp [seg] at h
  exact h.1.1.2
theorem lens_le : ∀ (l : List ByteArray), (∀ s ∈ l, s.size ≤ 64) → Lib.lens (l.map (·.data.toList)) ≤ l.length * 64
  | [], _ => by simp [Lib.lens]
  | x :: r, h => by
    have := lens_le r (fun s hs => h s (List.mem_cons_of_mem _ hs))
    have h1 := h x List.mem_cons_self
    have h2 : x.data.toList.length = x.size := by simp
    simp only [List.map_cons, Lib.lens, List.sum_cons, List.length_cons] at *
    omega
theorem joined_len {l : List ByteArray} (h : pathOk l = true) : (Lib.join (l.map (·.data.toList)) [46]).length ≤ 2000 := by
  obtain ⟨h1, h2, h3⟩ := pathOk_len h
  have hl := lens_le l (fun s hs => seg_small (h3 s hs))
  cases l with
  | nil => simp at h1
  | cons x r =>
    rw [List.map_cons, Lib.join_length]
    rw [List.map_cons] at hl
    simp only [List.length_cons, List.length_map, List.length_nil] at *
    omega

set_option maxHeartbeats 2000000 in
set_option maxRecDepth 100000 in
theorem print_any (v : Value) (l : List ByteArray) (w : World) (hA : Reads w v l) (hl : l.length ≤ 9223372036854775806) :
    Calls Try.prog 21 #[v] w fun e w' => e = .returned (printV l) ∧ Below w.heap.size w w' := by
  obtain ⟨a, c, rfl, hc, hA⟩ := hA
  by_cases h1 : l.length < 1 ∨ 16 < l.length
  · rw [printV_bad (pathOk_short h1)]
    clear hA
    rcases h1 with h1 | h1
    all_goals
      go_enter Try.func21, Try.ntmps21
      go_wp2
      go_ret2
      exact ⟨rfl, Below.refl _ _⟩
  have hlo : ¬ l.length < 1 := fun h => h1 (.inl h)
  have hhi : ¬ 16 < l.length := fun h => h1 (.inr h)
  clear h1
  obtain ⟨b1, o1, rfl, hb1, hA⟩ := hA.resolve_left (by intro e; subst e; simp at hlo)
  replace hA : Hid (∀ j s, l[j]? = some s → w.cell? ⟨b1, o1 + j, none⟩ = some (.string s)) := hA
  go_enter Try.func21, Try.ntmps21
  go_wp2
  go_loopw [16] (fun i wr => ∃ q : Nat, q ≤ l.length ∧ i = .int .i64 q ∧ wr = w ∧ Hid (∀ (j : Nat) (s : ByteArray), j < q → l[j]? = some s → seg s = true)) (fun i _ => l.length - (intOf i).toNat)
  case atStart => exact ⟨0, Nat.zero_le _, rfl, rfl, fun j s h => by omega⟩
  case round =>
    obtain ⟨q, hq, rfl, rfl, hB⟩ := hrel
    by_cases hlt : q < l.length
    · have hd : decide ((q : Int) < (l.length : Int)) = true := by simp; omega
      obtain ⟨x, hx⟩ : ∃ x, Hid (l[q]? = some x) := ⟨_, List.getElem?_eq_getElem hlt⟩
      have c1 : wr.cell? ⟨b1, o1 + q, none⟩ = some (.string x) := hA.out q x hx.out
      go_wp2_with fail
      refine (isSegment_any x _).mono ?_
      rintro e w1 ⟨rfl, rfl⟩
      cases hs : seg x
      · have hf : Hid (printV l = .tuple #[.string ⟨#[]⟩, .int .i64 20]) := printV_bad (pathOk_bad hx.out hs)
        go_wp2_with fail
        go_ret2
        exact ⟨congrArg Ending.returned hf.out.symm, Below.refl _ _⟩
      · go_wp2_with fail
        go_roundw
        case rel => exact ⟨q + 1, by omega, by simp, by simp, fun j s h hj => by
          by_cases e : j = q
          · subst e; rw [hx.out] at hj; cases hj; exact hs
          · exact hB.out j s (by omega) hj⟩
        case measure => simp [intOf]; omega
    · have hd : decide ((q : Int) < (l.length : Int)) = false := by simp; omega
      have hok : Hid (pathOk l = true) := by
        have := pathOk_all (l := l) (fun j s hj => hB.out j s (by have := (List.getElem?_eq_some_iff.1 hj).1; omega) hj)
        rw [Hid, this]; simp; omega
      have hf : Hid (printV l = .tuple #[.string (joined l), .int .i64 0]) := printV_ok hok.out
      have hj := Try.strings_Join b1 o1 c l ⟨#[46]⟩ wr (fun j x hx => hA.out j x hx) hb1 (by omega) hc.1 (by have := joined_len hok.out; exact Nat.le_trans this (by omega))
      go_wp2_with fail
      refine hj.mono ?_
      rintro e w1 ⟨rfl, hb⟩
      clear hj
      go_wp2_with fail
      go_ret2
      exact ⟨congrArg Ending.returned hf.out.symm, hb⟩
end Go.Proofs.Ytelmdbfddmpaaaa
