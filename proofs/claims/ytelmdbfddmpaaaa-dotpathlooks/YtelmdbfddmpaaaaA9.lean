import Derived.Test.YtelmdbfddmpaaaaA8
import Derived.Lib.Join
/-! Path; both Prints. -/
namespace Go.Proofs.Ytelmdbfddmpaaaa
open Go Go.RowKit

def pathOk (l : List ByteArray) : Bool := decide (1 ≤ l.length) && decide (l.length ≤ 16) && l.all seg
theorem pathOk_bad {l : List ByteArray} {q : Nat} {s : ByteArray} (hs : l[q]? = some s) (h : seg s = false) : pathOk l = false := by
  have : l.all seg = false := by
    rw [List.all_eq_false]
    exact ⟨s, List.mem_of_getElem? hs, by simp [h]⟩
  simp [pathOk, this]
theorem pathOk_all {l : List ByteArray} (h : ∀ (j : Nat) (s : ByteArray), l[j]? = some s → seg s = true) : pathOk l = (decide (1 ≤ l.length) && decide (l.length ≤ 16)) := by
  have : l.all seg = true := by
    rw [List.all_eq_true]
    intro s hs
    obtain ⟨j, hj⟩ := List.getElem?_of_mem hs
    exact h j s hj
  simp [pathOk, this]
/-- Each text of a list is of at most that many bytes. -/
def Sized (l : List ByteArray) : Prop := ∀ s ∈ l, s.size ≤ 9223372036854775806

set_option maxHeartbeats 2000000 in
set_option maxRecDepth 100000 in
theorem path_any (v : Value) (l : List ByteArray) (w : World) (hA : Reads w v l) (hl : l.length ≤ 9223372036854775806) (hS : Hid (Sized l)) :
    Calls Try.prog 39 #[v] w fun e w' => e = .returned (.bool (pathOk l)) ∧ w' = w := by
  obtain ⟨a, c, rfl, hc, hA⟩ := hA
  go_enter Try.func39, Try.ntmps39
  go_wp2
  go_loopw [3] (fun i wr => ∃ q : Nat, q ≤ l.length ∧ i = .int .i64 q ∧ wr = w ∧ Hid (∀ (j : Nat) (s : ByteArray), j < q → l[j]? = some s → seg s = true)) (fun i _ => l.length - (intOf i).toNat)
  case atStart => exact ⟨0, Nat.zero_le _, rfl, rfl, fun j s h => by omega⟩
  case round =>
    obtain ⟨q, hq, rfl, rfl, hB⟩ := hrel
    by_cases hlt : q < l.length
    · have hd : decide ((q : Int) < (l.length : Int)) = true := by simp; omega
      rcases hA with rfl | ⟨b1, o1, rfl, hb1, hA⟩
      · simp at hlt
      obtain ⟨x, hx⟩ : ∃ x, Hid (l[q]? = some x) := ⟨_, List.getElem?_eq_getElem hlt⟩
      have c1 : wr.cell? ⟨b1, o1 + q, none⟩ = some (.string x) := hA q x hx.out
      have hxs : x.size ≤ 9223372036854775806 := hS.out x (List.mem_of_getElem? hx.out)
      clear hA
      go_wp2_with fail
      refine (segment_any x hxs _).mono ?_
      rintro e w1 ⟨rfl, rfl⟩
      cases hs : seg x
      · have hf : Hid (pathOk l = false) := pathOk_bad hx.out hs
        go_wp2_with fail
        go_ret
        exact ⟨ret_bool hf.out.symm, rfl⟩
      · go_wp2_with fail
        go_roundw
        case rel => exact ⟨q + 1, by omega, by simp, by simp, fun j s h hj => by
          by_cases e : j = q
          · subst e; rw [hx.out] at hj; cases hj; exact hs
          · exact hB.out j s (by omega) hj⟩
        case measure => simp [intOf]; omega
    · have hd : decide ((q : Int) < (l.length : Int)) = false := by simp; omega
      have hf : Hid (pathOk l = (decide (1 ≤ l.length) && decide (l.length ≤ 16))) := pathOk_all (fun j s hj => hB.out j s (by have := (List.getElem?_eq_some_iff.1 hj).1; omega) hj)
      clear hA
      by_cases h1 : 1 ≤ l.length
      · by_cases h16 : l.length ≤ 16
        · have hff : Hid (pathOk l = true) := by rw [Hid, hf.out]; simp [h1, h16]
          go_wp2
          go_ret
          exact ⟨ret_bool (by rw [hff.out]; simp; omega), rfl⟩
        · have hff : Hid (pathOk l = false) := by rw [Hid, hf.out]; simp [h16]
          go_wp2
          go_ret
          exact ⟨ret_bool (by rw [hff.out]; simp; omega), rfl⟩
      · have hff : Hid (pathOk l = false) := by rw [Hid, hf.out]; simp [h1]
        go_wp2
        go_ret
        exact ⟨ret_bool hff.out.symm, rfl⟩
end Go.Proofs.Ytelmdbfddmpaaaa
