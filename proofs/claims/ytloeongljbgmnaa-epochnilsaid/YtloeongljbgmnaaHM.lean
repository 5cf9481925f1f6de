import Derived.Test.YtloeongljbgmnaaHL
/-! heap: live. -/
namespace Go.Proofs.Ytloeongljbgmnaa
open Go Go.RowKit
section
variable {lo : Nat} {w : World} {hb : Nat} {obj most : Int} {ns : List Nd} {st : List Int}
theorem get_s (h : HeapS lo w hb obj most ns st) (num gen : Int) : Calls Try.prog 31 #[.pointer (some ⟨hb, 0, none⟩), .pointer none, .agg #[.int .i64 num, .int .i64 gen]] w fun e w' => e = .returned (.tuple #[.int .i64 (valOf ns num gen), .bool (isLive ns num gen)]) ∧ Below w.heap.size w w' := by
  obtain ⟨c, cs, p, h1, h2, h3⟩ := h
  exact get_any h2 num gen
theorem free_no (h : HeapS lo w hb obj most ns st) (num gen : Int) (hno : isLive ns num gen = false) : Calls Try.prog 49 #[.pointer (some ⟨hb, 0, none⟩), .pointer none, .agg #[.int .i64 num, .int .i64 gen]] w fun e w' => e = .returned (.bool false) ∧ Below w.heap.size w w' := by
  obtain ⟨c, cs, p, h1, h2, h3⟩ := h
  exact free_not h2 num gen hno
theorem free_s (h : HeapS lo w hb obj most ns st) (k : Nat) (gen v : Int) (hkx : ns[k]? = some ⟨gen, true, v⟩) (hlo : lo ≤ w.heap.size) (hgen : -4611686018427387904 ≤ gen ∧ gen ≤ 4611686018427387904) (hl : st.length ≤ 1048576) : Calls Try.prog 49 #[.pointer (some ⟨hb, 0, none⟩), .pointer none, .agg #[.int .i64 ((k : Int) + 1), .int .i64 gen]] w fun e w' => e = .returned (.bool true) ∧ FT lo w w' ∧ HeapS lo w' hb obj most (ns.set k ⟨gen + 1, false, 0⟩) (((k : Int) + 1) :: st) := by
  obtain ⟨c, cs, p, h1, h2, h3⟩ := h
  refine (free_live h2 k gen v hkx hlo hgen (by rw [h2.pool.count, h3]; omega)).mono ?_
  rintro e w' ⟨rfl, hT, c', cs', p', q1, q2, q3⟩
  exact ⟨rfl, hT, c', cs', p', q1.trans h1, q2, by rw [q3, h3]⟩
end
theorem eq_ref (a b c d : Int) (w : World) : (binOp .eql 82 (.agg #[.int .i64 a, .int .i64 b]) (.agg #[.int .i64 c, .int .i64 d])).run Try.prog w = .ok (.bool (decide (a = c) && decide (b = d))) w := by
  go_simp
  by_cases h1 : a = c <;> by_cases h2 : b = d <;> simp [h1, h2]
end Go.Proofs.Ytloeongljbgmnaa
