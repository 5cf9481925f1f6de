import Derived.Test.YthafhemlnninbaaGreatSY
/-! Stable sorting over memory: merging, of any two lists. -/
namespace Go.Proofs.YthafhemlnninbaaGreat.Sorted
open Go Go.RowKit Go.Stab
section
variable {α : Type} {enc : α → Array Value} {rv : Value}
theorem sym_any (E : Enc enc) {lt : α → α → Bool} (O : Swo lt) {b : Nat} {w0 : World} (cn : α → α → Int) (hlt : ∀ x y, lt x y = decide (cn x y < 0)) (hcmp : ∀ x y W, But b w0 W → Calls Tryz.prog 38 #[rv, .agg (enc x), .agg (enc y)] W fun e w' => e = .returned (.int .i64 (cn x y)) ∧ Below W.heap.size W w') (n cap : Nat) (hnn : n ≤ 4611686018427387904) (s : Nat) : SymOk rv enc lt w0 b n cap s := by
  induction s using Nat.strongRecOn with
  | _ s ih =>
    intro A L R B a m c w hw0 hR hul hur h0 h1 hs ha hm hc hn
    by_cases e1 : L.length = 1
    · obtain ⟨x, rfl⟩ := List.length_eq_one_iff.1 e1
      exact sym_one E O cn hlt hcmp A x R B n cap a m c w hw0 hR hur ha hm hc hn hnn
    · by_cases e2 : R.length = 1
      · obtain ⟨y, rfl⟩ := List.length_eq_one_iff.1 e2
        exact sym_last E O cn hlt hcmp A y L B n cap a m c w hw0 hR hul e1 ha hm hc hn hnn
      · exact sym_step E O cn hlt hcmp A L R B n cap a m c w hw0 (fun s' h => ih s' (by omega)) hR hul hur (by omega) (by omega) ha hm hc hn hnn
end
end Go.Proofs.YthafhemlnninbaaGreat.Sorted
