import Derived.Test.YthebilggokpciaaF1
import Derived.Test.YthebilggokpciaaU1
import Derived.Deep.RegionHeld3
/-! The document's Get. -/
namespace Go.Proofs.Ythebilggokpciaa
open Go Go.RowKit
theorem zero_rep (W : World) : VRep W (.node 0 0 ⟨#[]⟩ [] []) (five 0 0 ⟨#[]⟩ (.slice none 0 0) (.slice none 0 0)) := by
  unfold VRep
  exact ⟨.slice none 0 0, none, 0, rfl, ⟨none, 0, rfl, ⟨Nat.le_refl _, by omega⟩, .inl rfl⟩, ⟨Nat.le_refl _, by omega⟩, .inl rfl⟩
theorem below_two (w : World) (o p : Obj) : Below w.heap.size w ((w.alloc o).alloc p) := ((Below.refl _ w).alloc (Nat.le_refl _) o).alloc (by simp) p
theorem frozen_row {w : World} {B : Nat} {c0 c1 c2 c3 c4 : Value} {t : TypeId} (h : w.heap[B]? = some (.cells #[c0, c1, c2, c3, c4] t (0, 0))) (j : Nat) : w.frozen? ⟨B, j, none⟩ = false := (row_cells h).2.2.2.2.2 j
end Go.Proofs.Ythebilggokpciaa
