import Derived.Test.YtccfpbnkeaoicaaDoorI9
/-! ident: a maker's counter. -/
namespace Go.Proofs.YtccfpbnkeaoicaaDoor
open Go Go.RowKit
set_option maxHeartbeats 2000000 in
theorem counter_any (b seed counter : Nat) (w : World) (h : MakerAt w b seed counter) : Calls Tryd.prog 15 #[.pointer (some ⟨b, 0, none⟩)] w fun e w' => e = .returned (.int .u64 counter) ∧ w' = w := by
  have c1 : w.cell? ⟨b, 1, none⟩ = some (.int .u64 counter) := by
    unfold MakerAt at h
    simp [World.cell?, h]
  go_enter Tryd.func15, Tryd.ntmps15
  go_wp2_with fail
  go_ret
  exact ⟨rfl, rfl⟩
theorem counter_nil (w : World) : Calls Tryd.prog 15 #[.pointer none] w fun e w' => e = .returned (.int .u64 0) ∧ w' = w := by
  go_enter Tryd.func15, Tryd.ntmps15
  go_wp2_with fail
  go_ret
  exact ⟨rfl, rfl⟩
end Go.Proofs.YtccfpbnkeaoicaaDoor
