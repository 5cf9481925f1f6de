import Derived.Test.YtccfpbnkeaoicaaDoorIB
/-! The law IdentNil. -/
namespace Go.Proofs.YtccfpbnkeaoicaaDoor
open Go Go.RowKit
set_option maxHeartbeats 1000000 in
theorem nil_true (w : World) (hR : RoundsAt w) : Calls Tryd.prog 4 #[] w fun e w' => e = .returned (.bool true) ∧ Below w.heap.size w w' := by
  have hl := hid_of (live_true w hR)
  go_enter Tryd.func4, Tryd.ntmps4
  go_wp2_with fail
  refine (next_nil w).mono ?_
  rintro e w' ⟨rfl, rfl⟩
  go_wp2_with fail
  refine hl.out.mono ?_
  rintro e w1 ⟨rfl, HB⟩
  go_wp2_with fail
  refine (num_any 80 _).mono ?_
  rintro e w' ⟨rfl, rfl⟩
  go_wp2_with fail
  refine (counter_nil _).mono ?_
  rintro e w' ⟨rfl, rfl⟩
  go_wp2_with fail
  go_ret
  exact ⟨rfl, HB⟩
end Go.Proofs.YtccfpbnkeaoicaaDoor
