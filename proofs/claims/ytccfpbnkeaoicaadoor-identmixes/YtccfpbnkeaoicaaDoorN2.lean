import Derived.Test.YtccfpbnkeaoicaaDoorIB
import Derived.Test.YtccfpbnkeaoicaaDoorI3
/-! The law IdentMixes. -/
namespace Go.Proofs.YtccfpbnkeaoicaaDoor
open Go Go.RowKit
set_option maxHeartbeats 2000000 in
theorem mixes_true (n : Nat) (hn : n < M64) (w : World) (hR : RoundsAt w) : Calls Tryd.prog 5 #[.int .u64 n] w fun e w' => e = .returned (.bool true) ∧ Below w.heap.size w w' := by
  have a1 := hid_of (mix_any n)
  have a2 := hid_of (rmix_any n)
  have a3 := hid_of (unmix_any n hn)
  have a4 := hid_of (runmix_any n hn)
  have a5 := hid_of (unmix_any (mixN n) (mix_lt n))
  have a6 := hid_of (mix_any (unmixN n))
  rw [unmix_mix hn] at a5
  rw [mix_unmix hn] at a6
  replace hR := hid_of hR
  generalize mixN n = X at *
  generalize unmixN n = Y at *
  go_enter Tryd.func5, Tryd.ntmps5
  go_wp2_with fail
  refine (a1.out w hR.out).mono ?_
  rintro e w1 ⟨rfl, HB⟩
  go_wp2_with fail
  refine (a2.out _).mono ?_
  rintro e w' ⟨rfl, rfl⟩
  go_wp2_with fail
  refine (a3.out _ (hR.out.keep HB)).mono ?_
  rintro e w2 ⟨rfl, hb⟩
  replace HB := HB.trans (hb.mono HB.size)
  clear hb
  go_wp2_with fail
  refine (a4.out _).mono ?_
  rintro e w' ⟨rfl, rfl⟩
  go_wp2_with fail
  refine (a1.out _ (hR.out.keep HB)).mono ?_
  rintro e w3 ⟨rfl, hb⟩
  replace HB := HB.trans (hb.mono HB.size)
  clear hb
  go_wp2_with fail
  refine (a5.out _ (hR.out.keep HB)).mono ?_
  rintro e w4 ⟨rfl, hb⟩
  replace HB := HB.trans (hb.mono HB.size)
  clear hb
  go_wp2_with fail
  refine (a3.out _ (hR.out.keep HB)).mono ?_
  rintro e w5 ⟨rfl, hb⟩
  replace HB := HB.trans (hb.mono HB.size)
  clear hb
  go_wp2_with fail
  refine (a6.out _ (hR.out.keep HB)).mono ?_
  rintro e w6 ⟨rfl, hb⟩
  replace HB := HB.trans (hb.mono HB.size)
  clear hb
  have hl := hid_of (live_true w6 (hR.out.keep HB))
  go_wp2_with fail
  refine hl.out.mono ?_
  rintro e w7 ⟨rfl, hb⟩
  replace HB := HB.trans (hb.mono HB.size)
  clear hb hl
  go_wp2_with fail
  go_ret
  exact ⟨rfl, HB⟩
end Go.Proofs.YtccfpbnkeaoicaaDoor
