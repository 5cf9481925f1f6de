import Derived.Test.YtloeongljbgmnaaEZ
import Derived.Test.YtloeongljbgmnaaNB
import Derived.Test.YtloeongljbgmnaaRows
import Derived.WalkKit
import Derived.ProofKit
import Derived.OpenShut
/-! EpochNil. -/
namespace Go.Proofs.Ytloeongljbgmnaa
open Go Go.ChangeShapes Go.WideShapes Go.ChangeAt Go.RowKit
theorem own_knob : ownKnob Try.prog.godebug = none := by kernel_rfl
set_option maxRecDepth 100000 in
set_option maxHeartbeats 4000000 in
theorem nil_true (w : World) : Calls Try.prog 3 #[] w fun e w' => e = .returned (.bool true) ∧ Below w.heap.size w w' := by
  have hsc := hid_of (scripted_any w)
  have hB1 : Below w.heap.size w (w.alloc (.cells #[.bool false] 55)) := (Below.refl _ w).alloc (Nat.le_refl _) _
  have hne := hid_of (new_none w.heap.size 5)
  have hun := hid_of unpin_none
  have hro := hid_of root_none
  have hpi := hid_of pin_none
  have hpu := hid_of (publish_none 7)
  have hpa := hid_of pass_none
  have hps := hid_of pins_none
  have hre := hid_of retired_none
  have hli := hid_of live_any
  have hnum := hid_of (num_any 2)
  have hso := s_of 0 none 0 0 0
  replace hB1 := hid_of hB1
  go_enter Try.func3, Try.ntmps3
  go_wp2_with fail
  refine hsc.out.mono ?_
  rintro e W1 ⟨rfl, hz⟩
  rw [← hz] at hB1
  clear hz hsc
  go_wp2_with fail
  refine (hne.out W1).mono ?_
  rintro e W2 ⟨rfl, hB2⟩
  have hB02 : Hid (Below w.heap.size w W2) := hB1.out.trans (hB2.mono hB1.out.size)
  clear hne hB2 hB1
  go_wp2_with fail
  refine (hun.out W2).mono ?_
  rintro e Z ⟨rfl, hz⟩
  obtain rfl : W2 = Z := hz.symm
  clear hz hun
  go_wp2_with fail
  refine (hro.out W2).mono ?_
  rintro e W3 ⟨rfl, hB3⟩
  have hB03 : Hid (Below w.heap.size w W3) := hB02.out.trans (hB3.mono hB02.out.size)
  clear hro hB3 hB02
  go_wp2_with fail
  refine (hpi.out W3).mono ?_
  rintro e W4 ⟨rfl, hB4⟩
  have hB04 : Hid (Below w.heap.size w W4) := hB03.out.trans (hB4.mono hB03.out.size)
  clear hpi hB4 hB03
  go_wp2_with fail
  refine (hpu.out W4).mono ?_
  rintro e W5 ⟨rfl, hB5⟩
  have hB05 : Hid (Below w.heap.size w W5) := hB04.out.trans (hB5.mono hB04.out.size)
  clear hpu hB5 hB04
  go_wp2_with fail
  refine (hpa.out W5).mono ?_
  rintro e Z ⟨rfl, hz⟩
  obtain rfl : W5 = Z := hz.symm
  clear hz hpa
  go_wp2_with fail
  refine (hps.out W5).mono ?_
  rintro e Z ⟨rfl, hz⟩
  obtain rfl : W5 = Z := hz.symm
  clear hz hps
  go_wp2_with fail
  refine (hre.out W5).mono ?_
  rintro e Z ⟨rfl, hz⟩
  obtain rfl : W5 = Z := hz.symm
  clear hz hre
  go_wp2_with fail
  refine (hli.out W5).mono ?_
  rintro e W6 ⟨rfl, hB6⟩
  have hB06 : Hid (Below w.heap.size w W6) := hB05.out.trans (hB6.mono hB05.out.size)
  clear hli hB6 hB05
  go_wp2_with fail
  refine (hnum.out W6).mono ?_
  rintro e Z ⟨rfl, hz⟩
  obtain rfl : W6 = Z := hz.symm
  clear hz hnum
  go_wp2_with fail
  go_ret
  exact ⟨rfl, hB06.out⟩
set_option maxRecDepth 100000 in
theorem nil_lifted (os : Os) (started : os.Started) (H : Type) (enc : TypeId × Value → H) :
    ReturnsInHanded {} Try.checked os 3 .any (Rows.epochNilSpec.pre6 enc Try.prog Try.f3 Rows.epochNilRow.domain false) (Rows.epochNilSpec.post enc Try.prog Try.f3 false true false false) := by
  refine returnsInHanded_of_change (C := Try.checked) own_knob started (by kernel_rfl) Try.func3
    (ChangeSpec.witness6 (enc := enc) (C := Try.checked) false ⟨#[], #[], []⟩ 8 (by kernel_rfl) (by kernel_rfl) (by kernel_rfl) (by kernel_rfl)) ?_
  intro W base args ds gs before hval0 hW hcnd _
  have hval : ∀ (j : Nat) t v, Try.f3.params[j]? = some t → args[j]? = some v → Value.okWide Try.prog W .any base t v := hval0
  have hW' := hW
  obtain ⟨p, q, hA0, hV, rfl, hfz, hnd⟩ := hW
  have hA : DataW.TrodAll enc Try.prog W 0 (fun _ => true) true Try.f3.params.toList args.toList ds p := hA0
  rw [Try.params3] at hA hval
  obtain ⟨rfl, rfl, rfl⟩ := trodAll_none hA
  obtain ⟨rfl, rfl⟩ := trodVars_none hV
  clear hA0 hval0
  simp only [List.append_nil] at hW'
  refine (nil_true W).mono fun e W' ⟨he, hg⟩ => ?_
  subst he
  exact ⟨_, rfl, _, _, _, [], _, [], hW', trodAll_mk1 (shut_bool Try.underlying4 _), trodAll_mk0, rfl, hg.frame _, fun h => by cases h⟩
theorem nil_holds : Rows.EpochNilSaid :=
  OpenClaim.holds_of_wide 3 Try.f3 rfl rfl rfl rfl rfl rfl rfl ⟨rfl, rfl, rfl, rfl, rfl⟩ rfl rfl rfl rfl rfl (by kernel_rfl) Try.func3 (by kernel_rfl)
    (of_decide_eq_true (by kernel_rfl)) (by unfold Func.isWrapper; first | (rw [if_pos (by decide +kernel)]; kernel_rfl) | (rw [if_neg (by decide +kernel)]; exact ⟨rfl, rfl⟩))
    (fun os started H enc _ => nil_lifted os started H enc)
#print axioms nil_holds
end Go.Proofs.Ytloeongljbgmnaa
