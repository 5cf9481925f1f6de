import Derived.Test.YtpdcinicnekeoaaWJ
import Derived.Test.YtpdcinicnekeoaaRows
import Derived.WalkKit
import Derived.ProofKit
import Derived.OpenShut
/-! WatchNil. -/
namespace Go.Proofs.Ytpdcinicnekeoaa
open Go Go.ChangeShapes Go.WideShapes Go.ChangeAt Go.RowKit Go.Watch
theorem own_knob : ownKnob Try.prog.godebug = none := by kernel_rfl
set_option maxRecDepth 100000 in
set_option maxHeartbeats 4000000 in
theorem nil_true (w : World) : Calls Try.prog 3 #[] w fun e w' => e = .returned (.bool true) ∧ Below w.heap.size w w' := by
  have ha1 := hid_of (after_nil 5 0 ⟨#[]⟩ w 5 (.inr ⟨by decide, rfl⟩))
  have ha2 := hid_of (after_nil (-5) 0 ⟨#[]⟩ w 0 (.inl ⟨by decide, rfl⟩))
  have hlv := hid_of (live_any w)
  have hnum := hid_of (num_any 0)
  go_enter Try.func3, Try.ntmps3
  go_wp2_with fail
  refine ha1.out.mono ?_
  rintro e Z ⟨rfl, hZ⟩
  obtain rfl : w = Z := hZ.symm
  clear hZ ha1
  go_wp2_with fail
  refine ha2.out.mono ?_
  rintro e Z ⟨rfl, hZ⟩
  obtain rfl : w = Z := hZ.symm
  clear hZ ha2
  go_wp2_with fail
  refine hlv.out.mono ?_
  rintro e W1 ⟨rfl, hB1⟩
  clear hlv
  obtain ⟨W2, hW2⟩ : ∃ W2, Hid (W1.alloc (.cells #[.int .i64 0, .string ⟨#[]⟩, .string ⟨#[]⟩, .int .i64 0] 30) = W2) := ⟨_, rfl⟩
  have hB2 : Hid (Below w.heap.size w W2) := by rw [← hW2.out]; exact hB1.alloc hB1.size _
  have hwn := hid_of (with_nil 3 (some ⟨W1.heap.size, 0, none⟩) 1 1 W2)
  have hho := hid_of (hor_nil (w := W2))
  have hla := hid_of (last_nil (w := W2))
  have hsi := hid_of (fun m => size_nil (w := W2.drewN m))
  clear hB1
  go_wp2_with (rw [hW2.out])
  refine hwn.out.mono ?_
  rintro e Z ⟨rfl, hZ⟩
  obtain rfl : W2 = Z := hZ.symm
  clear hZ hwn hW2
  go_wp2_with fail
  refine (hnum.out _).mono ?_
  rintro e Z ⟨rfl, hZ⟩
  obtain rfl : W2 = Z := hZ.symm
  clear hZ
  go_wp2_with fail
  refine (hnum.out _).mono ?_
  rintro e Z ⟨rfl, hZ⟩
  obtain rfl : W2 = Z := hZ.symm
  clear hZ
  go_wp2_with fail
  refine hho.out.mono ?_
  rintro e Z ⟨rfl, hZ⟩
  obtain rfl : W2 = Z := hZ.symm
  clear hZ hho
  go_wp2_with fail
  refine hla.out.mono ?_
  rintro e Z ⟨rfl, m, rfl⟩
  clear hla
  go_wp2_with fail
  refine (hsi.out m).mono ?_
  rintro e Z ⟨rfl, rfl⟩
  go_wp2_with fail
  go_ret
  exact ⟨rfl, below_drewN hB2.out m⟩
set_option maxRecDepth 100000 in
theorem nil_lifted (os : Os) (started : os.Started) (H : Type) (enc : TypeId × Value → H) :
    ReturnsInHanded {} Try.checked os 3 .any (Rows.watchNilSpec.pre6 enc Try.prog Try.f3 Rows.watchNilRow.domain false) (Rows.watchNilSpec.post enc Try.prog Try.f3 false true false false) := by
  refine returnsInHanded_of_change (C := Try.checked) own_knob started (by kernel_rfl) Try.func3
    (ChangeSpec.witness6 (enc := enc) (C := Try.checked) false ⟨#[], #[], []⟩ 8 (by kernel_rfl) (by kernel_rfl) (by kernel_rfl) (by kernel_rfl)) ?_
  intro W base args ds gs before hval0 hW hcnd _
  have hval : ∀ (j : Nat) t v, Try.f3.params[j]? = some t → args[j]? = some v → Value.okWide Try.prog W .any base t v := hval0
  have hW' := hW
  obtain ⟨p, q, hA0, hV, rfl, hfz, hnd⟩ := hW
  have hA : DataW.TrodAll enc Try.prog W 0 (fun _ => true) true Try.f3.params.toList args.toList ds p := hA0
  rw [Try.params3] at hA hval
  obtain ⟨rfl, rfl, rfl⟩ := trodAll_none hA
  obtain ⟨rfl, rfl⟩ := trodVars_none hV
  clear hA0 hval0
  simp only [List.append_nil] at hW'
  refine (nil_true W).mono fun e W' ⟨he, hg⟩ => ?_
  subst he
  exact ⟨_, rfl, _, _, _, [], _, [], hW', trodAll_mk1 (shut_bool Try.underlying4 _), trodAll_mk0, rfl, hg.frame _, fun h => by cases h⟩
theorem nil_holds : Rows.WatchNilSaid :=
  OpenClaim.holds_of_wide 3 Try.f3 rfl rfl rfl rfl rfl rfl rfl ⟨rfl, rfl, rfl, rfl, rfl⟩ rfl rfl rfl rfl rfl (by kernel_rfl) Try.func3 (by kernel_rfl)
    (of_decide_eq_true (by kernel_rfl)) (by unfold Func.isWrapper; first | (rw [if_pos (by decide +kernel)]; kernel_rfl) | (rw [if_neg (by decide +kernel)]; exact ⟨rfl, rfl⟩))
    (fun os started H enc _ => nil_lifted os started H enc)
#print axioms nil_holds
end Go.Proofs.Ytpdcinicnekeoaa
