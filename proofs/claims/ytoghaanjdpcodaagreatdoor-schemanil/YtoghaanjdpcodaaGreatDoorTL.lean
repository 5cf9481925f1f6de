import Derived.Test.YtoghaanjdpcodaaGreatDoorTK
/-! The row SchemaNil. -/
namespace Go.Proofs.YtoghaanjdpcodaaGreatDoor
open Go Go.ChangeShapes Go.WideShapes Go.ChangeAt Go.RowKit

set_option maxHeartbeats 1000000 in
set_option maxRecDepth 100000 in
theorem fault_nil (u : V5) (w : World) : Calls Tryz.prog 4 #[.pointer none, u.v] w fun e w' => e = .returned (.tuple #[.slice none 0 0, .string ⟨#[]⟩, .bool false]) ∧ Below w.heap.size w w' := by
  have hb := ((Below.refl _ w).alloc (Nat.le_refl _) (.cells #[.pointer none] 22)).alloc (by simp) (u.obj 28)
  unfold V5.obj at hb
  unfold V5.v
  go_enter Tryz.func4, Tryz.ntmps4
  go_wp2_with fail
  refine bodyPost_ret (v := .tuple #[.slice none 0 0, .string ⟨#[]⟩, .bool false]) (by simp [results, Tryz.results4, go_sem]) rfl ?_
  exact ⟨rfl, hb⟩
set_option maxHeartbeats 1000000 in
set_option maxRecDepth 100000 in
theorem check_nil (u : V5) (w : World) : Calls Tryz.prog 8 #[.pointer none, u.v] w fun e w' => e = .returned (.int .i64 0) ∧ Below w.heap.size w w' := by
  have hb : Hid (Below w.heap.size w (w.alloc (u.obj 28))) := (Below.refl _ w).alloc (Nat.le_refl _) _
  unfold V5.obj at hb
  unfold V5.v
  go_enter Tryz.func8, Tryz.ntmps8
  go_upto_region 1 with fail
  go_quiet (fail)
  go_wp2_with fail
  go_ret
  exact ⟨rfl, below_drewN hb.out _⟩
theorem rules_nil (w : World) : Calls Tryz.prog 9 #[.pointer none] w fun e w' => e = .returned (.int .i64 0) ∧ w' = w := by
  go_enter Tryz.func9, Tryz.ntmps9
  go_wp2_with fail
  go_ret
  exact ⟨rfl, rfl⟩
set_option maxHeartbeats 4000000 in
set_option maxRecDepth 100000 in
theorem nil_true (w : World) (hE : Hid (EnvL w)) : Calls Tryz.prog 3 #[] w fun e w' => e = .returned (.bool true) ∧ Below w.heap.size w w' := by
  go_enter Tryz.func3, Tryz.ntmps3
  go_wp2_with fail
  refine (number_any 1 _).mono ?_
  rintro e W1 ⟨rfl, hb1⟩
  replace hb1 := hid_of hb1
  have hf := hid_of (fault_nil (numU 1) W1)
  unfold V5.v numU at *
  go_wp2_with fail
  refine hf.out.mono ?_
  rintro e W2 ⟨rfl, hb2⟩
  have hB2 := hid_of (hb1.out.trans (hb2.mono hb1.out.size))
  have hlv := hid_of (live_any W2 (hid_of (hE.out.keep hB2.out)))
  clear hb1 hb2 hf hE
  go_wp2_with fail
  refine hlv.out.mono ?_
  rintro e W3 ⟨rfl, hb3⟩
  have hB3 := hid_of (hB2.out.trans (hb3.mono hB2.out.size))
  clear hb3 hlv hB2
  go_wp2_with fail
  refine (number_any 1 _).mono ?_
  rintro e W4 ⟨rfl, hb4⟩
  have hB4 := hid_of (hB3.out.trans (hb4.mono hB3.out.size))
  have hc := hid_of (check_nil (numU 1) W4)
  unfold V5.v numU at *
  clear hb4 hB3
  go_wp2_with fail
  refine hc.out.mono ?_
  rintro e W5 ⟨rfl, hb5⟩
  have hB5 := hid_of (hB4.out.trans (hb5.mono hB4.out.size))
  clear hb5 hB4 hc
  go_wp2_with fail
  refine (num_any 0 _).mono ?_
  rintro e Z ⟨rfl, hZ⟩
  obtain rfl : W5 = Z := hZ.symm
  clear hZ
  go_wp2_with fail
  refine (rules_nil _).mono ?_
  rintro e Z ⟨rfl, hZ⟩
  obtain rfl : W5 = Z := hZ.symm
  clear hZ
  go_wp2_with fail
  go_ret
  exact ⟨rfl, hB5.out⟩
set_option maxRecDepth 100000 in
theorem nil_lifted (os : Os) (started : os.Started) (H : Type) (enc : TypeId × Value → H) :
    ReturnsInHanded {} Tryz.checked os 3 .any (fun w args => (Rows.schemaNilSpec.pre enc Tryz.prog Tryz.f3 [] false w args ∧ laidMetH Tryz.prog Rows.schemaNilRow.laid w) ∧ sizedMet enc Tryz.prog Tryz.f3 (OpenSpec.ofChange Rows.schemaNilSpec) false w args)
      (Rows.schemaNilSpec.post enc Tryz.prog Tryz.f3 false true false false) := by
  refine returnsInHanded_of_change_and (C := Tryz.checked) (X := fun w _ => laidMetH Tryz.prog Rows.schemaNilRow.laid w) (fun _ _ _ hh h => h.of_heap hh) own_knob started (by kernel_rfl) Tryz.func3
    (ChangeSpec.witness_shaped (enc := enc) (C := Tryz.checked) (os := os) (X := fun w _ => laidMetH Tryz.prog Rows.schemaNilRow.laid w) false (World.laidAll Tryz.prog os Rows.schemaNilRow.laid) #[] 8 (World.laidAll_os _ _ _)
      (World.shaped_of_ZipB (by kernel_rfl) (by kernel_rfl)) (by kernel_rfl) (by kernel_rfl) (by kernel_rfl)
      (by rw [MakeChecks.laidMetH_plain _ _ _ (by kernel_rfl)]; exact laidMet_laidAll _ (by kernel_rfl) (by kernel_rfl))) ?_
  intro W base args ds gs before hval0 hW _ hsz0 hL _
  have hW' := hW
  obtain ⟨p, q, hA0, hV, rfl, _, _⟩ := hW
  have hA : DataW.TrodAll enc Tryz.prog W 0 (fun _ => true) true Tryz.f3.params.toList args.toList ds p := hA0
  rw [Tryz.params3] at hA
  obtain ⟨rfl, rfl, rfl⟩ := trodAll_none hA
  obtain ⟨rfl, rfl⟩ := trodVars_none hV
  simp only [List.append_nil] at hW'
  rw [MakeChecks.laidMetH_plain _ _ _ (by kernel_rfl)] at hL
  have hE := env_of hL (.tail _ (.tail _ (.head _))) (.head _) (.tail _ (.head _))
  refine (nil_true W (hid_of hE)).mono fun e W' ⟨he, hb⟩ => ?_
  subst he
  exact ⟨_, rfl, _, _, _, [], [], [], hW', trodAll_mk1 (shut_bool Tryz.underlying4 _), rfl, rfl, hb.frame _, fun h => by cases h⟩
theorem nil_holds : Rows.SchemaNilSaid :=
  OpenClaim.holds_of_wide 3 Tryz.f3 rfl rfl rfl rfl rfl rfl rfl ⟨rfl, rfl, rfl, rfl, rfl⟩ rfl rfl rfl rfl rfl (by kernel_rfl) Tryz.func3 (by kernel_rfl)
    (of_decide_eq_true (by kernel_rfl)) (by unfold Func.isWrapper; first | (rw [if_pos (by decide +kernel)]; kernel_rfl) | (rw [if_neg (by decide +kernel)]; exact ⟨rfl, rfl⟩))
    (fun os started H enc _ => nil_lifted os started H enc)
end Go.Proofs.YtoghaanjdpcodaaGreatDoor
