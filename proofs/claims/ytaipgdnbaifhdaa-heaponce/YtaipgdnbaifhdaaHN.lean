import Derived.Test.YtaipgdnbaifhdaaHM
import Derived.Test.YtaipgdnbaifhdaaRows
import Derived.WalkKit
import Derived.ProofKit
import Derived.OpenShut
/-! HeapNil. -/
namespace Go.Proofs.Ytaipgdnbaifhdaa
open Go Go.ChangeShapes Go.WideShapes Go.ChangeAt Go.RowKit
theorem own_knob : ownKnob Try.prog.godebug = none := by kernel_rfl
set_option maxRecDepth 100000 in
set_option maxHeartbeats 4000000 in
theorem nil_true (w : World) : Calls Try.prog 4 #[] w fun e w' => e = .returned (.bool true) ∧ Below w.heap.size w w' := by
  have hal := hid_of (alloc_nil 1 w)
  have hge := hid_of (get_nil 1 1)
  have hfr := hid_of (free_nil 0 0)
  have hnum := hid_of (num_any 0)
  have he := eq_ref 0 0 0 0
  simp only [decide_true, Bool.and_self] at he
  go_enter Try.func4, Try.ntmps4
  go_wp2_with fail
  refine hal.out.mono ?_
  rintro e W1 ⟨rfl, hB1⟩
  obtain ⟨W2, hW2⟩ : ∃ W2, Hid (W1.alloc (.cells #[.int .i64 0, .int .i64 0] 35) = W2) := ⟨_, rfl⟩
  have hB12 : Below W1.heap.size W1 W2 := by rw [← hW2.out]; exact (Below.refl _ W1).alloc (Nat.le_refl _) _
  have z : W2.heap[W1.heap.size]? = some (.cells #[.int .i64 0, .int .i64 0] 35 (0, 0)) := by rw [← hW2.out]; exact heap_alloc_new W1 _
  have hB2 : Hid (Below w.heap.size w W2) := hB1.trans (hB12.mono hB1.size)
  replace z := hid_of z
  clear hal hB1 hB12
  go_upto_region 3 with fail
  rw [hW2.out]
  go_wp2_with fail
  refine (hge.out W2).mono ?_
  rintro e W3 ⟨rfl, hB3⟩
  have hlv := hid_of (live_any W3)
  have z3 : Hid (W3.heap[W1.heap.size]? = some (.cells #[.int .i64 0, .int .i64 0] 35 (0, 0))) := (hB3.block _ (Array.getElem?_eq_some_iff.1 z.out).1).trans z.out
  have hB03 : Hid (Below w.heap.size w W3) := hB2.out.trans (hB3.mono hB2.out.size)
  clear hge hB3 z hB2 hW2
  go_wp2_with fail
  refine hlv.out.mono ?_
  rintro e W4 ⟨rfl, hB4⟩
  have z4 := (hB4.block _ (Array.getElem?_eq_some_iff.1 z3.out).1).trans z3.out
  have x0 : W4.cell? ⟨W1.heap.size, 0, none⟩ = some (.int .i64 0) := cell_of z4 rfl
  have x1 : W4.cell? ⟨W1.heap.size, 1, none⟩ = some (.int .i64 0) := cell_of z4 rfl
  have hB04 : Hid (Below w.heap.size w W4) := hB03.out.trans (hB4.mono hB03.out.size)
  clear hlv hB4 z3 z4 hB03
  go_wp2_with fail
  refine (hnum.out W4).mono ?_
  rintro e Z ⟨rfl, hz⟩
  obtain rfl : W4 = Z := hz.symm
  clear hz hnum
  go_wp2_with fail
  refine (hfr.out W4).mono ?_
  rintro e W5 ⟨rfl, hB5⟩
  have hB05 : Hid (Below w.heap.size w W5) := hB04.out.trans (hB5.mono hB04.out.size)
  have hm := hid_of (made_nil W5)
  have hp := hid_of (pooled_nil W5)
  have hl := hid_of (live_nil W5)
  have hg := hid_of (gen_nil 1 W5)
  clear hfr hB5 hB04 x0 x1
  go_wp2_with fail
  refine hm.out.mono ?_
  rintro e Z ⟨rfl, hz⟩
  obtain rfl : W5 = Z := hz.symm
  clear hz hm
  go_wp2_with fail
  refine hp.out.mono ?_
  rintro e Z ⟨rfl, hz⟩
  obtain rfl : W5 = Z := hz.symm
  clear hz hp
  go_wp2_with fail
  refine hl.out.mono ?_
  rintro e Z ⟨rfl, hz⟩
  obtain rfl : W5 = Z := hz.symm
  clear hz hl
  go_wp2_with fail
  refine hg.out.mono ?_
  rintro e Z ⟨rfl, hz⟩
  obtain rfl : W5 = Z := hz.symm
  clear hz hg
  go_wp2_with fail
  go_ret
  exact ⟨rfl, hB05.out⟩
set_option maxRecDepth 100000 in
theorem nil_lifted (os : Os) (started : os.Started) (H : Type) (enc : TypeId × Value → H) :
    ReturnsInHanded {} Try.checked os 4 .any (Rows.heapNilSpec.pre6 enc Try.prog Try.f4 Rows.heapNilRow.domain false) (Rows.heapNilSpec.post enc Try.prog Try.f4 false true false false) := by
  refine returnsInHanded_of_change (C := Try.checked) own_knob started (by kernel_rfl) Try.func4
    (ChangeSpec.witness6 (enc := enc) (C := Try.checked) false ⟨#[], #[], []⟩ 8 (by kernel_rfl) (by kernel_rfl) (by kernel_rfl) (by kernel_rfl)) ?_
  intro W base args ds gs before hval0 hW hcnd _
  have hval : ∀ (j : Nat) t v, Try.f4.params[j]? = some t → args[j]? = some v → Value.okWide Try.prog W .any base t v := hval0
  have hW' := hW
  obtain ⟨p, q, hA0, hV, rfl, hfz, hnd⟩ := hW
  have hA : DataW.TrodAll enc Try.prog W 0 (fun _ => true) true Try.f4.params.toList args.toList ds p := hA0
  rw [Try.params4] at hA hval
  obtain ⟨rfl, rfl, rfl⟩ := trodAll_none hA
  obtain ⟨rfl, rfl⟩ := trodVars_none hV
  clear hA0 hval0
  simp only [List.append_nil] at hW'
  refine (nil_true W).mono fun e W' ⟨he, hg⟩ => ?_
  subst he
  exact ⟨_, rfl, _, _, _, [], _, [], hW', trodAll_mk1 (shut_bool Try.underlying4 _), trodAll_mk0, rfl, hg.frame _, fun h => by cases h⟩
theorem nil_holds : Rows.HeapNilSaid :=
  OpenClaim.holds_of_wide 4 Try.f4 rfl rfl rfl rfl rfl rfl rfl ⟨rfl, rfl, rfl, rfl, rfl⟩ rfl rfl rfl rfl rfl (by kernel_rfl) Try.func4 (by kernel_rfl)
    (of_decide_eq_true (by kernel_rfl)) (by unfold Func.isWrapper; first | (rw [if_pos (by decide +kernel)]; kernel_rfl) | (rw [if_neg (by decide +kernel)]; exact ⟨rfl, rfl⟩))
    (fun os started H enc _ => nil_lifted os started H enc)
#print axioms nil_holds
end Go.Proofs.Ytaipgdnbaifhdaa
