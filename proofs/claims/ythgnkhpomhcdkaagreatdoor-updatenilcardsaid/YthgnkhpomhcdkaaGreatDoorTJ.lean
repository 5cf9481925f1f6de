import Derived.Test.YthgnkhpomhcdkaaGreatDoorTI
import Derived.Test.YthgnkhpomhcdkaaGreatDoorPG
/-! update: the row UpdateNil. -/
namespace Go.Proofs.YthgnkhpomhcdkaaGreatDoor
open Go Go.ChangeShapes Go.WideShapes Go.ChangeAt Go.RowKit

theorem laid_out : laidOutB Tryz.prog = true := by kernel_rfl
theorem read_val : Tryz.prog.readableRec 28 = true := by kernel_rfl
theorem five_v5 {w : World} {t : Tr} {cs : List Value} (h : VRep w t cs) : ∃ u : V5, cs = u.cs := by
  obtain ⟨k, x, s, an, ln, cn, ai, li, ci, e⟩ := vrep_five h
  exact ⟨⟨k, x, s, an, ln, cn, ai, li, ci⟩, e⟩
set_option maxRecDepth 100000 in
theorem arg_val {H : Type} {enc : TypeId × Value → H} {W : World} {base : Nat} {v : Value} {d : DataW H} {p : List MemPlace} {ts : List TypeId} {ds : List (DataW H)} {j : Nat} (hok : Value.okWide Tryz.prog W .any base 28 v)
    (h : DataW.Trod enc Tryz.prog W 0 (fun _ => true) true 28 v d p) (hsz : (DataW.weightsEach Tryz.prog ts ds).all (· ≤ reachBytes) = true) (ht : ts[j]? = some 28) (hd : ds[j]? = some d) :
    ∃ (u : V5) (t : Tr), v = u.v ∧ Hid (VRep W t u.cs) ∧ Hid (SmallT t) := by
  obtain ⟨cs, rfl, _⟩ := okWide_struct Tryz.underlying28 hok
  obtain ⟨fuel, hf⟩ := h
  obtain ⟨t, hV, hS⟩ := open_small fuel _ _ hf (fun k hk => of_decide_eq_true (List.all_eq_true.1 hsz _ (DataW.weights_mem_each ht hd k hk)))
  obtain ⟨u, e⟩ := five_v5 hV
  refine ⟨u, t, ?_, by rw [← e]; exact hV, hS⟩
  have e2 : cs.toList = u.cs := e
  rw [show cs = cs.toList.toArray by simp, e2]
  rfl
set_option maxRecDepth 100000 in
theorem laidU_metN (os : Os) (args : Array Value) : laidMetH Tryz.prog Rows.updateNilRow.laid ((laidU os).forCall (fun _ _ => 0) ⟨#[], args, []⟩).memory := laidU_met os args
set_option maxRecDepth 100000 in
theorem nil_lifted (os : Os) (started : os.Started) (H : Type) (enc : TypeId × Value → H) :
    ReturnsInHanded {} Tryz.checked os 4 .any (fun w args => (Rows.updateNilSpec.pre enc Tryz.prog Tryz.f4 [] false w args ∧ laidMetH Tryz.prog Rows.updateNilRow.laid w) ∧ sizedMet enc Tryz.prog Tryz.f4 (OpenSpec.ofChange Rows.updateNilSpec) false w args)
      (Rows.updateNilSpec.post enc Tryz.prog Tryz.f4 false true false false) := by
  refine handed_shaped (C := Tryz.checked) (X := fun w _ => laidMetH Tryz.prog Rows.updateNilRow.laid w) (fun _ _ _ hh h => h.of_heap hh) own_knob started (by kernel_rfl) Tryz.func4
    (ChangeSpec.witness_shaped (enc := enc) (C := Tryz.checked) (os := os) (X := fun w _ => laidMetH Tryz.prog Rows.updateNilRow.laid w) false (laidU os) #[.agg #[.int .i64 0, .int .i64 0, .string ⟨#[]⟩, .slice none 0 0, .slice none 0 0]] 8 (laidU_os _)
      (World.shaped_of_ZipB (by kernel_rfl) (by kernel_rfl)) (by kernel_rfl) (by kernel_rfl) (by kernel_rfl) (laidU_metN os _)) ?_
  intro W base args ds gs before hval0 hW hsz0 hL hSh
  have hval : ∀ (j : Nat) t v, Tryz.f4.params[j]? = some t → args[j]? = some v → Value.okWide Tryz.prog W .any base t v := hval0
  have hsz : (DataW.weightsEach Tryz.prog (Tryz.f4.params.toList ++ Rows.updateNilSpec.plain.varTypes Tryz.prog) (ds ++ gs)).all (· ≤ reachBytes) = true := hsz0
  have hW' := hW
  obtain ⟨p, q, hA0, hV, rfl, _, _⟩ := hW
  have hA : DataW.TrodAll enc Tryz.prog W 0 (fun _ => true) true Tryz.f4.params.toList args.toList ds p := hA0
  rw [Tryz.params4] at hA hval hsz
  obtain ⟨v0, d0, rfl, rfl, h0⟩ := trodAll_one hA
  obtain ⟨rfl, rfl⟩ := trodVars_none hV
  clear hA0 hval0 hsz0
  obtain ⟨u, t, rfl, hV1, hS1⟩ := arg_val (j := 0) (hval 0 28 v0 rfl rfl) h0 hsz rfl rfl
  simp only [List.append_nil] at hW'
  have hlt : ∀ x ∈ p, x.block < W.heap.size := fun x hx => by simpa using hW'.lt x (by simpa using hx)
  have hE : EnvU W := env_of hL hSh
  refine (nil_true t u W hV1 hS1 (hid_of hE)).mono fun e W' ⟨he, hb⟩ => ?_
  subst he
  exact ⟨_, rfl, _, _, _, [], _, [], hW', trodAll_mk1 (shut_bool Tryz.underlying4 _), trodAll_mk1 (Below.trod laid_out read_val (of_decide_eq_true (by kernel_rfl)) h0 hb hlt), rfl, hb.frame _, fun h => by cases h⟩
end Go.Proofs.YthgnkhpomhcdkaaGreatDoor
