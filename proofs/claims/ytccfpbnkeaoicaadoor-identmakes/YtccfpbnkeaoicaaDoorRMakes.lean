import Derived.Test.YtccfpbnkeaoicaaDoorN6
import Derived.Test.YtccfpbnkeaoicaaDoorIC
/-! The row IdentMakes. -/
namespace Go.Proofs.YtccfpbnkeaoicaaDoor
open Go Go.ChangeShapes Go.WideShapes Go.ChangeAt Go.RowKit
theorem makes_cells : Tryd.prog.cellsOf 45 = 4 := by kernel_rfl
theorem open_makes {H : Type} {enc : TypeId × Value → H} {W : World} {base : Nat} {spare : Nat → Bool} {held : Bool} (n : Nat) (cs : List Value) (x : DataW H × List MemPlace) (h : DataW.trod enc Tryd.prog W base spare held n 45 cs = some x) (hw : ∀ k ∈ x.1.weights Tryd.prog 45, k ≤ reachBytes) :
    ∃ (n0 : Nat) (n1 : Nat) (i2 : Int) (s3 : ByteArray), cs = [.int .u64 (n0 : Nat), .int .u64 (n1 : Nat), .int .i64 i2, .string s3] ∧ n0 < M64 ∧ n1 < M64 ∧ s3.size ≤ reachBytes := by
  obtain ⟨xs, m, rfl, hx, hlen, hxl, hf⟩ := DataW.trod_struct Tryd.underlying45 h
  subst hx
  rw [makes_cells] at hlen
  obtain ⟨c0, c1, c2, c3, rfl⟩ := four_list hlen
  obtain ⟨x0, x1, x2, x3, rfl⟩ := four_list hxl
  have f0 : DataW.trod enc Tryd.prog W base spare held m 22 (([c0, c1, c2, c3].drop 0).take (Tryd.prog.cellsOf 22)) = some x0 := hf 0 _ rfl
  rw [cU64] at f0
  have f1 : DataW.trod enc Tryd.prog W base spare held m 22 (([c0, c1, c2, c3].drop 1).take (Tryd.prog.cellsOf 22)) = some x1 := hf 1 _ rfl
  rw [cU64] at f1
  have f2 : DataW.trod enc Tryd.prog W base spare held m 3 (([c0, c1, c2, c3].drop 2).take (Tryd.prog.cellsOf 3)) = some x2 := hf 2 _ rfl
  rw [cInt] at f2
  have f3 : DataW.trod enc Tryd.prog W base spare held m 9 (([c0, c1, c2, c3].drop 3).take (Tryd.prog.cellsOf 9)) = some x3 := hf 3 _ rfl
  rw [cStr] at f3
  have w3 : ∀ k ∈ x3.1.weights Tryd.prog 9, k ≤ reachBytes := fun k hk => hw k (by simp [DataW.weights, Tryd.underlying45, DataW.weightsEach, hk])
  obtain ⟨j0, e0, rfl, hw0⟩ := DataW.trod_int Tryd.underlying22 f0
  obtain rfl : c0 = .int .u64 j0 := (List.cons.inj e0).1
  obtain ⟨n0, rfl, hn0⟩ := u64_wf hw0
  obtain ⟨j1, e1, rfl, hw1⟩ := DataW.trod_int Tryd.underlying22 f1
  obtain rfl : c1 = .int .u64 j1 := (List.cons.inj e1).1
  obtain ⟨n1, rfl, hn1⟩ := u64_wf hw1
  obtain ⟨i2, e2, rfl, -⟩ := DataW.trod_int Tryd.underlying3 f2
  obtain rfl : c2 = .int .i64 i2 := (List.cons.inj e2).1
  obtain ⟨s3, e3, rfl, -⟩ := DataW.trod_string Tryd.underlying9 f3
  obtain rfl : c3 = .string s3 := (List.cons.inj e3).1
  have hz3 : s3.size ≤ reachBytes := w3 _ (by simp [DataW.weights])
  exact ⟨n0, n1, i2, s3, rfl, hn0, hn1, hz3⟩
set_option maxRecDepth 100000 in
theorem makes_lifted (os : Os) (started : os.Started) (H : Type) (enc : TypeId × Value → H) :
    ReturnsInHanded {} Tryd.checked os 7 .any (fun w args => (Rows.identMakesSpec.pre enc Tryd.prog Tryd.f7 [] false w args ∧ laidMetH Tryd.prog Rows.identMakesRow.laid w) ∧ sizedMet enc Tryd.prog Tryd.f7 (OpenSpec.ofChange Rows.identMakesSpec) false w args)
      (Rows.identMakesSpec.post enc Tryd.prog Tryd.f7 false true false false) := by
  refine returnsInHanded_of_change_and (C := Tryd.checked) (X := fun w _ => laidMetH Tryd.prog Rows.identMakesRow.laid w) (fun _ _ _ hh h => h.of_heap hh) own started (by kernel_rfl) Tryd.func7
    (ChangeSpec.witness_shaped (enc := enc) (C := Tryd.checked) (os := os) (X := fun w _ => laidMetH Tryd.prog Rows.identMakesRow.laid w) false (World.laidAll Tryd.prog os Rows.identMakesRow.laid) #[.agg #[.int .u64 0, .int .u64 0, .int .i64 0, .string ⟨#[]⟩]] 8 (World.laidAll_os _ _ _)
      (World.shaped_of_ZipB (by kernel_rfl) (by kernel_rfl)) (by kernel_rfl) (by kernel_rfl) (by kernel_rfl)
      (by rw [MakeChecks.laidMetH_plain _ _ _ (by kernel_rfl)]; exact laidMet_laidAll _ (by kernel_rfl) (by kernel_rfl))) ?_
  intro W base args ds gs before hval0 hW _ hsz0 hL _
  have hval : ∀ (j : Nat) t v, Tryd.f7.params[j]? = some t → args[j]? = some v → Value.okWide Tryd.prog W .any base t v := hval0
  have hsz : (DataW.weightsEach Tryd.prog (Tryd.f7.params.toList ++ Rows.identMakesSpec.plain.varTypes Tryd.prog) (ds ++ gs)).all (· ≤ reachBytes) = true := hsz0
  have hW' := hW
  obtain ⟨p, q, hA0, hV, rfl, _, _⟩ := hW
  have hA : DataW.TrodAll enc Tryd.prog W 0 (fun _ => true) true Tryd.f7.params.toList args.toList ds p := hA0
  rw [Tryd.params7] at hA hval hsz
  obtain ⟨v0, d0, rfl, rfl, h0⟩ := trodAll_one hA
  obtain ⟨rfl, rfl⟩ := trodVars_none hV
  obtain ⟨cs, rfl, _⟩ := okWide_struct Tryd.underlying45 (hval 0 45 v0 rfl rfl)
  obtain ⟨fuel, hf⟩ := h0
  obtain ⟨n0, n1, i2, s3, e, hn0, hn1, hz3⟩ := open_makes fuel _ _ hf (fun k hk => of_decide_eq_true (List.all_eq_true.1 hsz _ (DataW.weights_mem_each (j := 0) rfl rfl k hk)))
  have ecs : cs = #[.int .u64 (n0 : Nat), .int .u64 (n1 : Nat), .int .i64 i2, .string s3] := by
    rw [show cs = cs.toList.toArray by simp]
    exact congrArg List.toArray e
  subst ecs
  simp only [List.append_nil] at hW'
  have hlt : ∀ x ∈ p, x.block < W.heap.size := fun x hx => by simpa using hW'.lt x (by simpa using hx)
  rw [MakeChecks.laidMetH_plain _ _ _ (by kernel_rfl)] at hL
  refine (makes_true n0 n1 i2 s3 hn0 hn1 (by unfold reachBytes at *; omega) W (env_of hL)).mono fun e W' ⟨he, hb⟩ => ?_
  subst he
  exact ⟨_, rfl, _, _, _, [], _, [], hW', trodAll_mk1 (shut_bool Tryd.underlying4 _), trodAll_mk1 (Below.trod laid_out (by kernel_rfl) (of_decide_eq_true (by kernel_rfl)) ⟨fuel, hf⟩ hb hlt), rfl, hb.frame _, fun h => by cases h⟩
theorem makes_holds : Rows.IdentMakesSaid :=
  OpenClaim.holds_of_wide 7 Tryd.f7 rfl rfl rfl rfl rfl rfl rfl ⟨rfl, rfl, rfl, rfl, rfl⟩ rfl rfl rfl rfl rfl (by kernel_rfl) Tryd.func7 (by kernel_rfl)
    (of_decide_eq_true (by kernel_rfl)) (by unfold Func.isWrapper; first | (rw [if_pos (by decide +kernel)]; kernel_rfl) | (rw [if_neg (by decide +kernel)]; exact ⟨rfl, rfl⟩))
    (fun os started H enc _ => makes_lifted os started H enc)
end Go.Proofs.YtccfpbnkeaoicaaDoor
