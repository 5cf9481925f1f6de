import Derived.Test.YtccfpbnkeaoicaaDoorN4
import Derived.Test.YtccfpbnkeaoicaaDoorIC
/-! The row IdentSums. -/
namespace Go.Proofs.YtccfpbnkeaoicaaDoor
open Go Go.ChangeShapes Go.WideShapes Go.ChangeAt Go.RowKit
theorem sums_cells : Tryd.prog.cellsOf 38 = 5 := by kernel_rfl
theorem open_sums {H : Type} {enc : TypeId × Value → H} {W : World} {base : Nat} {spare : Nat → Bool} {held : Bool} (n : Nat) (cs : List Value) (x : DataW H × List MemPlace) (h : DataW.trod enc Tryd.prog W base spare held n 38 cs = some x) (hw : ∀ k ∈ x.1.weights Tryd.prog 38, k ≤ reachBytes) :
    ∃ (s0 : ByteArray) (s1 : ByteArray) (i2 : Int) (n3 : Nat) (i4 : Int), cs = [.string s0, .string s1, .int .i64 i2, .int .u64 (n3 : Nat), .int .i64 i4] ∧ s0.size ≤ reachBytes ∧ s1.size ≤ reachBytes ∧ n3 < M64 := by
  obtain ⟨xs, m, rfl, hx, hlen, hxl, hf⟩ := DataW.trod_struct Tryd.underlying38 h
  subst hx
  rw [sums_cells] at hlen
  obtain ⟨c0, c1, c2, c3, c4, rfl⟩ := five_list hlen
  obtain ⟨x0, x1, x2, x3, x4, rfl⟩ := five_list hxl
  have f0 : DataW.trod enc Tryd.prog W base spare held m 9 (([c0, c1, c2, c3, c4].drop 0).take (Tryd.prog.cellsOf 9)) = some x0 := hf 0 _ rfl
  rw [cStr] at f0
  have f1 : DataW.trod enc Tryd.prog W base spare held m 9 (([c0, c1, c2, c3, c4].drop 1).take (Tryd.prog.cellsOf 9)) = some x1 := hf 1 _ rfl
  rw [cStr] at f1
  have f2 : DataW.trod enc Tryd.prog W base spare held m 3 (([c0, c1, c2, c3, c4].drop 2).take (Tryd.prog.cellsOf 3)) = some x2 := hf 2 _ rfl
  rw [cInt] at f2
  have f3 : DataW.trod enc Tryd.prog W base spare held m 22 (([c0, c1, c2, c3, c4].drop 3).take (Tryd.prog.cellsOf 22)) = some x3 := hf 3 _ rfl
  rw [cU64] at f3
  have f4 : DataW.trod enc Tryd.prog W base spare held m 3 (([c0, c1, c2, c3, c4].drop 4).take (Tryd.prog.cellsOf 3)) = some x4 := hf 4 _ rfl
  rw [cInt] at f4
  have w0 : ∀ k ∈ x0.1.weights Tryd.prog 9, k ≤ reachBytes := fun k hk => hw k (by simp [DataW.weights, Tryd.underlying38, DataW.weightsEach, hk])
  have w1 : ∀ k ∈ x1.1.weights Tryd.prog 9, k ≤ reachBytes := fun k hk => hw k (by simp [DataW.weights, Tryd.underlying38, DataW.weightsEach, hk])
  obtain ⟨s0, e0, rfl, -⟩ := DataW.trod_string Tryd.underlying9 f0
  obtain rfl : c0 = .string s0 := (List.cons.inj e0).1
  have hz0 : s0.size ≤ reachBytes := w0 _ (by simp [DataW.weights])
  obtain ⟨s1, e1, rfl, -⟩ := DataW.trod_string Tryd.underlying9 f1
  obtain rfl : c1 = .string s1 := (List.cons.inj e1).1
  have hz1 : s1.size ≤ reachBytes := w1 _ (by simp [DataW.weights])
  obtain ⟨i2, e2, rfl, -⟩ := DataW.trod_int Tryd.underlying3 f2
  obtain rfl : c2 = .int .i64 i2 := (List.cons.inj e2).1
  obtain ⟨j3, e3, rfl, hw3⟩ := DataW.trod_int Tryd.underlying22 f3
  obtain rfl : c3 = .int .u64 j3 := (List.cons.inj e3).1
  obtain ⟨n3, rfl, hn3⟩ := u64_wf hw3
  obtain ⟨i4, e4, rfl, -⟩ := DataW.trod_int Tryd.underlying3 f4
  obtain rfl : c4 = .int .i64 i4 := (List.cons.inj e4).1
  exact ⟨s0, s1, i2, n3, i4, rfl, hz0, hz1, hn3⟩
set_option maxRecDepth 100000 in
theorem sums_lifted (os : Os) (started : os.Started) (H : Type) (enc : TypeId × Value → H) :
    ReturnsInHanded {} Tryd.checked os 6 .any (fun w args => (Rows.identSumsSpec.pre enc Tryd.prog Tryd.f6 [] false w args ∧ laidMetH Tryd.prog Rows.identSumsRow.laid w) ∧ sizedMet enc Tryd.prog Tryd.f6 (OpenSpec.ofChange Rows.identSumsSpec) false w args)
      (Rows.identSumsSpec.post enc Tryd.prog Tryd.f6 false true false false) := by
  refine returnsInHanded_of_change_and (C := Tryd.checked) (X := fun w _ => laidMetH Tryd.prog Rows.identSumsRow.laid w) (fun _ _ _ hh h => h.of_heap hh) own started (by kernel_rfl) Tryd.func6
    (ChangeSpec.witness_shaped (enc := enc) (C := Tryd.checked) (os := os) (X := fun w _ => laidMetH Tryd.prog Rows.identSumsRow.laid w) false (World.laidAll Tryd.prog os Rows.identSumsRow.laid) #[.agg #[.string ⟨#[]⟩, .string ⟨#[]⟩, .int .i64 0, .int .u64 0, .int .i64 0]] 8 (World.laidAll_os _ _ _)
      (World.shaped_of_ZipB (by kernel_rfl) (by kernel_rfl)) (by kernel_rfl) (by kernel_rfl) (by kernel_rfl)
      (by rw [MakeChecks.laidMetH_plain _ _ _ (by kernel_rfl)]; exact laidMet_laidAll _ (by kernel_rfl) (by kernel_rfl))) ?_
  intro W base args ds gs before hval0 hW _ hsz0 hL _
  have hval : ∀ (j : Nat) t v, Tryd.f6.params[j]? = some t → args[j]? = some v → Value.okWide Tryd.prog W .any base t v := hval0
  have hsz : (DataW.weightsEach Tryd.prog (Tryd.f6.params.toList ++ Rows.identSumsSpec.plain.varTypes Tryd.prog) (ds ++ gs)).all (· ≤ reachBytes) = true := hsz0
  have hW' := hW
  obtain ⟨p, q, hA0, hV, rfl, _, _⟩ := hW
  have hA : DataW.TrodAll enc Tryd.prog W 0 (fun _ => true) true Tryd.f6.params.toList args.toList ds p := hA0
  rw [Tryd.params6] at hA hval hsz
  obtain ⟨v0, d0, rfl, rfl, h0⟩ := trodAll_one hA
  obtain ⟨rfl, rfl⟩ := trodVars_none hV
  obtain ⟨cs, rfl, _⟩ := okWide_struct Tryd.underlying38 (hval 0 38 v0 rfl rfl)
  obtain ⟨fuel, hf⟩ := h0
  obtain ⟨s0, s1, i2, n3, i4, e, hz0, hz1, hn3⟩ := open_sums fuel _ _ hf (fun k hk => of_decide_eq_true (List.all_eq_true.1 hsz _ (DataW.weights_mem_each (j := 0) rfl rfl k hk)))
  have ecs : cs = #[.string s0, .string s1, .int .i64 i2, .int .u64 (n3 : Nat), .int .i64 i4] := by
    rw [show cs = cs.toList.toArray by simp]
    exact congrArg List.toArray e
  subst ecs
  simp only [List.append_nil] at hW'
  have hlt : ∀ x ∈ p, x.block < W.heap.size := fun x hx => by simpa using hW'.lt x (by simpa using hx)
  rw [MakeChecks.laidMetH_plain _ _ _ (by kernel_rfl)] at hL
  refine (sums_true s0 s1 i2 n3 i4 (by unfold reachBytes at *; omega) (by unfold reachBytes at *; omega) hn3 W (env_of hL)).mono fun e W' ⟨he, hb⟩ => ?_
  subst he
  exact ⟨_, rfl, _, _, _, [], _, [], hW', trodAll_mk1 (shut_bool Tryd.underlying4 _), trodAll_mk1 (Below.trod laid_out (by kernel_rfl) (of_decide_eq_true (by kernel_rfl)) ⟨fuel, hf⟩ hb hlt), rfl, hb.frame _, fun h => by cases h⟩
theorem sums_holds : Rows.IdentSumsSaid :=
  OpenClaim.holds_of_wide 6 Tryd.f6 rfl rfl rfl rfl rfl rfl rfl ⟨rfl, rfl, rfl, rfl, rfl⟩ rfl rfl rfl rfl rfl (by kernel_rfl) Tryd.func6 (by kernel_rfl)
    (of_decide_eq_true (by kernel_rfl)) (by unfold Func.isWrapper; first | (rw [if_pos (by decide +kernel)]; kernel_rfl) | (rw [if_neg (by decide +kernel)]; exact ⟨rfl, rfl⟩))
    (fun os started H enc _ => sums_lifted os started H enc)
end Go.Proofs.YtccfpbnkeaoicaaDoor
