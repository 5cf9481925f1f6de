import Derived.Test.YtbcfkajcmbckbaaGreatDoorPE
import Derived.Test.YtbcfkajcmbckbaaGreatDoorOD
/-! The row SchemaRest. -/
namespace Go.Proofs.YtbcfkajcmbckbaaGreatDoor
open Go Go.ChangeShapes Go.WideShapes Go.ChangeAt Go.RowKit

theorem laid_outR : laidOutB Tryz.prog = true := by kernel_rfl
theorem read_rest : Tryz.prog.readableRec 27 = true := by kernel_rfl
theorem e_cellsR : Tryz.prog.cellsOf 27 = 16 := by kernel_rfl
theorem e_cellsV : Tryz.prog.cellsOf 25 = 5 := by kernel_rfl
theorem e_cellsS : Tryz.prog.cellsOf 9 = 1 := by kernel_rfl
theorem sixteen_of : {l : List Value} → l.length = 16 → ∃ c0 c1 c2 c3 c4 c5 c6 c7 c8 c9 c10 c11 c12 c13 c14 c15, l = [c0, c1, c2, c3, c4, c5, c6, c7, c8, c9, c10, c11, c12, c13, c14, c15]
  | [c0, c1, c2, c3, c4, c5, c6, c7, c8, c9, c10, c11, c12, c13, c14, c15], _ => ⟨c0, c1, c2, c3, c4, c5, c6, c7, c8, c9, c10, c11, c12, c13, c14, c15, rfl⟩
theorem fourR_of {α : Type} : {l : List α} → l.length = 4 → ∃ a b c d, l = [a, b, c, d]
  | [a, b, c, d], _ => ⟨a, b, c, d, rfl⟩
set_option maxRecDepth 100000 in
theorem open_rest {H : Type} {enc : TypeId × Value → H} {W : World} {base : Nat} {spare : Nat → Bool} {held : Bool} (n : Nat) (cs : List Value) (x : DataW H × List MemPlace) (h : DataW.trod enc Tryz.prog W base spare held n 27 cs = some x) (hw : ∀ k ∈ x.1.weights Tryz.prog 27, k ≤ reachBytes) :
    ∃ (up uv ux : V5) (s : ByteArray) (tp tv tx : Tr), cs = up.cs ++ (uv.cs ++ (.string s :: ux.cs)) ∧ (VRep W tp up.cs ∧ SmallT tp ∧ RangeT tp) ∧ (VRep W tv uv.cs ∧ SmallT tv) ∧ (VRep W tx ux.cs ∧ SmallT tx) ∧ s.size ≤ 140737488351232 := by
  obtain ⟨xs, m, rfl, hx, hlen, hxl, hf⟩ := DataW.trod_struct Tryz.underlying27 h
  subst hx
  rw [e_cellsR] at hlen
  obtain ⟨c0, c1, c2, c3, c4, c5, c6, c7, c8, c9, c10, c11, c12, c13, c14, c15, rfl⟩ := sixteen_of hlen
  obtain ⟨x0, x1, x2, x3, rfl⟩ := fourR_of hxl
  have f0 : DataW.trod enc Tryz.prog W base spare held m 25 (([c0, c1, c2, c3, c4, c5, c6, c7, c8, c9, c10, c11, c12, c13, c14, c15].drop 0).take (Tryz.prog.cellsOf 25)) = some x0 := hf 0 _ rfl
  rw [e_cellsV] at f0
  have w0 : ∀ k ∈ x0.1.weights Tryz.prog 25, k ≤ reachBytes := fun k hk => hw k (by simp [DataW.weights, Tryz.underlying27, DataW.weightsEach, hk])
  have f1 : DataW.trod enc Tryz.prog W base spare held m 25 (([c0, c1, c2, c3, c4, c5, c6, c7, c8, c9, c10, c11, c12, c13, c14, c15].drop 5).take (Tryz.prog.cellsOf 25)) = some x1 := hf 1 _ rfl
  rw [e_cellsV] at f1
  have w1 : ∀ k ∈ x1.1.weights Tryz.prog 25, k ≤ reachBytes := fun k hk => hw k (by simp [DataW.weights, Tryz.underlying27, DataW.weightsEach, hk])
  have f2 : DataW.trod enc Tryz.prog W base spare held m 9 (([c0, c1, c2, c3, c4, c5, c6, c7, c8, c9, c10, c11, c12, c13, c14, c15].drop 10).take (Tryz.prog.cellsOf 9)) = some x2 := hf 2 _ rfl
  rw [e_cellsS] at f2
  have w2 : ∀ k ∈ x2.1.weights Tryz.prog 9, k ≤ reachBytes := fun k hk => hw k (by simp [DataW.weights, Tryz.underlying27, DataW.weightsEach, hk])
  have f3 : DataW.trod enc Tryz.prog W base spare held m 25 (([c0, c1, c2, c3, c4, c5, c6, c7, c8, c9, c10, c11, c12, c13, c14, c15].drop 11).take (Tryz.prog.cellsOf 25)) = some x3 := hf 3 _ rfl
  rw [e_cellsV] at f3
  have w3 : ∀ k ∈ x3.1.weights Tryz.prog 25, k ≤ reachBytes := fun k hk => hw k (by simp [DataW.weights, Tryz.underlying27, DataW.weightsEach, hk])
  obtain ⟨s, hs, hx2, -⟩ := DataW.trod_string Tryz.underlying9 f2
  obtain ⟨tp, hVp, hSp, hRp⟩ := open_range m _ _ f0 w0
  obtain ⟨tv, hVv, hSv, -⟩ := open_range m _ _ f1 w1
  obtain ⟨tx, hVx, hSx, -⟩ := open_range m _ _ f3 w3
  obtain ⟨up, ep⟩ := vrep_v5 hVp
  obtain ⟨uv, ev⟩ := vrep_v5 hVv
  obtain ⟨ux, ex⟩ := vrep_v5 hVx
  rw [ep] at hVp
  rw [ev] at hVv
  rw [ex] at hVx
  have hss : s.size ≤ 140737488351232 := by
    rw [hx2] at w2
    exact w2 s.size (by simp [DataW.weights])
  refine ⟨up, uv, ux, s, tp, tv, tx, ?_, ⟨hVp, hSp, hRp⟩, ⟨hVv, hSv⟩, ⟨hVx, hSx⟩, hss⟩
  rw [← ep, ← ev, ← ex]
  have hs' : [c10] = [Value.string s] := hs
  injection hs' with e1 _
  rw [← e1]
  rfl
set_option maxRecDepth 100000 in
theorem rest_lifted (os : Os) (started : os.Started) (H : Type) (enc : TypeId × Value → H) :
    ReturnsInHanded {} Tryz.checked os 3 .any (fun w args => (Rows.schemaRestSpec.pre enc Tryz.prog Tryz.f3 [] false w args ∧ laidMetH Tryz.prog Rows.schemaRestRow.laid w) ∧ sizedMet enc Tryz.prog Tryz.f3 (OpenSpec.ofChange Rows.schemaRestSpec) false w args)
      (Rows.schemaRestSpec.post enc Tryz.prog Tryz.f3 false true false false) := by
  refine handed_shaped (C := Tryz.checked) (X := fun w _ => laidMetH Tryz.prog Rows.schemaRestRow.laid w) (fun _ _ _ hh h => h.of_heap hh) own_knob started (by kernel_rfl) Tryz.func3
    (ChangeSpec.witness_shaped (enc := enc) (C := Tryz.checked) (os := os) (X := fun w _ => laidMetH Tryz.prog Rows.schemaRestRow.laid w) false (World.laidAll Tryz.prog os Rows.schemaRestRow.laid) #[.agg #[.int .i64 0, .int .i64 0, .string ⟨#[]⟩, .slice none 0 0, .slice none 0 0, .int .i64 0, .int .i64 0, .string ⟨#[]⟩, .slice none 0 0, .slice none 0 0, .string ⟨#[]⟩, .int .i64 0, .int .i64 0, .string ⟨#[]⟩, .slice none 0 0, .slice none 0 0]] 8 (World.laidAll_os _ _ _)
      (World.shaped_of_ZipB (by kernel_rfl) (by kernel_rfl)) (by kernel_rfl) (by kernel_rfl) (by kernel_rfl)
      (by rw [MakeChecks.laidMetH_plain _ _ _ (by kernel_rfl)]; exact laidMet_laidAll _ (by kernel_rfl) (by kernel_rfl))) ?_
  intro W base args ds gs before hval0 hW hsz0 hL hSh
  have hval : ∀ (j : Nat) t v, Tryz.f3.params[j]? = some t → args[j]? = some v → Value.okWide Tryz.prog W .any base t v := hval0
  have hsz : (DataW.weightsEach Tryz.prog (Tryz.f3.params.toList ++ Rows.schemaRestSpec.plain.varTypes Tryz.prog) (ds ++ gs)).all (· ≤ reachBytes) = true := hsz0
  have hPw := pow_of_shape hSh
  have hW' := hW
  obtain ⟨p, q, hA0, hV, rfl, _, _⟩ := hW
  have hA : DataW.TrodAll enc Tryz.prog W 0 (fun _ => true) true Tryz.f3.params.toList args.toList ds p := hA0
  rw [Tryz.params3] at hA hval hsz
  obtain ⟨v0, d0, rfl, rfl, h0⟩ := trodAll_one hA
  obtain ⟨rfl, rfl⟩ := trodVars_none hV
  clear hA0 hval0 hsz0
  obtain ⟨cs, rfl, _⟩ := okWide_struct Tryz.underlying27 (hval 0 27 v0 rfl rfl)
  have h0' := h0
  obtain ⟨fuel, hf⟩ := h0'
  obtain ⟨up, uv, ux, s, tp, tv, tx, hcs, ⟨hVp, hSp, hRp⟩, ⟨hVv, hSv⟩, ⟨hVx, hSx⟩, hss⟩ := open_rest fuel _ _ hf (fun k hk => of_decide_eq_true (List.all_eq_true.1 hsz _ (DataW.weights_mem_each (j := 0) rfl rfl k hk)))
  simp only [List.append_nil] at hW'
  have hlt : ∀ x ∈ p, x.block < W.heap.size := fun x hx => by simpa using hW'.lt x (by simpa using hx)
  rw [MakeChecks.laidMetH_plain _ _ _ (by kernel_rfl)] at hL
  have hE := env_of hL (.tail _ (.tail _ (.head _))) (.head _) (.tail _ (.head _))
  have hr := rest_true tp tv tx up uv ux s W (hid_of hVp) (hid_of hSp) (hid_of hRp) (hid_of hVv) (hid_of hSv) (hid_of hVx) (hid_of hSx) (hid_of hss) (hid_of hE) (hid_of hPw)
  have hc2 : cs = #[.int .i64 up.k, .int .i64 up.x, .string up.s, .slice up.an up.ln up.cn, .slice up.ai up.li up.ci, .int .i64 uv.k, .int .i64 uv.x, .string uv.s, .slice uv.an uv.ln uv.cn, .slice uv.ai uv.li uv.ci, .string s, .int .i64 ux.k, .int .i64 ux.x, .string ux.s, .slice ux.an ux.ln ux.cn, .slice ux.ai ux.li ux.ci] := by
    have e : cs.toList = _ := hcs
    rw [show cs = cs.toList.toArray by simp, e]
    rfl
  rw [hc2]
  rw [hc2] at h0
  refine hr.mono fun e W' ⟨he, hb⟩ => ?_
  subst he
  rw [hc2] at hW'
  exact ⟨_, rfl, _, _, _, [], _, [], hW', trodAll_mk1 (shut_bool Tryz.underlying4 _), trodAll_mk1 (Below.trod laid_outR read_rest (of_decide_eq_true (by kernel_rfl)) h0 hb hlt), rfl, hb.frame _, fun h => by cases h⟩
theorem rest_holds : Rows.SchemaRestSaid :=
  OpenClaim.holds_of_wide 3 Tryz.f3 rfl rfl rfl rfl rfl rfl rfl ⟨rfl, rfl, rfl, rfl, rfl⟩ rfl rfl rfl rfl rfl (by kernel_rfl) Tryz.func3 (by kernel_rfl)
    (of_decide_eq_true (by kernel_rfl)) (by unfold Func.isWrapper; first | (rw [if_pos (by decide +kernel)]; kernel_rfl) | (rw [if_neg (by decide +kernel)]; exact ⟨rfl, rfl⟩))
    (fun os started H enc _ => rest_lifted os started H enc)
end Go.Proofs.YtbcfkajcmbckbaaGreatDoor
