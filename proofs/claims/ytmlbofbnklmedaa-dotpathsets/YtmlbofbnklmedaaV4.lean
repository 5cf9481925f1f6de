import Derived.Test.YtmlbofbnklmedaaV3
import Derived.Test.YtmlbofbnklmedaaRows
import Derived.SliceStrings
import Derived.SizedLaws
import Derived.Carry
import Derived.ChangeMaps5
/-! The row DotpathSets. -/
namespace Go.Proofs.Ytmlbofbnklmedaa
open Go Go.ChangeShapes Go.WideShapes Go.ChangeAt Go.RowKit

theorem own : ownKnob Try.prog.godebug = none := by kernel_rfl
theorem laid_out : laidOutB Try.prog = true := by kernel_rfl
theorem e_cellsC : Try.prog.cellsOf 41 = 11 := by kernel_rfl
theorem eleven_of {cs : List Value} (h : cs.length = 11) : ∃ c0 c1 c2 c3 c4 c5 c6 c7 c8 c9 c10, cs = [c0, c1, c2, c3, c4, c5, c6, c7, c8, c9, c10] := by
  match cs, h with
  | [c0, c1, c2, c3, c4, c5, c6, c7, c8, c9, c10], _ => exact ⟨c0, c1, c2, c3, c4, c5, c6, c7, c8, c9, c10, rfl⟩
theorem three_of {α : Type} {cs : List α} (h : cs.length = 3) : ∃ c0 c1 c2, cs = [c0, c1, c2] := by
  match cs, h with
  | [c0, c1, c2], _ => exact ⟨c0, c1, c2, rfl⟩
theorem five_inj {c0 c1 c2 c3 c4 : Value} {k x : Int} {s : ByteArray} {nm it : Value} (h : [c0, c1, c2, c3, c4] = five k x s nm it) : c0 = .int .i64 k ∧ c1 = .int .i64 x ∧ c2 = .string s ∧ c3 = nm ∧ c4 = it := by
  unfold five at h
  simpa using h
theorem reads_slice {W : World} {v : Value} {l : List ByteArray} (h : Reads W v l) : ∃ a c, v = .slice a l.length c := by
  obtain ⟨a, c, e, _⟩ := h
  exact ⟨a, c, e⟩
/-- A list of texts among the arguments. -/
theorem arg_texts {H : Type} {enc : TypeId × Value → H} {W : World} {base : Nat} {v : Value} {d : DataW H} {p : List MemPlace} {ts : List TypeId} {ds : List (DataW H)} {j : Nat} (hok : Value.okWide Try.prog W .any base 22 v)
    (h : DataW.Trod enc Try.prog W 0 (fun _ => true) true 22 v d p) (hsz : (DataW.weightsEach Try.prog ts ds).all (· ≤ reachBytes) = true) (ht : ts[j]? = some 22) (hd : ds[j]? = some d) :
    ∃ a c l, v = .slice a (List.length l) c ∧ Reads W (.slice a (List.length l) c) l ∧ Sized l := by
  obtain ⟨a, len, cap, rfl⟩ := okWide_slice Try.underlying22 hok
  obtain ⟨fuel, hf⟩ := h
  obtain ⟨l, hR, h1, h2⟩ := reads_small hf (fun k hk => of_decide_eq_true (List.all_eq_true.1 hsz _ (DataW.weights_mem_each ht hd k hk)))
  obtain ⟨a', c', e, hc, hA⟩ := id hR
  cases e
  exact ⟨a, cap, l, rfl, hR, fun s hs => by have := h2 s hs; omega⟩

theorem open_change {H : Type} {enc : TypeId × Value → H} {W : World} {base : Nat} {spare : Nat → Bool} {held : Bool} (n : Nat) (cs : List Value) (x : DataW H × List MemPlace) (h : DataW.trod enc Try.prog W base spare held n 41 cs = some x) (hw : ∀ k ∈ x.1.weights Try.prog 41, k ≤ reachBytes) :
    ∃ k1 x1 s1 an1 ln1 cn1 ai1 li1 ci1 k2 x2 s2 an2 ln2 cn2 ai2 li2 ci2 pp cp V X P, cs = [.int .i64 k1, .int .i64 x1, .string s1, .slice an1 ln1 cn1, .slice ai1 li1 ci1, .slice pp (List.length P) cp, .int .i64 k2, .int .i64 x2, .string s2, .slice an2 ln2 cn2, .slice ai2 li2 ci2] ∧ VRep W V (five k1 x1 s1 (.slice an1 ln1 cn1) (.slice ai1 li1 ci1)) ∧ SmallT V ∧ VRep W X (five k2 x2 s2 (.slice an2 ln2 cn2) (.slice ai2 li2 ci2)) ∧ SmallT X ∧ Reads W (.slice pp (List.length P) cp) P ∧ Sized P := by
  obtain ⟨xs, m, rfl, hx, hlen, hxl, hf⟩ := DataW.trod_struct Try.underlying41 h
  subst hx
  rw [e_cellsC] at hlen
  obtain ⟨c0, c1, c2, c3, c4, c5, c6, c7, c8, c9, c10, rfl⟩ := eleven_of hlen
  obtain ⟨x0, x1, x2, rfl⟩ := three_of hxl
  have f0 : DataW.trod enc Try.prog W base spare held m 25 (([c0, c1, c2, c3, c4, c5, c6, c7, c8, c9, c10].drop 0).take (Try.prog.cellsOf 25)) = some x0 := hf 0 _ rfl
  rw [e_cells25] at f0
  have w0 : ∀ k ∈ x0.1.weights Try.prog 25, k ≤ reachBytes := fun k hk => hw k (by simp [DataW.weights, Try.underlying41, DataW.weightsEach, hk])
  have f1 : DataW.trod enc Try.prog W base spare held m 22 (([c0, c1, c2, c3, c4, c5, c6, c7, c8, c9, c10].drop 5).take (Try.prog.cellsOf 22)) = some x1 := hf 1 _ rfl
  rw [e_cells22] at f1
  have w1 : ∀ k ∈ x1.1.weights Try.prog 22, k ≤ reachBytes := fun k hk => hw k (by simp [DataW.weights, Try.underlying41, DataW.weightsEach, hk])
  have f2 : DataW.trod enc Try.prog W base spare held m 25 (([c0, c1, c2, c3, c4, c5, c6, c7, c8, c9, c10].drop 6).take (Try.prog.cellsOf 25)) = some x2 := hf 2 _ rfl
  rw [e_cells25] at f2
  have w2 : ∀ k ∈ x2.1.weights Try.prog 25, k ≤ reachBytes := fun k hk => hw k (by simp [DataW.weights, Try.underlying41, DataW.weightsEach, hk])
  obtain ⟨t1, hV1, hS1⟩ := open_small m _ _ f0 w0
  obtain ⟨k1, x1, s1, an1, ln1, cn1, ai1, li1, ci1, e1⟩ := vrep_five hV1
  have hV1' : VRep W t1 (five k1 x1 s1 (.slice an1 ln1 cn1) (.slice ai1 li1 ci1)) := by rw [← e1]; exact hV1
  obtain ⟨rfl, rfl, rfl, rfl, rfl⟩ := five_inj (show [c0, c1, c2, c3, c4] = _ from e1)
  obtain ⟨lP, hRP, -, zP⟩ := reads_small (v := c5) f1 w1
  obtain ⟨pp, cp, rfl⟩ := reads_slice hRP
  obtain ⟨t2, hV2, hS2⟩ := open_small m _ _ f2 w2
  obtain ⟨k2, x2, s2, an2, ln2, cn2, ai2, li2, ci2, e2⟩ := vrep_five hV2
  have hV2' : VRep W t2 (five k2 x2 s2 (.slice an2 ln2 cn2) (.slice ai2 li2 ci2)) := by rw [← e2]; exact hV2
  obtain ⟨rfl, rfl, rfl, rfl, rfl⟩ := five_inj (show [c6, c7, c8, c9, c10] = _ from e2)
  exact ⟨k1, x1, s1, an1, ln1, cn1, ai1, li1, ci1, k2, x2, s2, an2, ln2, cn2, ai2, li2, ci2, pp, cp, t1, t2, lP, rfl, hV1', hS1, hV2', hS2, hRP, fun s hs => by have := zP s hs; omega⟩

set_option maxRecDepth 100000 in
theorem sets_lifted (os : Os) (started : os.Started) (H : Type) (enc : TypeId × Value → H) :
    ReturnsInHanded {} Try.checked os 5 .any (Rows.dotpathSetsSpec.pre6 enc Try.prog Try.f5 Rows.dotpathSetsRow.domain false)
      (Rows.dotpathSetsSpec.post enc Try.prog Try.f5 false true false false) := by
  refine returnsInHanded_of_change_sized (C := Try.checked) own started (by kernel_rfl) Try.func5
    (ChangeSpec.witness6 (enc := enc) (C := Try.checked) false ⟨#[], #[.agg #[.int .i64 0, .int .i64 0, .string ⟨#[]⟩, .slice none 0 0, .slice none 0 0, .slice none 0 0, .int .i64 0, .int .i64 0, .string ⟨#[]⟩, .slice none 0 0, .slice none 0 0]], []⟩ 8 (by kernel_rfl) (by kernel_rfl) (by kernel_rfl) (by kernel_rfl)) ?_
  intro W base args ds gs before hval0 hW _ hsz0 _
  have hval : ∀ (j : Nat) t v, Try.f5.params[j]? = some t → args[j]? = some v → Value.okWide Try.prog W .any base t v := hval0
  have hsz : (DataW.weightsEach Try.prog (Try.f5.params.toList ++ Rows.dotpathSetsSpec.plain.varTypes Try.prog) (ds ++ gs)).all (· ≤ reachBytes) = true := hsz0
  have hW' := hW
  obtain ⟨p, q, hA0, hV, rfl, _, _⟩ := hW
  have hA : DataW.TrodAll enc Try.prog W 0 (fun _ => true) true Try.f5.params.toList args.toList ds p := hA0
  rw [Try.params5] at hA hval hsz
  obtain ⟨v0, d0, rfl, rfl, h0⟩ := trodAll_one hA
  obtain ⟨rfl, rfl⟩ := trodVars_none hV
  clear hA0 hval0 hsz0
  obtain ⟨cs, rfl, _⟩ := okWide_struct Try.underlying41 (hval 0 41 v0 rfl rfl)
  obtain ⟨fuel, hf⟩ := id h0
  obtain ⟨k1, x1, s1, an1, ln1, cn1, ai1, li1, ci1, k2, x2, s2, an2, ln2, cn2, ai2, li2, ci2, pp, cp, t1, t2, lP, e, hV1, hS1, hV2, hS2, hRP, zP⟩ := open_change fuel _ _ hf (fun k hk => of_decide_eq_true (List.all_eq_true.1 hsz _ (DataW.weights_mem_each (j := 0) rfl rfl k hk)))
  have ecs : cs = #[.int .i64 k1, .int .i64 x1, .string s1, .slice an1 ln1 cn1, .slice ai1 li1 ci1, .slice pp lP.length cp, .int .i64 k2, .int .i64 x2, .string s2, .slice an2 ln2 cn2, .slice ai2 li2 ci2] := by
    rw [show cs = cs.toList.toArray by simp]
    exact congrArg List.toArray e
  subst ecs
  simp only [List.append_nil] at hW'
  have hlt : ∀ x ∈ p, x.block < W.heap.size := fun x hx => by simpa using hW'.lt x (by simpa using hx)
  refine (sets_true k1 x1 s1 an1 ln1 cn1 ai1 li1 ci1 k2 x2 s2 an2 ln2 cn2 ai2 li2 ci2 pp cp t1 t2 lP W (hid_f hV1) (hid_f hV2) (hid_f hS1) (hid_f hS2) (hid_f hRP) (hid_f zP)).mono fun e W' ⟨he, hb⟩ => ?_
  subst he
  exact ⟨_, rfl, _, _, _, [], _, [], hW', trodAll_mk1 (shut_bool Try.underlying4 _), trodAll_mk1 (Below.trod laid_out (by kernel_rfl) (of_decide_eq_true (by kernel_rfl)) h0 hb hlt), rfl, hb.frame _, fun h => by cases h⟩

theorem sets_holds : Rows.DotpathSetsSaid :=
  OpenClaim.holds_of_wide 5 Try.f5 rfl rfl rfl rfl rfl rfl rfl ⟨rfl, rfl, rfl, rfl, rfl⟩ rfl rfl rfl rfl rfl (by kernel_rfl) Try.func5 (by kernel_rfl)
    (of_decide_eq_true (by kernel_rfl)) (by unfold Func.isWrapper; first | (rw [if_pos (by decide +kernel)]; kernel_rfl) | (rw [if_neg (by decide +kernel)]; exact ⟨rfl, rfl⟩))
    (fun os started H enc _ => sets_lifted os started H enc)
#print axioms sets_holds
end Go.Proofs.Ytmlbofbnklmedaa
