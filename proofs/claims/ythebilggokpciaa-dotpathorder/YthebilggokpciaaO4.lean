import Derived.Test.YthebilggokpciaaO3
import Derived.Test.YthebilggokpciaaRows
import Derived.SliceStrings
import Derived.SizedLaws
import Derived.Carry
import Derived.ChangeMaps5
/-! The row DotpathOrder. -/
namespace Go.Proofs.Ythebilggokpciaa
open Go Go.ChangeShapes Go.WideShapes Go.ChangeAt Go.RowKit

theorem own : ownKnob Try.prog.godebug = none := by kernel_rfl
theorem laid_out : laidOutB Try.prog = true := by kernel_rfl
theorem e_cells27 : Try.prog.cellsOf 27 = 18 := by kernel_rfl
theorem eighteen_of {cs : List Value} (h : cs.length = 18) : ∃ c0 c1 c2 c3 c4 c5 c6 c7 c8 c9 c10 c11 c12 c13 c14 c15 c16 c17, cs = [c0, c1, c2, c3, c4, c5, c6, c7, c8, c9, c10, c11, c12, c13, c14, c15, c16, c17] := by
  match cs, h with
  | [c0, c1, c2, c3, c4, c5, c6, c7, c8, c9, c10, c11, c12, c13, c14, c15, c16, c17], _ => exact ⟨c0, c1, c2, c3, c4, c5, c6, c7, c8, c9, c10, c11, c12, c13, c14, c15, c16, c17, rfl⟩
theorem six_of {α : Type} {cs : List α} (h : cs.length = 6) : ∃ c0 c1 c2 c3 c4 c5, cs = [c0, c1, c2, c3, c4, c5] := by
  match cs, h with
  | [c0, c1, c2, c3, c4, c5], _ => exact ⟨c0, c1, c2, c3, c4, c5, rfl⟩
theorem five_inj {c0 c1 c2 c3 c4 : Value} {k x : Int} {s : ByteArray} {nm it : Value} (h : [c0, c1, c2, c3, c4] = five k x s nm it) : c0 = .int .i64 k ∧ c1 = .int .i64 x ∧ c2 = .string s ∧ c3 = nm ∧ c4 = it := by
  unfold five at h
  simpa using h
theorem reads_slice {W : World} {v : Value} {l : List ByteArray} (h : Reads W v l) : ∃ a c, v = .slice a l.length c := by
  obtain ⟨a, c, e, _⟩ := h
  exact ⟨a, c, e⟩

theorem open_two {H : Type} {enc : TypeId × Value → H} {W : World} {base : Nat} {spare : Nat → Bool} {held : Bool} (n : Nat) (cs : List Value) (x : DataW H × List MemPlace) (h : DataW.trod enc Try.prog W base spare held n 27 cs = some x) (hw : ∀ k ∈ x.1.weights Try.prog 27, k ≤ reachBytes) :
    ∃ k1 x1 s1 an1 ln1 cn1 ai1 li1 ci1 k2 x2 s2 an2 ln2 cn2 ai2 li2 ci2 k3 x3 s3 an3 ln3 cn3 ai3 li3 ci3 pa ca pb cb pk ck V X Y A B K, cs = [.int .i64 k1, .int .i64 x1, .string s1, .slice an1 ln1 cn1, .slice ai1 li1 ci1, .slice pa (List.length A) ca, .slice pb (List.length B) cb, .int .i64 k2, .int .i64 x2, .string s2, .slice an2 ln2 cn2, .slice ai2 li2 ci2, .int .i64 k3, .int .i64 x3, .string s3, .slice an3 ln3 cn3, .slice ai3 li3 ci3, .slice pk (List.length K) ck] ∧ VRep W V (five k1 x1 s1 (.slice an1 ln1 cn1) (.slice ai1 li1 ci1)) ∧ SmallT V ∧ VRep W X (five k2 x2 s2 (.slice an2 ln2 cn2) (.slice ai2 li2 ci2)) ∧ SmallT X ∧ VRep W Y (five k3 x3 s3 (.slice an3 ln3 cn3) (.slice ai3 li3 ci3)) ∧ SmallT Y ∧ Reads W (.slice pa (List.length A) ca) A ∧ Sized A ∧ Reads W (.slice pb (List.length B) cb) B ∧ Sized B ∧ Reads W (.slice pk (List.length K) ck) K ∧ Sized K := by
  obtain ⟨xs, m, rfl, hx, hlen, hxl, hf⟩ := DataW.trod_struct Try.underlying27 h
  subst hx
  rw [e_cells27] at hlen
  obtain ⟨c0, c1, c2, c3, c4, c5, c6, c7, c8, c9, c10, c11, c12, c13, c14, c15, c16, c17, rfl⟩ := eighteen_of hlen
  obtain ⟨x0, x1, x2, x3, x4, x5, rfl⟩ := six_of hxl
  have f0 : DataW.trod enc Try.prog W base spare held m 25 (([c0, c1, c2, c3, c4, c5, c6, c7, c8, c9, c10, c11, c12, c13, c14, c15, c16, c17].drop 0).take (Try.prog.cellsOf 25)) = some x0 := hf 0 _ rfl
  rw [e_cells25] at f0
  have w0 : ∀ k ∈ x0.1.weights Try.prog 25, k ≤ reachBytes := fun k hk => hw k (by simp [DataW.weights, Try.underlying27, DataW.weightsEach, hk])
  have f1 : DataW.trod enc Try.prog W base spare held m 22 (([c0, c1, c2, c3, c4, c5, c6, c7, c8, c9, c10, c11, c12, c13, c14, c15, c16, c17].drop 5).take (Try.prog.cellsOf 22)) = some x1 := hf 1 _ rfl
  rw [e_cells22] at f1
  have w1 : ∀ k ∈ x1.1.weights Try.prog 22, k ≤ reachBytes := fun k hk => hw k (by simp [DataW.weights, Try.underlying27, DataW.weightsEach, hk])
  have f2 : DataW.trod enc Try.prog W base spare held m 22 (([c0, c1, c2, c3, c4, c5, c6, c7, c8, c9, c10, c11, c12, c13, c14, c15, c16, c17].drop 6).take (Try.prog.cellsOf 22)) = some x2 := hf 2 _ rfl
  rw [e_cells22] at f2
  have w2 : ∀ k ∈ x2.1.weights Try.prog 22, k ≤ reachBytes := fun k hk => hw k (by simp [DataW.weights, Try.underlying27, DataW.weightsEach, hk])
  have f3 : DataW.trod enc Try.prog W base spare held m 25 (([c0, c1, c2, c3, c4, c5, c6, c7, c8, c9, c10, c11, c12, c13, c14, c15, c16, c17].drop 7).take (Try.prog.cellsOf 25)) = some x3 := hf 3 _ rfl
  rw [e_cells25] at f3
  have w3 : ∀ k ∈ x3.1.weights Try.prog 25, k ≤ reachBytes := fun k hk => hw k (by simp [DataW.weights, Try.underlying27, DataW.weightsEach, hk])
  have f4 : DataW.trod enc Try.prog W base spare held m 25 (([c0, c1, c2, c3, c4, c5, c6, c7, c8, c9, c10, c11, c12, c13, c14, c15, c16, c17].drop 12).take (Try.prog.cellsOf 25)) = some x4 := hf 4 _ rfl
  rw [e_cells25] at f4
  have w4 : ∀ k ∈ x4.1.weights Try.prog 25, k ≤ reachBytes := fun k hk => hw k (by simp [DataW.weights, Try.underlying27, DataW.weightsEach, hk])
  have f5 : DataW.trod enc Try.prog W base spare held m 22 (([c0, c1, c2, c3, c4, c5, c6, c7, c8, c9, c10, c11, c12, c13, c14, c15, c16, c17].drop 17).take (Try.prog.cellsOf 22)) = some x5 := hf 5 _ rfl
  rw [e_cells22] at f5
  have w5 : ∀ k ∈ x5.1.weights Try.prog 22, k ≤ reachBytes := fun k hk => hw k (by simp [DataW.weights, Try.underlying27, DataW.weightsEach, hk])
  obtain ⟨t1, hV1, hS1⟩ := open_small m _ _ f0 w0
  obtain ⟨k1, x1, s1, an1, ln1, cn1, ai1, li1, ci1, e1⟩ := vrep_five hV1
  have hV1' : VRep W t1 (five k1 x1 s1 (.slice an1 ln1 cn1) (.slice ai1 li1 ci1)) := by rw [← e1]; exact hV1
  obtain ⟨rfl, rfl, rfl, rfl, rfl⟩ := five_inj (show [c0, c1, c2, c3, c4] = _ from e1)
  obtain ⟨lA, hRA, -, zA⟩ := reads_small (v := c5) f1 w1
  obtain ⟨pa, ca, rfl⟩ := reads_slice hRA
  obtain ⟨lB, hRB, -, zB⟩ := reads_small (v := c6) f2 w2
  obtain ⟨pb, cb, rfl⟩ := reads_slice hRB
  obtain ⟨t2, hV2, hS2⟩ := open_small m _ _ f3 w3
  obtain ⟨k2, x2, s2, an2, ln2, cn2, ai2, li2, ci2, e2⟩ := vrep_five hV2
  have hV2' : VRep W t2 (five k2 x2 s2 (.slice an2 ln2 cn2) (.slice ai2 li2 ci2)) := by rw [← e2]; exact hV2
  obtain ⟨rfl, rfl, rfl, rfl, rfl⟩ := five_inj (show [c7, c8, c9, c10, c11] = _ from e2)
  obtain ⟨t3, hV3, hS3⟩ := open_small m _ _ f4 w4
  obtain ⟨k3, x3, s3, an3, ln3, cn3, ai3, li3, ci3, e3⟩ := vrep_five hV3
  have hV3' : VRep W t3 (five k3 x3 s3 (.slice an3 ln3 cn3) (.slice ai3 li3 ci3)) := by rw [← e3]; exact hV3
  obtain ⟨rfl, rfl, rfl, rfl, rfl⟩ := five_inj (show [c12, c13, c14, c15, c16] = _ from e3)
  obtain ⟨lK, hRK, -, zK⟩ := reads_small (v := c17) f5 w5
  obtain ⟨pk, ck, rfl⟩ := reads_slice hRK
  exact ⟨k1, x1, s1, an1, ln1, cn1, ai1, li1, ci1, k2, x2, s2, an2, ln2, cn2, ai2, li2, ci2, k3, x3, s3, an3, ln3, cn3, ai3, li3, ci3, pa, ca, pb, cb, pk, ck, t1, t2, t3, lA, lB, lK, rfl, hV1', hS1, hV2', hS2, hV3', hS3, hRA, fun s hs => by have := zA s hs; omega, hRB, fun s hs => by have := zB s hs; omega, hRK, fun s hs => by have := zK s hs; omega⟩

set_option maxRecDepth 100000 in
theorem order_lifted (os : Os) (started : os.Started) (H : Type) (enc : TypeId × Value → H) :
    ReturnsInHanded {} Try.checked os 3 .any (Rows.dotpathOrderSpec.pre6 enc Try.prog Try.f3 Rows.dotpathOrderRow.domain false)
      (Rows.dotpathOrderSpec.post enc Try.prog Try.f3 false true false false) := by
  refine returnsInHanded_of_change_sized (C := Try.checked) own started (by kernel_rfl) Try.func3
    (ChangeSpec.witness6 (enc := enc) (C := Try.checked) false ⟨#[], #[.agg #[.int .i64 0, .int .i64 0, .string ⟨#[]⟩, .slice none 0 0, .slice none 0 0, .slice none 0 0, .slice none 0 0, .int .i64 0, .int .i64 0, .string ⟨#[]⟩, .slice none 0 0, .slice none 0 0, .int .i64 0, .int .i64 0, .string ⟨#[]⟩, .slice none 0 0, .slice none 0 0, .slice none 0 0]], []⟩ 8 (by kernel_rfl) (by kernel_rfl) (by kernel_rfl) (by kernel_rfl)) ?_
  intro W base args ds gs before hval0 hW _ hsz0 _
  have hval : ∀ (j : Nat) t v, Try.f3.params[j]? = some t → args[j]? = some v → Value.okWide Try.prog W .any base t v := hval0
  have hsz : (DataW.weightsEach Try.prog (Try.f3.params.toList ++ Rows.dotpathOrderSpec.plain.varTypes Try.prog) (ds ++ gs)).all (· ≤ reachBytes) = true := hsz0
  have hW' := hW
  obtain ⟨p, q, hA0, hV, rfl, _, _⟩ := hW
  have hA : DataW.TrodAll enc Try.prog W 0 (fun _ => true) true Try.f3.params.toList args.toList ds p := hA0
  rw [Try.params3] at hA hval hsz
  obtain ⟨v0, d0, rfl, rfl, h0⟩ := trodAll_one hA
  obtain ⟨rfl, rfl⟩ := trodVars_none hV
  clear hA0 hval0 hsz0
  obtain ⟨cs, rfl, _⟩ := okWide_struct Try.underlying27 (hval 0 27 v0 rfl rfl)
  obtain ⟨fuel, hf⟩ := id h0
  obtain ⟨k1, x1, s1, an1, ln1, cn1, ai1, li1, ci1, k2, x2, s2, an2, ln2, cn2, ai2, li2, ci2, k3, x3, s3, an3, ln3, cn3, ai3, li3, ci3, pa, ca, pb, cb, pk, ck, t1, t2, t3, lA, lB, lK, e, hV1, hS1, hV2, hS2, hV3, hS3, hRA, zA, hRB, zB, hRK, zK⟩ := open_two fuel _ _ hf (fun k hk => of_decide_eq_true (List.all_eq_true.1 hsz _ (DataW.weights_mem_each (j := 0) rfl rfl k hk)))
  have ecs : cs = #[.int .i64 k1, .int .i64 x1, .string s1, .slice an1 ln1 cn1, .slice ai1 li1 ci1, .slice pa lA.length ca, .slice pb lB.length cb, .int .i64 k2, .int .i64 x2, .string s2, .slice an2 ln2 cn2, .slice ai2 li2 ci2, .int .i64 k3, .int .i64 x3, .string s3, .slice an3 ln3 cn3, .slice ai3 li3 ci3, .slice pk lK.length ck] := by
    rw [show cs = cs.toList.toArray by simp]
    exact congrArg List.toArray e
  subst ecs
  simp only [List.append_nil] at hW'
  have hlt : ∀ x ∈ p, x.block < W.heap.size := fun x hx => by simpa using hW'.lt x (by simpa using hx)
  refine (order_true k1 x1 s1 an1 ln1 cn1 ai1 li1 ci1 k2 x2 s2 an2 ln2 cn2 ai2 li2 ci2 k3 x3 s3 an3 ln3 cn3 ai3 li3 ci3 pa ca pb cb pk ck t1 t2 t3 lA lB lK W (hid_f hV1) (hid_f hV2) (hid_f hV3) (hid_f hS1) (hid_f hS2) (hid_f hRA) (hid_f hRB) (hid_f hRK) (hid_f zA) (hid_f zB) (hid_f zK) (hid_f hS3)).mono fun e W' ⟨he, hb⟩ => ?_
  subst he
  exact ⟨_, rfl, _, _, _, [], _, [], hW', trodAll_mk1 (shut_bool Try.underlying4 _), trodAll_mk1 (Below.trod laid_out (by kernel_rfl) (of_decide_eq_true (by kernel_rfl)) h0 hb hlt), rfl, hb.frame _, fun h => by cases h⟩

theorem order_holds : Rows.DotpathOrderSaid :=
  OpenClaim.holds_of_wide 3 Try.f3 rfl rfl rfl rfl rfl rfl rfl ⟨rfl, rfl, rfl, rfl, rfl⟩ rfl rfl rfl rfl rfl (by kernel_rfl) Try.func3 (by kernel_rfl)
    (of_decide_eq_true (by kernel_rfl)) (by unfold Func.isWrapper; first | (rw [if_pos (by decide +kernel)]; kernel_rfl) | (rw [if_neg (by decide +kernel)]; exact ⟨rfl, rfl⟩))
    (fun os started H enc _ => order_lifted os started H enc)
#print axioms order_holds
end Go.Proofs.Ythebilggokpciaa
