import Derived.Test.YtoacdffpepnkcabD10
import Derived.Test.YtoacdffpepnkcabRows
import Derived.SliceStrings
import Derived.SizedLaws
import Derived.Carry
import Derived.ChangeMaps5
/-! The row DotpathTexts. -/
namespace Go.Proofs.Ytoacdffpepnkcab
open Go Go.ChangeShapes Go.WideShapes Go.ChangeAt Go.RowKit
open Go.ChangeMaps (open_string shut_string)

theorem own : ownKnob Try.prog.godebug = none := by kernel_rfl
theorem laid_out : laidOutB Try.prog = true := by kernel_rfl
theorem cells9 : Try.prog.cellsOf 9 = 1 := by kernel_rfl
theorem bytes9 : Try.prog.bytesOf 9 = 16 := by kernel_rfl

theorem weights_strs {H : Type} (P : Program) (e : TypeId) : ∀ (l : List ByteArray) (s : ByteArray), s ∈ l → s.size ∈ DataW.weightsAll (H := H) P e (ChangeShapes.strs l)
  | [], s, hs => by cases hs
  | x :: r, s, hs => by
    rw [show ChangeShapes.strs (H := H) (x :: r) = .lit (.string x.data.toList) :: ChangeShapes.strs r from rfl]
    simp only [DataW.weightsAll, DataW.weights, List.mem_append, List.mem_singleton]
    rcases List.mem_cons.1 hs with rfl | h
    · exact .inl (by simp)
    · exact .inr (weights_strs P e r s h)

set_option maxRecDepth 100000 in
theorem texts_lifted (os : Os) (started : os.Started) (H : Type) (enc : TypeId × Value → H) :
    ReturnsInHanded {} Try.checked os 4 .any (Rows.dotpathTextsSpec.pre6 enc Try.prog Try.f4 Rows.dotpathTextsRow.domain false)
      (Rows.dotpathTextsSpec.post enc Try.prog Try.f4 false true false false) := by
  refine returnsInHanded_of_change_sized (C := Try.checked) own started (by kernel_rfl) Try.func4
    (ChangeSpec.witness6 (enc := enc) (C := Try.checked) false ⟨#[], #[.string ⟨#[]⟩, .slice none 0 0, .string ⟨#[]⟩], []⟩ 8 (by kernel_rfl) (by kernel_rfl) (by kernel_rfl) (by kernel_rfl)) ?_
  intro W base args ds gs before hval0 hW _ hsz0 _
  have hval : ∀ (j : Nat) t v, Try.f4.params[j]? = some t → args[j]? = some v → Value.okWide Try.prog W .any base t v := hval0
  have hsz : (DataW.weightsEach Try.prog (Try.f4.params.toList ++ Rows.dotpathTextsSpec.plain.varTypes Try.prog) (ds ++ gs)).all (· ≤ reachBytes) = true := hsz0
  have hW' := hW
  obtain ⟨p, q, hA0, hV, rfl, _, _⟩ := hW
  have hA : DataW.TrodAll enc Try.prog W 0 (fun _ => true) true Try.f4.params.toList args.toList ds p := hA0
  rw [Try.params4] at hA hval hsz
  obtain ⟨v0, v1, v2, d0, d1, d2, p0, p1, p2, rfl, rfl, rfl, h0, h1, h2⟩ := trodAll_three hA
  obtain ⟨rfl, rfl⟩ := trodVars_none hV
  obtain ⟨s0, rfl, rfl, rfl, hs0⟩ := open_string Try.underlying9 (hval 0 9 v0 rfl rfl) h0
  obtain ⟨s2, rfl, rfl, rfl, hs2⟩ := open_string Try.underlying9 (hval 2 9 v2 rfl rfl) h2
  obtain ⟨a1, len, cap, rfl⟩ := okWide_slice Try.underlying22 (hval 1 22 v1 rfl rfl)
  clear hA0 hval0 hsz0
  simp only [List.append_nil, List.nil_append] at hW'
  have hlt : ∀ x ∈ p1, x.block < W.heap.size := fun x hx => by simpa using hW'.lt x (by simpa using hx)
  have hz0 : s0.size ≤ reachBytes := by simpa using sized_string hsz (j := 0) rfl rfl
  have hz2 : s2.size ≤ reachBytes := by simpa using sized_string hsz (j := 2) rfl rfl
  unfold reachBytes at hz0 hz2
  have hread : ∃ l, Reads W (.slice a1 len cap) l ∧ l.length * 16 + 48 ≤ 140737488355328 ∧ Sized l := by
    obtain ⟨fuel, hf⟩ := h1
    rcases open_strings Try.underlying22 Try.underlying9 cells9 hf with ⟨hcs, hx⟩ | ⟨a, len', cap', ss, hcs, _, hl, hm, hz, hx, hcell, hws⟩
    · simp [Value.cells] at hcs
      obtain ⟨rfl, rfl, rfl⟩ := hcs
      exact ⟨[], ⟨none, 0, rfl, ⟨Nat.le_refl _, by omega⟩, .inl rfl⟩, by simp, fun s hs => by cases hs⟩
    · simp [Value.cells] at hcs
      obtain ⟨rfl, rfl, rfl⟩ := hcs
      simp only [Prod.mk.injEq] at hx
      obtain ⟨rfl, rfl⟩ := hx
      simp only [if_true] at hz
      have hreach := sized_slice hsz (j := 1) (t := 22) (e := 9) rfl rfl Try.underlying22
      rw [bytes9] at hreach
      simp only [ChangeShapes.strs, List.length_map, List.length_take, List.length_drop, reachBytes] at hreach
      have htk : (ss.take len).length = len := by simp; omega
      refine ⟨ss.take len, ⟨some a, cap, by rw [htk], ⟨by omega, by unfold maxLen at hm; omega⟩, ?_⟩, by omega, fun s hs => ?_⟩
      · by_cases hl0 : len = 0
        · subst hl0; exact .inl (by simp)
        · obtain ⟨xb, xo, spot⟩ := a
          have hspot : spot = none := by simpa [Addr.add] using World.cell?_spot (hcell 0 (by omega))
          subst hspot
          have hc' : ∀ j, j < ss.length → W.cell? ⟨xb, xo + j, none⟩ = some (.string (ss.getD j ByteArray.empty)) := fun j hj => by
            have := hcell j hj
            rwa [show (⟨xb, xo, none⟩ : Addr).add j = ⟨xb, xo + j, none⟩ by unfold Addr.add; split <;> simp_all] at this
          refine .inr ⟨xb, xo, rfl, cell_lt (hc' 0 (by omega)), fun j s hj => ?_⟩
          have hjl := (List.getElem?_eq_some_iff.1 hj).1
          rw [List.getElem?_take_of_lt (by omega)] at hj
          rw [hc' j (by omega), List.getD_eq_getElem?_getD, hj]
          rfl
      · have hmem := DataW.weights_mem_each (H := H) (P := Try.prog) (ts := [9, 22, 9] ++ Rows.dotpathTextsSpec.plain.varTypes Try.prog) (ds := [.lit (.string s0.data.toList), .slice (ChangeShapes.strs (ss.take len)) (ChangeShapes.strs (ss.drop len)), .lit (.string s2.data.toList)]) (j := 1) (t := 22) (d := .slice (ChangeShapes.strs (ss.take len)) (ChangeShapes.strs (ss.drop len))) rfl rfl s.size (by
          simp only [DataW.weights, Try.underlying22, List.mem_cons, List.mem_append]
          exact .inr (.inl (weights_strs _ _ _ _ hs)))
        have hsmall : s.size ≤ reachBytes := of_decide_eq_true (List.all_eq_true.1 hsz _ hmem)
        exact Nat.le_trans hsmall (by decide)
  obtain ⟨l, hR, hl, hZ⟩ := hread
  refine (texts_true s0 s2 _ l W (by omega) (by omega) hR hl (hid_of hZ)).mono fun e W' ⟨he, hb⟩ => ?_
  subst he
  exact ⟨_, rfl, _, _, _, [], _, [], hW', trodAll_mk1 (shut_bool Try.underlying4 _), trodAll_mk3 (shut_string Try.underlying9 hs0) (Below.trod laid_out (by kernel_rfl) (of_decide_eq_true (by kernel_rfl)) h1 hb hlt) (shut_string Try.underlying9 hs2), rfl, hb.frame _, fun h => by cases h⟩

theorem texts_holds : Rows.DotpathTextsSaid :=
  OpenClaim.holds_of_wide 4 Try.f4 rfl rfl rfl rfl rfl rfl rfl ⟨rfl, rfl, rfl, rfl, rfl⟩ rfl rfl rfl rfl rfl (by kernel_rfl) Try.func4 (by kernel_rfl)
    (of_decide_eq_true (by kernel_rfl)) (by unfold Func.isWrapper; first | (rw [if_pos (by decide +kernel)]; kernel_rfl) | (rw [if_neg (by decide +kernel)]; exact ⟨rfl, rfl⟩))
    (fun os started H enc _ => texts_lifted os started H enc)
end Go.Proofs.Ytoacdffpepnkcab
