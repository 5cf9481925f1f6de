import Derived.Test.YtbhjbicbgmeboaaQF
import Derived.Test.YtbhjbicbgmeboaaRows
import Derived.SliceStrings
import Derived.SizedLaws
import Derived.Carry
import Derived.ChangeMaps5
import Derived.JoinedCond
/-! The row DotpathClashes, where what it reads is of bulk at most 1048576. -/
namespace Go.Proofs.Ytbhjbicbgmeboaa
open Go Go.ChangeShapes Go.WideShapes Go.ChangeAt Go.RowKit

theorem own : ownKnob Try.prog.godebug = none := by kernel_rfl
theorem laid_out : laidOutB Try.prog = true := by kernel_rfl
theorem e_cells9 : Try.prog.cellsOf 9 = 1 := by kernel_rfl
theorem e_cells22 : Try.prog.cellsOf 22 = 1 := by kernel_rfl
theorem add_off (b o j : Nat) : (⟨b, o, none⟩ : Addr).add j = ⟨b, o + j, none⟩ := by unfold Addr.add; split <;> simp_all
theorem lt_of_cell {W : World} {p : Addr} {v : Value} (h : W.cell? p = some v) : p.block < W.heap.size := by
  rcases Nat.lt_or_ge p.block W.heap.size with h' | h'
  · exact h'
  · simp [World.cell?, Array.getElem?_eq_none h'] at h
theorem strs_len {H : Type} : (l : List ByteArray) → l.length ≤ Rows.uptoBulkAll (ChangeShapes.strs (H := H) l)
  | [] => Nat.zero_le _
  | n :: ns => by
    rw [show ChangeShapes.strs (H := H) (n :: ns) = .lit (.string n.data.toList) :: ChangeShapes.strs ns from rfl, Rows.uptoBulkAll, Rows.uptoBulk, List.length_cons]
    have := strs_len (H := H) ns
    omega
/-- A path that is handed in. -/
theorem reads_b {H : Type} {enc : TypeId × Value → H} {W : World} {base : Nat} {spare : Nat → Bool} {held : Bool} {n : Nat} {v : Value} {x : DataW H × List MemPlace} (hf : DataW.trod enc Try.prog W base spare held n 22 [v] = some x) :
    ∃ a c l, v = .slice a (List.length l) c ∧ Reads W (.slice a (List.length l) c) l ∧ l.length ≤ Rows.uptoBulk x.1 ∧ ∀ s ∈ l, s.size ≤ maxLen := by
  rcases ChangeShapes.open_strings Try.underlying22 Try.underlying9 e_cells9 hf with ⟨hcs, hx⟩ | ⟨a, len, cap, ss, hcs, _, hl, hm, hz, hx, hcell, hws⟩
  · cases hcs
    exact ⟨none, 0, [], rfl, ⟨none, 0, rfl, ⟨Nat.le_refl _, by omega⟩, .inl rfl⟩, Nat.zero_le _, fun s hs => by cases hs⟩
  · cases hcs
    subst hx
    have hz' : len ≤ ss.length := by rw [hz]; split <;> omega
    have htk : (ss.take len).length = len := by simp; omega
    refine ⟨some a, cap, ss.take len, by rw [htk], ⟨some a, cap, rfl, ⟨by omega, by unfold maxLen at hm; omega⟩, ?_⟩, ?_, fun s hs => hws s (List.mem_of_mem_take hs)⟩
    · by_cases hl0 : len = 0
      · subst hl0; exact .inl (by simp)
      · obtain ⟨xb, xo, spot⟩ := a
        have hspot : spot = none := by simpa [Addr.add] using World.cell?_spot (hcell 0 (by omega))
        subst hspot
        have hc' : ∀ j, j < ss.length → W.cell? ⟨xb, xo + j, none⟩ = some (.string (ss.getD j ByteArray.empty)) := fun j hj => by
          have := hcell j hj
          rwa [add_off] at this
        refine .inr ⟨xb, xo, rfl, lt_of_cell (hc' 0 (by omega)), fun j s hj => ?_⟩
        have hjl := (List.getElem?_eq_some_iff.1 hj).1
        rw [List.getElem?_take_of_lt (by omega)] at hj
        rw [hc' j (by omega), List.getD_eq_getElem?_getD, hj]
        rfl
    · rw [Rows.uptoBulk]
      have := strs_len (H := H) (ss.take len)
      omega
theorem one_cell {W : World} {base : Nat} {a : Addr} {cs : List Value} (h : W.cells? base a 1 = some cs) : ∃ u, cs = [u] ∧ W.cell? a = some u := by
  unfold World.cells? at h
  split at h
  · have hl : cs.length = 1 := by simpa using mapM_some_length h
    have := mapM_some_get h 0 0 (by rw [List.getElem?_range (by omega)])
    match cs, hl with
    | [u], _ => exact ⟨u, rfl, by simpa [Addr.add] using this⟩
  · cases h
/-- The paths, one behind the other. -/
theorem paths_of {H : Type} {W : World} : ∀ (es : List (DataW H)) (F : Nat → Value → Prop), (∀ i (_ : i < es.length), ∃ u a' c' l, F i u ∧ u = .slice a' (List.length l) c' ∧ Reads W (.slice a' (List.length l) c') l ∧ l.length ≤ Rows.uptoBulk es[i] ∧ ∀ s ∈ l, s.size ≤ maxLen) → ∃ ls : List Pth, ls.length = es.length ∧ total ls ≤ Rows.uptoBulkAll es ∧ (∀ l ∈ ls, ∀ s ∈ l, s.size ≤ maxLen) ∧ ∀ (j : Nat) l, ls[j]? = some l → ∃ a' c', F j (.slice a' (List.length l) c') ∧ Reads W (.slice a' (List.length l) c') l
  | [], _, _ => ⟨[], rfl, Nat.zero_le _, by simp, fun j l h => by simp at h⟩
  | e :: es, F, h => by
    obtain ⟨u, a', c', l, h1, rfl, h2, h3, h4⟩ := h 0 (by simp)
    obtain ⟨ls, g1, g2, g3, g4⟩ := paths_of (W := W) es (fun i u => F (i + 1) u) (fun i hi => by
      obtain ⟨u, a', c', l, h1, h2⟩ := h (i + 1) (by simpa using hi)
      exact ⟨u, a', c', l, h1, by simpa using h2⟩)
    refine ⟨l :: ls, by simp [g1], ?_, ?_, fun j l' hj => ?_⟩
    · simp only [total, List.map_cons, List.sum_cons, Rows.uptoBulkAll] at g2 ⊢
      have : l.length ≤ Rows.uptoBulk e := by simpa using h3
      omega
    · intro l' hl'
      rcases List.mem_cons.1 hl' with rfl | hl'
      · exact h4
      · exact g3 l' hl'
    · cases j with
      | zero => simp at hj; subst hj; exact ⟨a', c', h1, h2⟩
      | succ j => exact g4 j l' (by simpa using hj)
theorem arg_paths {H : Type} {enc : TypeId × Value → H} {W : World} {v : Value} {d : DataW H} {p : List MemPlace} (h : DataW.Trod enc Try.prog W 0 (fun _ => true) true 40 v d p) (hv : ∃ a n c, v = .slice a n c) :
    ∃ a c ls, v = .slice a (List.length ls) c ∧ ReadsL W (.slice a (List.length ls) c) ls ∧ total ls ≤ Rows.uptoBulk d ∧ ls.length ≤ Rows.uptoBulk d ∧ ∀ l ∈ ls, ∀ s ∈ l, s.size ≤ maxLen := by
  obtain ⟨a, n, c, rfl⟩ := hv
  obtain ⟨fuel, hf⟩ := h
  rcases DataW.trod_slice Try.underlying40 hf with ⟨hcs, hx⟩ | ⟨a1, len, cap, elems, rest, m', rfl, hcs, hx4, hb, hl, hm, hel, he, _, _⟩
  · have e : Value.slice a n c = .slice none 0 0 := by simpa [Value.cells] using hcs
    cases e
    exact ⟨none, 0, [], rfl, ⟨none, 0, rfl, Nat.le_refl _, fun j l hj => by simp at hj⟩, Nat.zero_le _, Nat.zero_le _, by simp⟩
  · have e : Value.slice a n c = .slice (some a1) len cap := by simpa [Value.cells] using hcs
    cases e
    simp only [Prod.mk.injEq] at hx4
    obtain ⟨rfl, -⟩ := hx4
    obtain ⟨ls, g1, g2, g3, g4⟩ := paths_of (H := H) (W := W) (elems.map (·.1)) (fun j u => W.cell? (a1.add j) = some u) (fun i hi => by
      rw [List.length_map, hel] at hi
      have := he i hi
      rw [e_cells22, Nat.mul_one, List.getElem?_eq_getElem (by omega)] at this
      obtain ⟨cs', h1, h2⟩ := Option.bind_eq_some_iff.1 this
      obtain ⟨u, rfl, hu⟩ := one_cell h1
      obtain ⟨a', c', l, e, r1, r2, r3⟩ := reads_b h2
      exact ⟨u, a', c', l, hu, e, r1, by simpa using r2, r3⟩)
    rw [List.length_map, hel] at g1
    subst g1
    have hub : Rows.uptoBulkAll (elems.map (·.1)) ≤ Rows.uptoBulk (DataW.slice (elems.map (·.1)) (rest.map (·.1))) := by
      rw [Rows.uptoBulk]; omega
    refine ⟨some a1, c, ls, rfl, ⟨some a1, c, rfl, hl, fun j l hj => ?_⟩, by omega, ?_, g3⟩
    · obtain ⟨a', c', h1, h2⟩ := g4 j l hj
      obtain ⟨xb, xo, spot⟩ := a1
      have hspot : spot = none := by
        have hjl : j < ls.length := (List.getElem?_eq_some_iff.1 hj).1
        obtain ⟨a0, c0, h3, _⟩ := g4 0 _ (List.getElem?_eq_getElem (by omega))
        simpa [Addr.add] using World.cell?_spot h3
      subst hspot
      rw [add_off] at h1
      exact ⟨xb, xo, a', c', rfl, lt_of_cell h1, h1, h2⟩
    · have : ∀ (es : List (DataW H)), es.length ≤ Rows.uptoBulkAll es := fun es => by
        induction es with
        | nil => exact Nat.zero_le _
        | cons e es ih =>
          rw [Rows.uptoBulkAll, List.length_cons]
          have : 1 ≤ Rows.uptoBulk e := by
            cases e with
            | lit l => cases l <;> simp [Rows.uptoBulk]
            | _ => simp [Rows.uptoBulk]
          omega
      have h1 := this (elems.map (·.1))
      rw [List.length_map, hel] at h1
      omega
set_option maxRecDepth 100000 in
theorem clashes_lifted (os : Os) (started : os.Started) (H : Type) (enc : TypeId × Value → H) (F : Stop.Interp) :
    ReturnsInHanded {} Try.checked os 4 .any ((Rows.OpenSpec.upto Rows.dotpathClashesSpec).pre6 enc Try.prog Try.f4 Rows.dotpathClashesUptoRow.domain false) (((Rows.OpenSpec.upto Rows.dotpathClashesSpec).at F).post enc Try.prog Try.f4 false true false false) := by
  refine returnsInHanded_of_cond (C := Try.checked) (s := Rows.OpenSpec.upto Rows.dotpathClashesSpec) (k := Rows.uptoSmall) rfl own started (by kernel_rfl) Try.func4
    (OpenSpec.witness (enc := enc) (C := Try.checked) (s := Rows.OpenSpec.upto Rows.dotpathClashesSpec) (k := Rows.uptoSmall) rfl false ⟨#[], #[.slice none 0 0], []⟩ 8 (by kernel_rfl) (by kernel_rfl) (by kernel_rfl)
      (x := ([.nil], [], [])) (by kernel_rfl) rfl (by kernel_rfl)) ?_
  intro W base args ds gs before hval0 hW _ hk _
  have hval : ∀ (j : Nat) t v, Try.f4.params[j]? = some t → args[j]? = some v → Value.okWide Try.prog W .any base t v := hval0
  have hW' := hW
  obtain ⟨p, q, hA0, hV, rfl, _, _⟩ := hW
  have hA : DataW.TrodAll enc Try.prog W 0 (fun _ => true) true Try.f4.params.toList args.toList ds p := hA0
  rw [Try.params4] at hA hval
  obtain ⟨v0, d0, rfl, rfl, h0⟩ := trodAll_one hA
  obtain ⟨rfl, rfl⟩ := trodVars_none hV
  clear hA0 hval0
  obtain ⟨a, c, ls, rfl, hR, ht, hl, hZ⟩ := arg_paths h0 (by
    obtain ⟨a, len, cap, e⟩ := okWide_slice Try.underlying40 (hval 0 40 v0 rfl rfl)
    exact ⟨a, len, cap, e⟩)
  have hbk : Rows.uptoBulk d0 ≤ 1048576 := by
    have h1 := of_decide_eq_true hk
    simp only [List.append_nil, Rows.uptoBulkAll] at h1
    omega
  simp only [List.append_nil] at hW'
  have hlt : ∀ x ∈ p, x.block < W.heap.size := fun x hx => by simpa using hW'.lt x (by simpa using hx)
  refine (clashes_true a c ls W (hid_of hR) (by omega) (hid_of hZ) (hid_of (by omega))).mono fun e W' ⟨he, hb⟩ => ?_
  subst he
  exact ⟨_, rfl, _, _, _, [], _, [], hW', trodAll_mk1 (shut_bool Try.underlying4 _), trodAll_mk1 (Below.trod laid_out (by kernel_rfl) (of_decide_eq_true (by kernel_rfl)) h0 hb hlt), rfl, hb.frame _, fun h => by cases h⟩

theorem clashes_holds : Rows.DotpathClashesUptoSaid :=
  OpenClaim.holds_of_cond 4 Try.f4 rfl rfl rfl rfl rfl rfl rfl ⟨rfl, rfl, rfl, rfl, rfl⟩ rfl rfl rfl rfl rfl (by kernel_rfl) Try.func4 (by kernel_rfl)
    (of_decide_eq_true (by kernel_rfl)) (by unfold Func.isWrapper; first | (rw [if_pos (by decide +kernel)]; kernel_rfl) | (rw [if_neg (by decide +kernel)]; exact ⟨rfl, rfl⟩))
    (fun os started H enc _ F => clashes_lifted os started H enc F)
#print axioms clashes_holds
end Go.Proofs.Ytbhjbicbgmeboaa
