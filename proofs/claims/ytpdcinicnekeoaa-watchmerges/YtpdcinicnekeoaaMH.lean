import Derived.Test.YtpdcinicnekeoaaMG
import Derived.Test.YtpdcinicnekeoaaLF
/-! WatchMerges: the row. -/
namespace Go.Proofs.Ytpdcinicnekeoaa
open Go Go.ChangeShapes Go.WideShapes Go.ChangeAt Go.RowKit Go.Watch
theorem rows_u : Try.prog.underlying 43 = some (.slice 23) := by kernel_rfl
theorem chgs_bytes : Try.prog.bytesOf 23 = 24 := by kernel_rfl
section
variable {H : Type} {enc : TypeId × Value → H} {w : World} {base : Nat} {spare : Nat → Bool} {held : Bool}
set_option maxRecDepth 100000 in
theorem arg_rows {a : Option Addr} {len cap : Nat} {d : DataW H} {p : List MemPlace} (h : DataW.Trod enc Try.prog w base spare held 43 (.slice a len cap) d p) (hw : ∀ k ∈ d.weights Try.prog 43, k ≤ reachBytes) :
    ∃ l : List (List Chg), l.length = len ∧ RowsAt w a l ∧ l.length * 24 ≤ 140737488351232 ∧ ∀ (j : Nat) x, l[j]? = some x → x.length * 48 ≤ 140737488351232 := by
  obtain ⟨fuel, h⟩ := h
  rcases Go.Deep.open_slice rows_u h with ⟨h0, -⟩ | ⟨a', len', cap', m, n, D, Pl, h0, hb, hl, hm, hmm, hxe, hx⟩
  · simp [Value.cells] at h0
    obtain ⟨rfl, rfl, rfl⟩ := h0
    exact ⟨[], rfl, fun j e he => by simp at he, by simp, fun j e he => by simp at he⟩
  · simp [Value.cells] at h0
    obtain ⟨rfl, rfl, rfl⟩ := h0
    cases hxe
    have hlm : len ≤ m := by rw [hmm]; split <;> omega
    have hsz : len * 24 ≤ 140737488351232 := by
      have := hw ((len + (m - len)) * 24) (by simp only [DataW.weights, rows_u, chgs_bytes, List.length_map, List.length_range]; exact List.mem_cons_self ..)
      simp only [reachBytes] at this
      omega
    have each : ∀ i, i < len → ∃ e : Option Addr × List Chg × Nat, w.cell? (a'.add (i * 1)) = some (.slice e.1 e.2.1.length e.2.2) ∧ ChgsAt (fun _ => True) w e.1 e.2.1 ∧ e.2.1.length ≤ e.2.2 ∧ e.2.2 ≤ 9223372036854775807 ∧ e.2.1.length * 48 ≤ 140737488351232 := fun i hi => by
      obtain ⟨cs, h1, h2⟩ := hx i (by omega)
      rw [chgs_cell] at h1
      obtain ⟨_, _, hcell⟩ := World.cells?_some h1
      obtain ⟨xa, l, xc, rfl, r⟩ := open_chgs h2 (fun k hk => hw k (by
        simp only [DataW.weights, rows_u]
        refine List.mem_cons_of_mem _ (List.mem_append_left _ (weights_all _ _ _ (D i) ?_ k hk))
        exact List.mem_map.2 ⟨i, List.mem_range.2 hi, rfl⟩))
      exact ⟨⟨xa, l, xc⟩, by have := hcell 0 (by omega); simpa [Addr.add] using this, r⟩
    obtain ⟨f, hf⟩ : ∃ f : Nat → Option Addr × List Chg × Nat, ∀ i, i < len → w.cell? (a'.add (i * 1)) = some (.slice (f i).1 (f i).2.1.length (f i).2.2) ∧ ChgsAt (fun _ => True) w (f i).1 (f i).2.1 ∧ (f i).2.1.length ≤ (f i).2.2 ∧ (f i).2.2 ≤ 9223372036854775807 ∧ (f i).2.1.length * 48 ≤ 140737488351232 :=
      ⟨fun i => if h : i < len then (each i h).choose else ⟨none, [], 0⟩, fun i hi => by simp only [dif_pos hi]; exact (each i hi).choose_spec⟩
    have hat : ∀ (j : Nat) x, ((List.range len).map (fun i => (f i).2.1))[j]? = some x → j < len ∧ x = (f j).2.1 := fun j x hj => by
      have h1 := (List.getElem?_eq_some_iff.1 hj).1
      have hlt : j < len := by simpa using h1
      rw [List.getElem?_map, List.getElem?_range hlt] at hj
      cases hj
      exact ⟨hlt, rfl⟩
    refine ⟨(List.range len).map (fun i => (f i).2.1), by simp, fun j x hj => ?_, by simpa using hsz, fun j x hj => ?_⟩
    · obtain ⟨hlt, rfl⟩ := hat j x hj
      obtain ⟨hc, r1, r2, r3, -⟩ := hf j hlt
      obtain ⟨xb, xo, spot⟩ := a'
      have h00 := (hf 0 (by omega)).1
      have hspot : spot = none := by simpa [Addr.add] using World.cell?_spot (v := .slice (f 0).1 (f 0).2.1.length (f 0).2.2) (by simpa [Addr.add] using h00)
      subst hspot
      rw [add_plain, Nat.mul_one] at hc
      exact ⟨xb, xo, _, _, rfl, hc, r1, r2, r3⟩
    · obtain ⟨hlt, rfl⟩ := hat j x hj
      exact (hf j hlt).2.2.2.2
end
set_option maxRecDepth 100000 in
theorem merges_lifted (os : Os) (started : os.Started) (H : Type) (enc : TypeId × Value → H) :
    ReturnsInHanded {} Try.checked os 5 .any (Rows.watchMergesSpec.pre6 enc Try.prog Try.f5 Rows.watchMergesRow.domain false) (Rows.watchMergesSpec.post enc Try.prog Try.f5 false true false false) := by
  refine returnsInHanded_of_change_sized (C := Try.checked) own_knob started (by kernel_rfl) Try.func5
    (ChangeSpec.witness6 (enc := enc) (C := Try.checked) false ⟨#[], #[.slice none 0 0], []⟩ 8 (by kernel_rfl) (by kernel_rfl) (by kernel_rfl) (by kernel_rfl)) ?_
  intro W base args ds gs before hval0 hW hcnd hsz0 _
  have hval : ∀ (j : Nat) t v, Try.f5.params[j]? = some t → args[j]? = some v → Value.okWide Try.prog W .any base t v := hval0
  have hsz : (DataW.weightsEach Try.prog (Try.f5.params.toList ++ Rows.watchMergesSpec.plain.varTypes Try.prog) (ds ++ gs)).all (· ≤ reachBytes) = true := hsz0
  have hW' := hW
  obtain ⟨p, q, hA0, hV, rfl, hfz, hnd⟩ := hW
  have hA : DataW.TrodAll enc Try.prog W 0 (fun _ => true) true Try.f5.params.toList args.toList ds p := hA0
  rw [Try.params5] at hA hval hsz
  obtain ⟨v0, d0, rfl, rfl, h0⟩ := trodAll_one hA
  obtain ⟨rfl, rfl⟩ := trodVars_none hV
  clear hA0 hval0
  obtain ⟨a, len, cap, rfl⟩ := okWide_slice Try.underlying43 (hval 0 43 v0 rfl rfl)
  obtain ⟨ls, rfl, hE, hl1, hl2⟩ := arg_rows h0 (fun k hk => of_decide_eq_true (List.all_eq_true.1 hsz _ (DataW.weights_mem_each (j := 0) rfl rfl k hk)))
  simp only [List.append_nil] at hW'
  have hlt : ∀ x ∈ p, x.block < W.heap.size := fun x hx => by simpa using hW'.lt x (by simpa using hx)
  refine (merges_true (cap := cap) hE hl1 hl2).mono fun e W' ⟨he, hg⟩ => ?_
  subst he
  exact ⟨_, rfl, _, _, _, [], _, [], hW', trodAll_mk1 (shut_bool Try.underlying4 _), trodAll_mk1 (Below.trod laid_out (by kernel_rfl) (of_decide_eq_true (by kernel_rfl)) h0 hg hlt), rfl, hg.frame _, fun h => by cases h⟩
theorem merges_holds : Rows.WatchMergesSaid :=
  OpenClaim.holds_of_wide 5 Try.f5 rfl rfl rfl rfl rfl rfl rfl ⟨rfl, rfl, rfl, rfl, rfl⟩ rfl rfl rfl rfl rfl (by kernel_rfl) Try.func5 (by kernel_rfl)
    (of_decide_eq_true (by kernel_rfl)) (by unfold Func.isWrapper; first | (rw [if_pos (by decide +kernel)]; kernel_rfl) | (rw [if_neg (by decide +kernel)]; exact ⟨rfl, rfl⟩))
    (fun os started H enc _ => merges_lifted os started H enc)
#print axioms merges_holds
end Go.Proofs.Ytpdcinicnekeoaa
