import Derived.Test.YthijpmomcompaaaDoorPG
import Derived.Deep.DeepHandedRow
import Derived.Test.YthijpmomcompaaaDoorRows
import Derived.LaidLaws
import Derived.Lay
import Derived.KernelRfl
import Derived.ProofKit
import Derived.OpenShut
import Derived.MakeChecks
import Derived.SizedLaws
import Derived.Carry
import Derived.ChangeMaps5
/-! The row OrderPicks. -/
namespace Go.Proofs.YthijpmomcompaaaDoor
open Go Go.ChangeShapes Go.WideShapes Go.ChangeAt Go.RowKit

theorem own : ownKnob Tryd.prog.godebug = none := by kernel_rfl
theorem laid_out : laidOutB Tryd.prog = true := by kernel_rfl
/-- A list of Values among the arguments. -/
theorem arg_items {H : Type} {enc : TypeId × Value → H} {W : World} {base : Nat} {v : Value} {d : DataW H} {p : List MemPlace} {ts : List TypeId} {ds : List (DataW H)} {j : Nat} (hok : Value.okWide Tryd.prog W .any base 22 v)
    (h : DataW.Trod enc Tryd.prog W 0 (fun _ => true) true 22 v d p) (hsz : (DataW.weightsEach Tryd.prog ts ds).all (· ≤ reachBytes) = true) (ht : ts[j]? = some 22) (hd : ds[j]? = some d) :
    ∃ a c its, v = .slice a (List.length its) c ∧ ListAt W a c its ∧ its.length * 80 ≤ 140737488351232 ∧ SmallL its := by
  obtain ⟨a0, len0, cap0, rfl⟩ := okWide_slice Tryd.underlying22 hok
  obtain ⟨fuel, hf⟩ := h
  have hw : ∀ k ∈ d.weights Tryd.prog 22, k ≤ reachBytes := fun k hk => of_decide_eq_true (List.all_eq_true.1 hsz _ (DataW.weights_mem_each ht hd k hk))
  rcases DataW.trod_slice Tryd.underlying22 hf with ⟨hcs, _⟩ | ⟨a, len, cap, elems, rest, m', rfl, hcs, hx4, hb, hl, hm, hel, he, _, _⟩
  · cases hcs
    exact ⟨none, 0, [], rfl, ⟨⟨Nat.le_refl _, by decide⟩, .inl rfl⟩, by simp, by unfold SmallL; trivial⟩
  · cases hcs
    have hx5 := congrArg (fun q : DataW H × List MemPlace => q.1) hx4
    simp only at hx5
    subst hx5
    have hr := hw ((elems.map (·.1)).length + (rest.map (·.1)).length |> (· * Tryd.prog.bytesOf 31)) (by simp [DataW.weights, Tryd.underlying22])
    simp only [List.length_map, hel, e_bytes25, reachBytes] at hr
    by_cases hl0 : len0 = 0
    · subst hl0
      exact ⟨some a, cap0, [], rfl, ⟨⟨Nat.zero_le _, by unfold maxLen at hm; omega⟩, .inl rfl⟩, by simp, by unfold SmallL; trivial⟩
    · have each : ∀ j, j < len0 → ∃ cs' y, W.cells? 0 (a.add (j * 5)) 5 = some cs' ∧ DataW.trod enc Tryd.prog W 0 (fun _ => true) true m' 31 cs' = some y ∧ y ∈ elems := fun j hj => by
        have := he j hj
        rw [e_cells25, List.getElem?_eq_getElem (by omega)] at this
        obtain ⟨cs', h1, h2⟩ := Option.bind_eq_some_iff.1 this
        exact ⟨cs', _, h1, h2, List.getElem_mem _⟩
      obtain ⟨b, o, spot⟩ := a
      have hspot : spot = none := by
        obtain ⟨cs', y, h1, -⟩ := each 0 (by omega)
        exact spot_of h1
      subst hspot
      obtain ⟨its, h3, h4, hsm⟩ := items_small (W := W) (b := b) len0 o (fun j hj => by
        obtain ⟨cs', y, h1, h2, hy⟩ := each j hj
        obtain ⟨t, ht, hts⟩ := open_small m' cs' y h2 (fun k hk => hw k (by
          simp only [DataW.weights, Tryd.underlying22, List.mem_cons, List.mem_append]
          exact .inr (.inl (weights_all _ _ _ _ (List.mem_map_of_mem hy) k hk))))
        rw [add_off, Nat.mul_comm] at h1
        exact ⟨cs', t, (cellsAt_of h1).1, ht, hts⟩)
      subst h3
      have hblt : b < W.heap.size := by
        obtain ⟨cs', y, h1, -⟩ := each 0 (by omega)
        rw [add_off] at h1
        obtain ⟨h5, h6⟩ := cellsAt_of h1
        obtain ⟨d0, d1, d2, d3, d4, rfl⟩ := five_of h6
        exact lt_of_cell (h5 0 d0 rfl)
      exact ⟨_, cap0, its, rfl, ⟨⟨hl, by unfold maxLen at hm; omega⟩, .inr ⟨b, o, rfl, hblt, h4⟩⟩, by omega, hsm⟩
set_option maxRecDepth 100000 in
theorem picks_lifted (os : Os) (started : os.Started) (H : Type) (enc : TypeId × Value → H) :
    ReturnsInHanded {} Tryd.checked os 3 .any (fun w args => (Rows.orderPicksSpec.pre enc Tryd.prog Tryd.f3 [] false w args ∧ laidMetH Tryd.prog Rows.orderPicksRow.laid w) ∧ sizedMet enc Tryd.prog Tryd.f3 (OpenSpec.ofChange Rows.orderPicksSpec) false w args)
      (Rows.orderPicksSpec.post enc Tryd.prog Tryd.f3 false true false false) := by
  refine returnsInHanded_of_change_and (C := Tryd.checked) (X := fun w _ => laidMetH Tryd.prog Rows.orderPicksRow.laid w) (fun _ _ _ hh h => h.of_heap hh) own started (by kernel_rfl) Tryd.func3
    (ChangeSpec.witness_shaped (enc := enc) (C := Tryd.checked) (os := os) (X := fun w _ => laidMetH Tryd.prog Rows.orderPicksRow.laid w) false (World.laidAll Tryd.prog os Rows.orderPicksRow.laid) #[.slice none 0 0] 8 (World.laidAll_os _ _ _)
      (World.shaped_of_ZipB (by kernel_rfl) (by kernel_rfl)) (by kernel_rfl) (by kernel_rfl) (by kernel_rfl)
      (by rw [MakeChecks.laidMetH_plain _ _ _ (by kernel_rfl)]; exact laidMet_laidAll _ (by kernel_rfl) (by kernel_rfl))) ?_
  intro W base args ds gs before hval0 hW _ hsz0 _ _
  have hval : ∀ (j : Nat) t v, Tryd.f3.params[j]? = some t → args[j]? = some v → Value.okWide Tryd.prog W .any base t v := hval0
  have hsz : (DataW.weightsEach Tryd.prog (Tryd.f3.params.toList ++ Rows.orderPicksSpec.plain.varTypes Tryd.prog) (ds ++ gs)).all (· ≤ reachBytes) = true := hsz0
  have hW' := hW
  obtain ⟨p, q, hA0, hV, rfl, _, _⟩ := hW
  have hA : DataW.TrodAll enc Tryd.prog W 0 (fun _ => true) true Tryd.f3.params.toList args.toList ds p := hA0
  rw [Tryd.params3] at hA hval hsz
  obtain ⟨v0, d0, rfl, rfl, h0⟩ := trodAll_one hA
  obtain ⟨rfl, rfl⟩ := trodVars_none hV
  clear hA0 hval0 hsz0
  obtain ⟨ai, ci, its, rfl, hI, hi1, hi2⟩ := arg_items (j := 0) (hval 0 22 v0 rfl rfl) h0 hsz rfl rfl
  simp only [List.append_nil] at hW'
  have hlt : ∀ x ∈ p, x.block < W.heap.size := fun x hx => by simpa using hW'.lt x (by simpa using hx)
  refine (picks_true ai ci its.length its W rfl hi1 hI hi2).mono fun e W' ⟨he, hb⟩ => ?_
  subst he
  exact ⟨_, rfl, _, _, _, [], _, [], hW', trodAll_mk1 (shut_bool Tryd.underlying4 _), trodAll_mk1 (Below.trod laid_out (by kernel_rfl) (of_decide_eq_true (by kernel_rfl)) h0 hb hlt), rfl, hb.frame _, fun h => by cases h⟩

theorem picks_holds : Rows.OrderPicksSaid :=
  OpenClaim.holds_of_wide 3 Tryd.f3 rfl rfl rfl rfl rfl rfl rfl ⟨rfl, rfl, rfl, rfl, rfl⟩ rfl rfl rfl rfl rfl (by kernel_rfl) Tryd.func3 (by kernel_rfl)
    (of_decide_eq_true (by kernel_rfl)) (by unfold Func.isWrapper; first | (rw [if_pos (by decide +kernel)]; kernel_rfl) | (rw [if_neg (by decide +kernel)]; exact ⟨rfl, rfl⟩))
    (fun os started H enc _ => picks_lifted os started H enc)
end Go.Proofs.YthijpmomcompaaaDoor
