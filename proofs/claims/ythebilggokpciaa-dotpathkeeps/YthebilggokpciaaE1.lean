import Derived.Test.YthebilggokpciaaB2
import Derived.SliceStrings
import Derived.SizedLaws
/-! A Value that is handed in reads as a plain tree. -/
namespace Go.Proofs.Ythebilggokpciaa
open Go Go.RowKit

theorem e_cells9 : Try.prog.cellsOf 9 = 1 := by kernel_rfl
theorem e_cells25 : Try.prog.cellsOf 25 = 5 := by kernel_rfl
theorem e_cells3 : Try.prog.cellsOf 3 = 1 := by kernel_rfl
theorem e_cells2 : Try.prog.cellsOf 2 = 1 := by kernel_rfl
theorem e_cells22 : Try.prog.cellsOf 22 = 1 := by kernel_rfl
theorem e_cells23 : Try.prog.cellsOf 23 = 1 := by kernel_rfl
theorem add_off (b o j : Nat) : (⟨b, o, none⟩ : Addr).add j = ⟨b, o + j, none⟩ := by unfold Addr.add; split <;> simp_all
theorem lt_of_cell {W : World} {p : Addr} {v : Value} (h : W.cell? p = some v) : p.block < W.heap.size := by
  rcases Nat.lt_or_ge p.block W.heap.size with h' | h'
  · exact h'
  · simp [World.cell?, Array.getElem?_eq_none h'] at h

theorem five_of {α : Type} {l : List α} (h : l.length = 5) : ∃ a b c d e, l = [a, b, c, d, e] := by
  rcases l with _ | ⟨a, _ | ⟨b, _ | ⟨c, _ | ⟨d, _ | ⟨e, _ | ⟨f, r⟩⟩⟩⟩⟩⟩
  all_goals first | exact ⟨_, _, _, _, _, rfl⟩ | (simp at h)

/-- The items, one behind the other. -/
theorem items_of {W : World} {b : Nat} : ∀ (len o : Nat), (∀ i, i < len → ∃ cs t, CellsAt W b (o + 5 * i) cs ∧ VRep W t cs) → ∃ its : List Tr, its.length = len ∧ VRepL W b o its
  | 0, o, _ => ⟨[], rfl, by unfold VRepL; trivial⟩
  | len + 1, o, h => by
    obtain ⟨cs, t, h1, h2⟩ := h 0 (by omega)
    obtain ⟨its, h3, h4⟩ := items_of len (o + 5) (fun i hi => by
      obtain ⟨cs', t', h5, h6⟩ := h (i + 1) (by omega)
      exact ⟨cs', t', by rwa [show o + 5 + 5 * i = o + 5 * (i + 1) by omega], h6⟩)
    refine ⟨t :: its, by simp [h3], ?_⟩
    unfold VRepL
    exact ⟨cs, by simpa using h1, h2, h4⟩

theorem cellsAt_of {W : World} {base b o n : Nat} {cs : List Value} (h : W.cells? base ⟨b, o, none⟩ n = some cs) : CellsAt W b o cs ∧ cs.length = n := by
  unfold World.cells? at h
  split at h
  · have hl : cs.length = n := by simpa using mapM_some_length h
    refine ⟨fun j u hj => ?_, hl⟩
    have hlt := (List.getElem?_eq_some_iff.1 hj).1
    have := mapM_some_get h j j (by rw [List.getElem?_range (by omega)])
    rw [add_off] at this
    rw [this, hj]
  · cases h

theorem spot_of {W : World} {base n : Nat} {a : Addr} {cs : List Value} (h : W.cells? base (a.add (0 * 5)) (n + 1) = some cs) : a.spot = none := by
  unfold World.cells? at h
  split at h
  · have hl : cs.length = n + 1 := by simpa using mapM_some_length h
    have := mapM_some_get h 0 0 (by rw [List.getElem?_range (by omega)])
    rw [List.getElem?_eq_getElem (by omega)] at this
    simpa [Addr.add] using World.cell?_spot this
  · cases h

theorem reads_of {H : Type} {enc : TypeId × Value → H} {W : World} {base : Nat} {spare : Nat → Bool} {held : Bool} {n : Nat} {v : Value} {x : DataW H × List MemPlace} (hf : DataW.trod enc Try.prog W base spare held n 22 [v] = some x) : ∃ l, Reads W v l := by
  rcases ChangeShapes.open_strings Try.underlying22 Try.underlying9 e_cells9 hf with ⟨hcs, hx⟩ | ⟨a, len, cap, ss, hcs, _, hl, hm, hz, hx, hcell, hws⟩
  · cases hcs
    exact ⟨[], none, 0, rfl, ⟨Nat.le_refl _, by omega⟩, .inl rfl⟩
  · cases hcs
    have hz' : len ≤ ss.length := by rw [hz]; split <;> omega
    have htk : (ss.take len).length = len := by simp; omega
    refine ⟨ss.take len, some a, cap, by rw [htk], ⟨by omega, by unfold maxLen at hm; omega⟩, ?_⟩
    by_cases hl0 : len = 0
    · subst hl0; exact .inl (by simp)
    · obtain ⟨xb, xo, spot⟩ := a
      have hspot : spot = none := by simpa [Addr.add] using World.cell?_spot (hcell 0 (by omega))
      subst hspot
      have hc' : ∀ j, j < ss.length → W.cell? ⟨xb, xo + j, none⟩ = some (.string (ss.getD j ByteArray.empty)) := fun j hj => by
        have := hcell j hj
        rwa [add_off] at this
      refine .inr ⟨xb, xo, rfl, lt_of_cell (hc' 0 (by omega)), fun j s hj => ?_⟩
      have hjl := (List.getElem?_eq_some_iff.1 hj).1
      rw [List.getElem?_take_of_lt (by omega)] at hj
      rw [hc' j (by omega), List.getD_eq_getElem?_getD, hj]
      rfl

theorem open_val {H : Type} {enc : TypeId × Value → H} {W : World} {base : Nat} {spare : Nat → Bool} {held : Bool} (n : Nat) : ∀ (cs : List Value) (x : DataW H × List MemPlace), DataW.trod enc Try.prog W base spare held n 25 cs = some x → ∃ t, VRep W t cs := by
  induction n using Nat.strongRecOn with
  | _ n ih =>
    intro cs x h
    obtain ⟨xs, m, rfl, hx, hlen, hxl, hf⟩ := DataW.trod_struct Try.underlying25 h
    rw [e_cells25] at hlen
    obtain ⟨c0, c1, c2, c3, c4, rfl⟩ := five_of hlen
    obtain ⟨x0, x1, x2, x3, x4, rfl⟩ := five_of hxl
    have f0 : DataW.trod enc Try.prog W base spare held m 3 (([c0, c1, c2, c3, c4].drop 0).take (Try.prog.cellsOf 3)) = some x0 := hf 0 _ rfl
    have f1 : DataW.trod enc Try.prog W base spare held m 2 (([c0, c1, c2, c3, c4].drop 1).take (Try.prog.cellsOf 2)) = some x1 := hf 1 _ rfl
    have f2 : DataW.trod enc Try.prog W base spare held m 9 (([c0, c1, c2, c3, c4].drop 2).take (Try.prog.cellsOf 9)) = some x2 := hf 2 _ rfl
    have f3 : DataW.trod enc Try.prog W base spare held m 22 (([c0, c1, c2, c3, c4].drop 3).take (Try.prog.cellsOf 22)) = some x3 := hf 3 _ rfl
    have f4 : DataW.trod enc Try.prog W base spare held m 23 (([c0, c1, c2, c3, c4].drop 4).take (Try.prog.cellsOf 23)) = some x4 := hf 4 _ rfl
    rw [e_cells3] at f0
    rw [e_cells2] at f1
    rw [e_cells9] at f2
    rw [e_cells22] at f3
    rw [e_cells23] at f4
    obtain ⟨k, hk, -, -⟩ := DataW.trod_int Try.underlying3 f0
    obtain ⟨i, hi, -, -⟩ := DataW.trod_int Try.underlying2 f1
    obtain ⟨s, hs, -, -⟩ := DataW.trod_string Try.underlying9 f2
    cases hk
    cases hi
    cases hs
    obtain ⟨ns, hns⟩ := reads_of f3
    rcases DataW.trod_slice Try.underlying23 f4 with ⟨hcs, _⟩ | ⟨a, len, cap, elems, rest, m', rfl, hcs, _, hb, hl, hm, hel, he, _, _⟩
    · cases hcs
      refine ⟨.node k i s ns [], ?_⟩
      unfold VRep
      exact ⟨_, none, 0, rfl, hns, ⟨Nat.le_refl _, by omega⟩, .inl rfl⟩
    · cases hcs
      by_cases hl0 : len = 0
      · subst hl0
        refine ⟨.node k i s ns [], ?_⟩
        unfold VRep
        exact ⟨_, some a, cap, rfl, hns, ⟨Nat.zero_le _, by unfold maxLen at hm; omega⟩, .inl rfl⟩
      · have each : ∀ j, j < len → ∃ cs' y, W.cells? base (a.add (j * 5)) 5 = some cs' ∧ DataW.trod enc Try.prog W base spare held m' 25 cs' = some y := fun j hj => by
          have := he j hj
          rw [e_cells25, List.getElem?_eq_getElem (by omega)] at this
          obtain ⟨cs', h1, h2⟩ := Option.bind_eq_some_iff.1 this
          exact ⟨cs', _, h1, h2⟩
        obtain ⟨b, o, spot⟩ := a
        have hspot : spot = none := by
          obtain ⟨cs', y, h1, -⟩ := each 0 (by omega)
          exact spot_of h1
        subst hspot
        obtain ⟨its, h3, h4⟩ := items_of (W := W) (b := b) len o (fun j hj => by
          obtain ⟨cs', y, h1, h2⟩ := each j hj
          obtain ⟨t, ht⟩ := ih m' (by omega) cs' y h2
          rw [add_off, Nat.mul_comm] at h1
          exact ⟨cs', t, (cellsAt_of h1).1, ht⟩)
        refine ⟨.node k i s ns its, ?_⟩
        unfold VRep
        subst h3
        have hblt : b < W.heap.size := by
          obtain ⟨cs', y, h1, -⟩ := each 0 (by omega)
          rw [add_off] at h1
          obtain ⟨h5, h6⟩ := cellsAt_of h1
          obtain ⟨d0, d1, d2, d3, d4, rfl⟩ := five_of h6
          exact lt_of_cell (h5 0 d0 rfl)
        exact ⟨_, _, cap, rfl, hns, ⟨hl, by unfold maxLen at hm; omega⟩, .inr ⟨b, o, rfl, hblt, h4⟩⟩
end Go.Proofs.Ythebilggokpciaa
