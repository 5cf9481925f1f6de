import Derived.Test.YtjmneiepcbpdpaaDoorV5
import Derived.Test.YtjmneiepcbpdpaaDoorH1
import Derived.Test.YtjmneiepcbpdpaaDoorRows
import Derived.KernelRfl
/-! A Value that is handed in: its numbers, how great it is in all. -/
namespace Go.Proofs.YtjmneiepcbpdpaaDoor
open Go Go.RowKit

theorem i64_wf {i : Int} (h : (Lit.int .i64 i).wf = true) : -9223372036854775808 ≤ i ∧ i ≤ 9223372036854775807 := by
  simp [Lit.wf] at h
  have h1 : IntKind.i64.min = -9223372036854775808 := by kernel_rfl
  have h2 : IntKind.i64.max = 9223372036854775807 := by kernel_rfl
  omega
theorem strs_bulk {H : Type} : (l : List ByteArray) → Rows.uptoBulkAll (ChangeShapes.strs (H := H) l) = bulkN l
  | [] => by rw [bulkN]; rfl
  | n :: ns => by
    rw [bulkN, show ChangeShapes.strs (H := H) (n :: ns) = .lit (.string n.data.toList) :: ChangeShapes.strs ns from rfl, Rows.uptoBulkAll, Rows.uptoBulk, strs_bulk ns]
    rw [show n.data.toList.length = n.size by rw [Array.length_toList]; rfl]
theorem bulk_five {H : Type} {k i : Int} {s : ByteArray} {ns : List ByteArray} {its : List Tr} {x0 x1 d3 d4 : DataW H} (h3 : bulkN ns ≤ Rows.uptoBulk d3) (h4 : bulkL its ≤ Rows.uptoBulk d4) : bulkT (.node k i s ns its) ≤ Rows.uptoBulk (.agg [x0, x1, .lit (.string s.data.toList), d3, d4]) := by
  rw [bulkT, Rows.uptoBulk, Rows.uptoBulkAll, Rows.uptoBulkAll, Rows.uptoBulkAll, Rows.uptoBulkAll, Rows.uptoBulkAll, Rows.uptoBulkAll, Rows.uptoBulk]
  rw [show s.data.toList.length = s.size by rw [Array.length_toList]; rfl]
  omega
theorem items_bulk {H : Type} {W : World} {b : Nat} : ∀ (es : List (DataW H)) (o : Nat), (∀ i (hi : i < es.length), ∃ cs t, CellsAt W b (o + 5 * i) cs ∧ VRep W t cs ∧ SmallT t ∧ RangeT t ∧ bulkT t ≤ Rows.uptoBulk es[i]) → ∃ its : List Tr, its.length = es.length ∧ VRepL W b o its ∧ SmallL its ∧ RangeL its ∧ bulkL its ≤ Rows.uptoBulkAll es
  | [], o, _ => ⟨[], rfl, by unfold VRepL; trivial, by unfold SmallL; trivial, by unfold RangeL; trivial, by rw [bulkL]; exact Nat.zero_le _⟩
  | e :: es, o, h => by
    obtain ⟨cs, t, h1, h2, hs, hr, hb⟩ := h 0 (by simp)
    obtain ⟨its, h3, h4, hss, hrr, hbb⟩ := items_bulk es (o + 5) (fun i hi => by
      obtain ⟨cs', t', h5, h6, h7, h8, h9⟩ := h (i + 1) (by simpa using hi)
      exact ⟨cs', t', by rwa [show o + 5 + 5 * i = o + 5 * (i + 1) by omega], h6, h7, h8, by simpa using h9⟩)
    refine ⟨t :: its, by simp [h3], ?_, ?_, ?_, ?_⟩
    · unfold VRepL
      exact ⟨cs, by simpa using h1, h2, h4⟩
    · unfold SmallL
      exact ⟨hs, hss⟩
    · unfold RangeL
      exact ⟨hr, hrr⟩
    · rw [bulkL, Rows.uptoBulkAll]
      have hb' : bulkT t ≤ Rows.uptoBulk e := by simpa using hb
      omega
theorem reads_bulk {H : Type} {enc : TypeId × Value → H} {W : World} {base : Nat} {spare : Nat → Bool} {held : Bool} {n : Nat} {v : Value} {x : DataW H × List MemPlace} (hf : DataW.trod enc Tryd.prog W base spare held n 22 [v] = some x) (hw : ∀ k ∈ x.1.weights Tryd.prog 22, k ≤ reachBytes) :
    ∃ l, Reads W v l ∧ l.length * 16 ≤ 140737488351232 ∧ (∀ s ∈ l, s.size ≤ 140737488351232) ∧ bulkN l ≤ Rows.uptoBulk x.1 := by
  rcases ChangeShapes.open_strings Tryd.underlying22 Tryd.underlying9 e_cells9 hf with ⟨hcs, hx⟩ | ⟨a, len, cap, ss, hcs, _, hl, hm, hz, hx, hcell, hws⟩
  · cases hcs
    exact ⟨[], ⟨none, 0, rfl, ⟨Nat.le_refl _, by omega⟩, .inl rfl⟩, by simp, (fun s hs => by cases hs), by rw [bulkN]; exact Nat.zero_le _⟩
  · cases hcs
    subst hx
    have hz' : len ≤ ss.length := by rw [hz]; split <;> omega
    have htk : (ss.take len).length = len := by simp; omega
    have hr := hw ((ChangeShapes.strs (H := H) (ss.take len)).length + (ChangeShapes.strs (H := H) (ss.drop len)).length |> (· * Tryd.prog.bytesOf 9)) (by simp [DataW.weights, Tryd.underlying22])
    simp only [ChangeShapes.strs, List.length_map, htk, e_bytes9, reachBytes] at hr
    refine ⟨ss.take len, ⟨some a, cap, by rw [htk], ⟨by omega, by unfold maxLen at hm; omega⟩, ?_⟩, by omega, fun s hs => ?_, ?_⟩
    · by_cases hl0 : len = 0
      · subst hl0; exact .inl (by simp)
      · obtain ⟨xb, xo, spot⟩ := a
        have hspot : spot = none := by simpa [Addr.add] using World.cell?_spot (hcell 0 (by omega))
        subst hspot
        have hc' : ∀ j, j < ss.length → W.cell? ⟨xb, xo + j, none⟩ = some (.string (ss.getD j ByteArray.empty)) := fun j hj => by
          have := hcell j hj
          rwa [add_off] at this
        refine .inr ⟨xb, xo, rfl, lt_of_cell (hc' 0 (by omega)), fun j s hj => ?_⟩
        have hjl := (List.getElem?_eq_some_iff.1 hj).1
        rw [List.getElem?_take_of_lt (by omega)] at hj
        rw [hc' j (by omega), List.getD_eq_getElem?_getD, hj]
        rfl
    · refine hw s.size ?_
      simp only [DataW.weights, Tryd.underlying22, List.mem_cons, List.mem_append]
      exact .inr (.inl (e_weights_strs _ _ _ _ hs))
    · rw [Rows.uptoBulk, strs_bulk, strs_bulk]
      omega

theorem open_bulk {H : Type} {enc : TypeId × Value → H} {W : World} {base : Nat} {spare : Nat → Bool} {held : Bool} (n : Nat) : ∀ (cs : List Value) (x : DataW H × List MemPlace), DataW.trod enc Tryd.prog W base spare held n 25 cs = some x → (∀ k ∈ x.1.weights Tryd.prog 25, k ≤ reachBytes) → ∃ t, VRep W t cs ∧ SmallT t ∧ RangeT t ∧ bulkT t ≤ Rows.uptoBulk x.1 := by
  induction n using Nat.strongRecOn with
  | _ n ih =>
    intro cs x h hw
    obtain ⟨xs, m, rfl, hx, hlen, hxl, hf⟩ := DataW.trod_struct Tryd.underlying25 h
    subst hx
    rw [e_cells25] at hlen
    obtain ⟨c0, c1, c2, c3, c4, rfl⟩ := five_of hlen
    obtain ⟨x0, x1, x2, x3, x4, rfl⟩ := five_of hxl
    have f0 : DataW.trod enc Tryd.prog W base spare held m 3 (([c0, c1, c2, c3, c4].drop 0).take (Tryd.prog.cellsOf 3)) = some x0 := hf 0 _ rfl
    have f1 : DataW.trod enc Tryd.prog W base spare held m 2 (([c0, c1, c2, c3, c4].drop 1).take (Tryd.prog.cellsOf 2)) = some x1 := hf 1 _ rfl
    have f2 : DataW.trod enc Tryd.prog W base spare held m 9 (([c0, c1, c2, c3, c4].drop 2).take (Tryd.prog.cellsOf 9)) = some x2 := hf 2 _ rfl
    have f3 : DataW.trod enc Tryd.prog W base spare held m 22 (([c0, c1, c2, c3, c4].drop 3).take (Tryd.prog.cellsOf 22)) = some x3 := hf 3 _ rfl
    have f4 : DataW.trod enc Tryd.prog W base spare held m 23 (([c0, c1, c2, c3, c4].drop 4).take (Tryd.prog.cellsOf 23)) = some x4 := hf 4 _ rfl
    rw [e_cells3] at f0
    rw [e_cells2] at f1
    rw [e_cells9] at f2
    rw [e_cells22] at f3
    rw [e_cells23] at f4
    have hw2 : ∀ k ∈ x2.1.weights Tryd.prog 9, k ≤ reachBytes := fun k hk => hw k (by simp [DataW.weights, Tryd.underlying25, DataW.weightsEach, hk])
    have hw3 : ∀ k ∈ x3.1.weights Tryd.prog 22, k ≤ reachBytes := fun k hk => hw k (by simp [DataW.weights, Tryd.underlying25, DataW.weightsEach, hk])
    have hw4 : ∀ k ∈ x4.1.weights Tryd.prog 23, k ≤ reachBytes := fun k hk => hw k (by simp [DataW.weights, Tryd.underlying25, DataW.weightsEach, hk])
    obtain ⟨k, hk, -, -⟩ := DataW.trod_int Tryd.underlying3 f0
    obtain ⟨i, hi, -, hir⟩ := DataW.trod_int Tryd.underlying2 f1
    obtain ⟨s, hs, hx2, -⟩ := DataW.trod_string Tryd.underlying9 f2
    cases hk
    cases hi
    have hri : -9223372036854775808 ≤ i ∧ i ≤ 9223372036854775807 := i64_wf hir
    cases hs
    subst hx2
    have hss : s.size ≤ 140737488351232 := hw2 s.size (by simp [DataW.weights])
    obtain ⟨ns, hns, hn1, hn2, hnb⟩ := reads_bulk f3 hw3
    rcases DataW.trod_slice Tryd.underlying23 f4 with ⟨hcs, _⟩ | ⟨a, len, cap, elems, rest, m', rfl, hcs, hx4, hb, hl, hm, hel, he, _, _⟩
    · cases hcs
      refine ⟨.node k i s ns [], ?_, ?_, ?_, ?_⟩
      · unfold VRep
        exact ⟨_, none, 0, rfl, hns, ⟨Nat.le_refl _, by omega⟩, .inl rfl⟩
      · unfold SmallT SmallL
        exact ⟨hss, hn1, hn2, by simp, trivial⟩
      · unfold RangeT RangeL
        exact ⟨hri, trivial⟩
      · exact bulk_five hnb (by rw [bulkL]; exact Nat.zero_le _)
    · cases hcs
      subst hx4
      have hr := hw4 ((elems.map (·.1)).length + (rest.map (·.1)).length |> (· * Tryd.prog.bytesOf 25)) (by simp [DataW.weights, Tryd.underlying23])
      simp only [List.length_map, hel, e_bytes25, reachBytes] at hr
      by_cases hl0 : len = 0
      · subst hl0
        refine ⟨.node k i s ns [], ?_, ?_, ?_, ?_⟩
        · unfold VRep
          exact ⟨_, some a, cap, rfl, hns, ⟨Nat.zero_le _, by unfold maxLen at hm; omega⟩, .inl rfl⟩
        · unfold SmallT SmallL
          exact ⟨hss, hn1, hn2, by simp, trivial⟩
        · unfold RangeT RangeL
          exact ⟨hri, trivial⟩
        · exact bulk_five hnb (by rw [bulkL]; exact Nat.zero_le _)
      · have each : ∀ j (hj : j < len), ∃ cs', W.cells? base (a.add (j * 5)) 5 = some cs' ∧ DataW.trod enc Tryd.prog W base spare held m' 25 cs' = some (elems[j]'(by omega)) := fun j hj => by
          have := he j hj
          rw [e_cells25, List.getElem?_eq_getElem (by omega)] at this
          obtain ⟨cs', h1, h2⟩ := Option.bind_eq_some_iff.1 this
          exact ⟨cs', h1, h2⟩
        obtain ⟨b, o, spot⟩ := a
        have hspot : spot = none := by
          obtain ⟨cs', h1, -⟩ := each 0 (by omega)
          exact spot_of h1
        subst hspot
        obtain ⟨its, h3, h4, hsm, hrm, hbm⟩ := items_bulk (W := W) (b := b) (elems.map (·.1)) o (fun j hj => by
          have hj' : j < len := by simpa [hel] using hj
          obtain ⟨cs', h1, h2⟩ := each j hj'
          obtain ⟨t, ht, hts, htr, htb⟩ := ih m' (by omega) cs' (elems[j]'(by omega)) h2 (fun k hk => hw4 k (by
            simp only [DataW.weights, Tryd.underlying23, List.mem_cons, List.mem_append]
            exact .inr (.inl (weights_all _ _ _ _ (List.mem_map_of_mem (List.getElem_mem (by omega))) k hk))))
          rw [add_off, Nat.mul_comm] at h1
          exact ⟨cs', t, (cellsAt_of h1).1, ht, hts, htr, by simpa using htb⟩)
        have h3' : its.length = len := by rw [h3]; simp [hel]
        subst h3'
        refine ⟨.node k i s ns its, ?_, ?_, ?_, ?_⟩
        · unfold VRep
          have hblt : b < W.heap.size := by
            obtain ⟨cs', h1, -⟩ := each 0 (by omega)
            rw [add_off] at h1
            obtain ⟨h5, h6⟩ := cellsAt_of h1
            obtain ⟨d0, d1, d2, d3, d4, rfl⟩ := five_of h6
            exact lt_of_cell (h5 0 d0 rfl)
          exact ⟨_, _, cap, rfl, hns, ⟨hl, by unfold maxLen at hm; omega⟩, .inr ⟨b, o, rfl, hblt, h4⟩⟩
        · unfold SmallT
          exact ⟨hss, hn1, hn2, by omega, hsm⟩
        · unfold RangeT
          exact ⟨hri, hrm⟩
        · exact bulk_five hnb (by rw [Rows.uptoBulk]; omega)
end Go.Proofs.YtjmneiepcbpdpaaDoor
