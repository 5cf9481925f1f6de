import Derived.Test.YthgnkhpomhcdkaaGreatDoorV2
/-! A Value that is handed in: a plain tree, and no part of it is too great. -/
namespace Go.Proofs.YthgnkhpomhcdkaaGreatDoor
open Go Go.RowKit

theorem e_cells9 : Tryz.prog.cellsOf 9 = 1 := by kernel_rfl
theorem e_cells25 : Tryz.prog.cellsOf 28 = 5 := by kernel_rfl
theorem e_cells3 : Tryz.prog.cellsOf 3 = 1 := by kernel_rfl
theorem e_cells2 : Tryz.prog.cellsOf 2 = 1 := by kernel_rfl
theorem e_cells22 : Tryz.prog.cellsOf 25 = 1 := by kernel_rfl
theorem e_cells23 : Tryz.prog.cellsOf 26 = 1 := by kernel_rfl
theorem five_of {α : Type} {l : List α} (h : l.length = 5) : ∃ a b c d e, l = [a, b, c, d, e] := by
  rcases l with _ | ⟨a, _ | ⟨b, _ | ⟨c, _ | ⟨d, _ | ⟨e, _ | ⟨f, r⟩⟩⟩⟩⟩⟩
  all_goals first | exact ⟨_, _, _, _, _, rfl⟩ | (simp at h)

theorem cellsAt_of {W : World} {base b o n : Nat} {cs : List Value} (h : W.cells? base ⟨b, o, none⟩ n = some cs) : CellsAt W b o cs ∧ cs.length = n := by
  unfold World.cells? at h
  split at h
  · have hl : cs.length = n := by simpa using mapM_some_length h
    refine ⟨fun j u hj => ?_, hl⟩
    have hlt := (List.getElem?_eq_some_iff.1 hj).1
    have := mapM_some_get h j j (by rw [List.getElem?_range (by omega)])
    rw [add_off] at this
    rw [this, hj]
  · cases h

theorem spot_of {W : World} {base n : Nat} {a : Addr} {cs : List Value} (h : W.cells? base (a.add (0 * 5)) (n + 1) = some cs) : a.spot = none := by
  unfold World.cells? at h
  split at h
  · have hl : cs.length = n + 1 := by simpa using mapM_some_length h
    have := mapM_some_get h 0 0 (by rw [List.getElem?_range (by omega)])
    rw [List.getElem?_eq_getElem (by omega)] at this
    simpa [Addr.add] using World.cell?_spot this
  · cases h

mutual
def SmallT : Tr → Prop
  | .node _ _ s ns its => s.size ≤ 140737488351232 ∧ ns.length * 16 ≤ 140737488351232 ∧ (∀ n ∈ ns, n.size ≤ 140737488351232) ∧ its.length * 80 ≤ 140737488351232 ∧ SmallL its
def SmallL : List Tr → Prop
  | [] => True
  | t :: ts => SmallT t ∧ SmallL ts
end
theorem e_bytes9 : Tryz.prog.bytesOf 9 = 16 := by kernel_rfl
theorem e_bytes25 : Tryz.prog.bytesOf 28 = 80 := by kernel_rfl
theorem e_weights_strs {H : Type} (P : Program) (e : TypeId) : ∀ (l : List ByteArray) (s : ByteArray), s ∈ l → s.size ∈ DataW.weightsAll (H := H) P e (ChangeShapes.strs l)
  | [], s, hs => by cases hs
  | x :: r, s, hs => by
    rw [show ChangeShapes.strs (H := H) (x :: r) = .lit (.string x.data.toList) :: ChangeShapes.strs r from rfl]
    simp only [DataW.weightsAll, DataW.weights, List.mem_append, List.mem_singleton]
    rcases List.mem_cons.1 hs with rfl | h
    · exact .inl (by simp)
    · exact .inr (e_weights_strs P e r s h)
theorem weights_all {H : Type} (P : Program) (e : TypeId) : ∀ (l : List (DataW H)) (d : DataW H), d ∈ l → ∀ n ∈ d.weights P e, n ∈ DataW.weightsAll P e l
  | [], d, hd => by cases hd
  | x :: r, d, hd => fun n hn => by
    simp only [DataW.weightsAll, List.mem_append]
    rcases List.mem_cons.1 hd with rfl | h
    · exact .inl hn
    · exact .inr (weights_all P e r d h n hn)

theorem items_small {W : World} {b : Nat} : ∀ (len o : Nat), (∀ i, i < len → ∃ cs t, CellsAt W b (o + 5 * i) cs ∧ VRep W t cs ∧ SmallT t) → ∃ its : List Tr, its.length = len ∧ VRepL W b o its ∧ SmallL its
  | 0, o, _ => ⟨[], rfl, by unfold VRepL; trivial, by unfold SmallL; trivial⟩
  | len + 1, o, h => by
    obtain ⟨cs, t, h1, h2, hs⟩ := h 0 (by omega)
    obtain ⟨its, h3, h4, hss⟩ := items_small len (o + 5) (fun i hi => by
      obtain ⟨cs', t', h5, h6, h7⟩ := h (i + 1) (by omega)
      exact ⟨cs', t', by rwa [show o + 5 + 5 * i = o + 5 * (i + 1) by omega], h6, h7⟩)
    refine ⟨t :: its, by simp [h3], ?_, ?_⟩
    · unfold VRepL
      exact ⟨cs, by simpa using h1, h2, h4⟩
    · unfold SmallL
      exact ⟨hs, hss⟩

theorem reads_small {H : Type} {enc : TypeId × Value → H} {W : World} {base : Nat} {spare : Nat → Bool} {held : Bool} {n : Nat} {v : Value} {x : DataW H × List MemPlace} (hf : DataW.trod enc Tryz.prog W base spare held n 25 [v] = some x) (hw : ∀ k ∈ x.1.weights Tryz.prog 25, k ≤ reachBytes) :
    ∃ l, Reads W v l ∧ l.length * 16 ≤ 140737488351232 ∧ ∀ s ∈ l, s.size ≤ 140737488351232 := by
  rcases ChangeShapes.open_strings Tryz.underlying25 Tryz.underlying9 e_cells9 hf with ⟨hcs, hx⟩ | ⟨a, len, cap, ss, hcs, _, hl, hm, hz, hx, hcell, hws⟩
  · cases hcs
    exact ⟨[], ⟨none, 0, rfl, ⟨Nat.le_refl _, by omega⟩, .inl rfl⟩, by simp, fun s hs => by cases hs⟩
  · cases hcs
    subst hx
    have hz' : len ≤ ss.length := by rw [hz]; split <;> omega
    have htk : (ss.take len).length = len := by simp; omega
    have hr := hw ((ChangeShapes.strs (H := H) (ss.take len)).length + (ChangeShapes.strs (H := H) (ss.drop len)).length |> (· * Tryz.prog.bytesOf 9)) (by simp [DataW.weights, Tryz.underlying25])
    simp only [ChangeShapes.strs, List.length_map, htk, e_bytes9, reachBytes] at hr
    refine ⟨ss.take len, ⟨some a, cap, by rw [htk], ⟨by omega, by unfold maxLen at hm; omega⟩, ?_⟩, by omega, fun s hs => ?_⟩
    · by_cases hl0 : len = 0
      · subst hl0; exact .inl (by simp)
      · obtain ⟨xb, xo, spot⟩ := a
        have hspot : spot = none := by simpa [Addr.add] using World.cell?_spot (hcell 0 (by omega))
        subst hspot
        have hc' : ∀ j, j < ss.length → W.cell? ⟨xb, xo + j, none⟩ = some (.string (ss.getD j ByteArray.empty)) := fun j hj => by
          have := hcell j hj
          rwa [add_off] at this
        refine .inr ⟨xb, xo, rfl, lt_of_cell (hc' 0 (by omega)), fun j s hj => ?_⟩
        have hjl := (List.getElem?_eq_some_iff.1 hj).1
        rw [List.getElem?_take_of_lt (by omega)] at hj
        rw [hc' j (by omega), List.getD_eq_getElem?_getD, hj]
        rfl
    · refine hw s.size ?_
      simp only [DataW.weights, Tryz.underlying25, List.mem_cons, List.mem_append]
      exact .inr (.inl (e_weights_strs _ _ _ _ hs))

theorem open_small {H : Type} {enc : TypeId × Value → H} {W : World} {base : Nat} {spare : Nat → Bool} {held : Bool} (n : Nat) : ∀ (cs : List Value) (x : DataW H × List MemPlace), DataW.trod enc Tryz.prog W base spare held n 28 cs = some x → (∀ k ∈ x.1.weights Tryz.prog 28, k ≤ reachBytes) → ∃ t, VRep W t cs ∧ SmallT t := by
  induction n using Nat.strongRecOn with
  | _ n ih =>
    intro cs x h hw
    obtain ⟨xs, m, rfl, hx, hlen, hxl, hf⟩ := DataW.trod_struct Tryz.underlying28 h
    subst hx
    rw [e_cells25] at hlen
    obtain ⟨c0, c1, c2, c3, c4, rfl⟩ := five_of hlen
    obtain ⟨x0, x1, x2, x3, x4, rfl⟩ := five_of hxl
    have f0 : DataW.trod enc Tryz.prog W base spare held m 3 (([c0, c1, c2, c3, c4].drop 0).take (Tryz.prog.cellsOf 3)) = some x0 := hf 0 _ rfl
    have f1 : DataW.trod enc Tryz.prog W base spare held m 2 (([c0, c1, c2, c3, c4].drop 1).take (Tryz.prog.cellsOf 2)) = some x1 := hf 1 _ rfl
    have f2 : DataW.trod enc Tryz.prog W base spare held m 9 (([c0, c1, c2, c3, c4].drop 2).take (Tryz.prog.cellsOf 9)) = some x2 := hf 2 _ rfl
    have f3 : DataW.trod enc Tryz.prog W base spare held m 25 (([c0, c1, c2, c3, c4].drop 3).take (Tryz.prog.cellsOf 25)) = some x3 := hf 3 _ rfl
    have f4 : DataW.trod enc Tryz.prog W base spare held m 26 (([c0, c1, c2, c3, c4].drop 4).take (Tryz.prog.cellsOf 26)) = some x4 := hf 4 _ rfl
    rw [e_cells3] at f0
    rw [e_cells2] at f1
    rw [e_cells9] at f2
    rw [e_cells22] at f3
    rw [e_cells23] at f4
    have hw2 : ∀ k ∈ x2.1.weights Tryz.prog 9, k ≤ reachBytes := fun k hk => hw k (by simp [DataW.weights, Tryz.underlying28, DataW.weightsEach, hk])
    have hw3 : ∀ k ∈ x3.1.weights Tryz.prog 25, k ≤ reachBytes := fun k hk => hw k (by simp [DataW.weights, Tryz.underlying28, DataW.weightsEach, hk])
    have hw4 : ∀ k ∈ x4.1.weights Tryz.prog 26, k ≤ reachBytes := fun k hk => hw k (by simp [DataW.weights, Tryz.underlying28, DataW.weightsEach, hk])
    obtain ⟨k, hk, -, -⟩ := DataW.trod_int Tryz.underlying3 f0
    obtain ⟨i, hi, -, -⟩ := DataW.trod_int Tryz.underlying2 f1
    obtain ⟨s, hs, hx2, -⟩ := DataW.trod_string Tryz.underlying9 f2
    cases hk
    cases hi
    cases hs
    subst hx2
    have hss : s.size ≤ 140737488351232 := hw2 s.size (by simp [DataW.weights])
    obtain ⟨ns, hns, hn1, hn2⟩ := reads_small f3 hw3
    rcases DataW.trod_slice Tryz.underlying26 f4 with ⟨hcs, _⟩ | ⟨a, len, cap, elems, rest, m', rfl, hcs, hx4, hb, hl, hm, hel, he, _, _⟩
    · cases hcs
      refine ⟨.node k i s ns [], ?_, ?_⟩
      · unfold VRep
        exact ⟨_, none, 0, rfl, hns, ⟨Nat.le_refl _, by omega⟩, .inl rfl⟩
      · unfold SmallT SmallL
        exact ⟨hss, hn1, hn2, by simp, trivial⟩
    · cases hcs
      subst hx4
      have hr := hw4 ((elems.map (·.1)).length + (rest.map (·.1)).length |> (· * Tryz.prog.bytesOf 28)) (by simp [DataW.weights, Tryz.underlying26])
      simp only [List.length_map, hel, e_bytes25, reachBytes] at hr
      by_cases hl0 : len = 0
      · subst hl0
        refine ⟨.node k i s ns [], ?_, ?_⟩
        · unfold VRep
          exact ⟨_, some a, cap, rfl, hns, ⟨Nat.zero_le _, by unfold maxLen at hm; omega⟩, .inl rfl⟩
        · unfold SmallT SmallL
          exact ⟨hss, hn1, hn2, by simp, trivial⟩
      · have each : ∀ j, j < len → ∃ cs' y, W.cells? base (a.add (j * 5)) 5 = some cs' ∧ DataW.trod enc Tryz.prog W base spare held m' 28 cs' = some y ∧ y ∈ elems := fun j hj => by
          have := he j hj
          rw [e_cells25, List.getElem?_eq_getElem (by omega)] at this
          obtain ⟨cs', h1, h2⟩ := Option.bind_eq_some_iff.1 this
          exact ⟨cs', _, h1, h2, List.getElem_mem _⟩
        obtain ⟨b, o, spot⟩ := a
        have hspot : spot = none := by
          obtain ⟨cs', y, h1, -⟩ := each 0 (by omega)
          exact spot_of h1
        subst hspot
        obtain ⟨its, h3, h4, hsm⟩ := items_small (W := W) (b := b) len o (fun j hj => by
          obtain ⟨cs', y, h1, h2, hy⟩ := each j hj
          obtain ⟨t, ht, hts⟩ := ih m' (by omega) cs' y h2 (fun k hk => hw4 k (by
            simp only [DataW.weights, Tryz.underlying26, List.mem_cons, List.mem_append]
            exact .inr (.inl (weights_all _ _ _ _ (List.mem_map_of_mem hy) k hk))))
          rw [add_off, Nat.mul_comm] at h1
          exact ⟨cs', t, (cellsAt_of h1).1, ht, hts⟩)
        subst h3
        refine ⟨.node k i s ns its, ?_, ?_⟩
        · unfold VRep
          have hblt : b < W.heap.size := by
            obtain ⟨cs', y, h1, -⟩ := each 0 (by omega)
            rw [add_off] at h1
            obtain ⟨h5, h6⟩ := cellsAt_of h1
            obtain ⟨d0, d1, d2, d3, d4, rfl⟩ := five_of h6
            exact lt_of_cell (h5 0 d0 rfl)
          exact ⟨_, _, cap, rfl, hns, ⟨hl, by unfold maxLen at hm; omega⟩, .inr ⟨b, o, rfl, hblt, h4⟩⟩
        · unfold SmallT
          exact ⟨hss, hn1, hn2, by omega, hsm⟩
end Go.Proofs.YthgnkhpomhcdkaaGreatDoor
