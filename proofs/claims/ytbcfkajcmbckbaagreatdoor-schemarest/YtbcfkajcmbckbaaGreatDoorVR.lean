import Derived.Test.YtbcfkajcmbckbaaGreatDoorV5
import Derived.KernelRfl
/-! A Value that is handed in: its numbers are of 64 bits. -/
namespace Go.Proofs.YtbcfkajcmbckbaaGreatDoor
open Go Go.RowKit

mutual
/-- The numbers are of 64 bits. -/
def RangeT : Tr → Prop
  | .node _ x _ _ its => (-9223372036854775808 ≤ x ∧ x ≤ 9223372036854775807) ∧ RangeL its
def RangeL : List Tr → Prop
  | [] => True
  | t :: ts => RangeT t ∧ RangeL ts
end
theorem i64_wf {i : Int} (h : (Lit.int .i64 i).wf = true) : -9223372036854775808 ≤ i ∧ i ≤ 9223372036854775807 := by
  simp [Lit.wf] at h
  have h1 : IntKind.i64.min = -9223372036854775808 := by kernel_rfl
  have h2 : IntKind.i64.max = 9223372036854775807 := by kernel_rfl
  omega
theorem items_range {W : World} {b : Nat} : ∀ (len o : Nat), (∀ i, i < len → ∃ cs t, CellsAt W b (o + 5 * i) cs ∧ VRep W t cs ∧ SmallT t ∧ RangeT t) → ∃ its : List Tr, its.length = len ∧ VRepL W b o its ∧ SmallL its ∧ RangeL its
  | 0, o, _ => ⟨[], rfl, by unfold VRepL; trivial, by unfold SmallL; trivial, by unfold RangeL; trivial⟩
  | len + 1, o, h => by
    obtain ⟨cs, t, h1, h2, hs, hr⟩ := h 0 (by omega)
    obtain ⟨its, h3, h4, hss, hrr⟩ := items_range len (o + 5) (fun i hi => by
      obtain ⟨cs', t', h5, h6, h7, h8⟩ := h (i + 1) (by omega)
      exact ⟨cs', t', by rwa [show o + 5 + 5 * i = o + 5 * (i + 1) by omega], h6, h7, h8⟩)
    refine ⟨t :: its, by simp [h3], ?_, ?_, ?_⟩
    · unfold VRepL
      exact ⟨cs, by simpa using h1, h2, h4⟩
    · unfold SmallL
      exact ⟨hs, hss⟩
    · unfold RangeL
      exact ⟨hr, hrr⟩

theorem open_range {H : Type} {enc : TypeId × Value → H} {W : World} {base : Nat} {spare : Nat → Bool} {held : Bool} (n : Nat) : ∀ (cs : List Value) (x : DataW H × List MemPlace), DataW.trod enc Tryz.prog W base spare held n 25 cs = some x → (∀ k ∈ x.1.weights Tryz.prog 25, k ≤ reachBytes) → ∃ t, VRep W t cs ∧ SmallT t ∧ RangeT t := by
  induction n using Nat.strongRecOn with
  | _ n ih =>
    intro cs x h hw
    obtain ⟨xs, m, rfl, hx, hlen, hxl, hf⟩ := DataW.trod_struct Tryz.underlying25 h
    subst hx
    rw [e_cells25] at hlen
    obtain ⟨c0, c1, c2, c3, c4, rfl⟩ := five_of hlen
    obtain ⟨x0, x1, x2, x3, x4, rfl⟩ := five_of hxl
    have f0 : DataW.trod enc Tryz.prog W base spare held m 3 (([c0, c1, c2, c3, c4].drop 0).take (Tryz.prog.cellsOf 3)) = some x0 := hf 0 _ rfl
    have f1 : DataW.trod enc Tryz.prog W base spare held m 2 (([c0, c1, c2, c3, c4].drop 1).take (Tryz.prog.cellsOf 2)) = some x1 := hf 1 _ rfl
    have f2 : DataW.trod enc Tryz.prog W base spare held m 9 (([c0, c1, c2, c3, c4].drop 2).take (Tryz.prog.cellsOf 9)) = some x2 := hf 2 _ rfl
    have f3 : DataW.trod enc Tryz.prog W base spare held m 22 (([c0, c1, c2, c3, c4].drop 3).take (Tryz.prog.cellsOf 22)) = some x3 := hf 3 _ rfl
    have f4 : DataW.trod enc Tryz.prog W base spare held m 23 (([c0, c1, c2, c3, c4].drop 4).take (Tryz.prog.cellsOf 23)) = some x4 := hf 4 _ rfl
    rw [e_cells3] at f0
    rw [e_cells2] at f1
    rw [e_cells9] at f2
    rw [e_cells22] at f3
    rw [e_cells23] at f4
    have hw2 : ∀ k ∈ x2.1.weights Tryz.prog 9, k ≤ reachBytes := fun k hk => hw k (by simp [DataW.weights, Tryz.underlying25, DataW.weightsEach, hk])
    have hw3 : ∀ k ∈ x3.1.weights Tryz.prog 22, k ≤ reachBytes := fun k hk => hw k (by simp [DataW.weights, Tryz.underlying25, DataW.weightsEach, hk])
    have hw4 : ∀ k ∈ x4.1.weights Tryz.prog 23, k ≤ reachBytes := fun k hk => hw k (by simp [DataW.weights, Tryz.underlying25, DataW.weightsEach, hk])
    obtain ⟨k, hk, -, -⟩ := DataW.trod_int Tryz.underlying3 f0
    obtain ⟨i, hi, -, hir⟩ := DataW.trod_int Tryz.underlying2 f1
    obtain ⟨s, hs, hx2, -⟩ := DataW.trod_string Tryz.underlying9 f2
    cases hk
    cases hi
    have hri : -9223372036854775808 ≤ i ∧ i ≤ 9223372036854775807 := i64_wf hir
    cases hs
    subst hx2
    have hss : s.size ≤ 140737488351232 := hw2 s.size (by simp [DataW.weights])
    obtain ⟨ns, hns, hn1, hn2⟩ := reads_small f3 hw3
    rcases DataW.trod_slice Tryz.underlying23 f4 with ⟨hcs, _⟩ | ⟨a, len, cap, elems, rest, m', rfl, hcs, hx4, hb, hl, hm, hel, he, _, _⟩
    · cases hcs
      refine ⟨.node k i s ns [], ?_, ?_, ?_⟩
      · unfold VRep
        exact ⟨_, none, 0, rfl, hns, ⟨Nat.le_refl _, by omega⟩, .inl rfl⟩
      · unfold SmallT SmallL
        exact ⟨hss, hn1, hn2, by simp, trivial⟩
      · unfold RangeT RangeL
        exact ⟨hri, trivial⟩
    · cases hcs
      subst hx4
      have hr := hw4 ((elems.map (·.1)).length + (rest.map (·.1)).length |> (· * Tryz.prog.bytesOf 25)) (by simp [DataW.weights, Tryz.underlying23])
      simp only [List.length_map, hel, e_bytes25, reachBytes] at hr
      by_cases hl0 : len = 0
      · subst hl0
        refine ⟨.node k i s ns [], ?_, ?_, ?_⟩
        · unfold VRep
          exact ⟨_, some a, cap, rfl, hns, ⟨Nat.zero_le _, by unfold maxLen at hm; omega⟩, .inl rfl⟩
        · unfold SmallT SmallL
          exact ⟨hss, hn1, hn2, by simp, trivial⟩
        · unfold RangeT RangeL
          exact ⟨hri, trivial⟩
      · have each : ∀ j, j < len → ∃ cs' y, W.cells? base (a.add (j * 5)) 5 = some cs' ∧ DataW.trod enc Tryz.prog W base spare held m' 25 cs' = some y ∧ y ∈ elems := fun j hj => by
          have := he j hj
          rw [e_cells25, List.getElem?_eq_getElem (by omega)] at this
          obtain ⟨cs', h1, h2⟩ := Option.bind_eq_some_iff.1 this
          exact ⟨cs', _, h1, h2, List.getElem_mem _⟩
        obtain ⟨b, o, spot⟩ := a
        have hspot : spot = none := by
          obtain ⟨cs', y, h1, -⟩ := each 0 (by omega)
          exact spot_of h1
        subst hspot
        obtain ⟨its, h3, h4, hsm, hrm⟩ := items_range (W := W) (b := b) len o (fun j hj => by
          obtain ⟨cs', y, h1, h2, hy⟩ := each j hj
          obtain ⟨t, ht, hts, htr⟩ := ih m' (by omega) cs' y h2 (fun k hk => hw4 k (by
            simp only [DataW.weights, Tryz.underlying23, List.mem_cons, List.mem_append]
            exact .inr (.inl (weights_all _ _ _ _ (List.mem_map_of_mem hy) k hk))))
          rw [add_off, Nat.mul_comm] at h1
          exact ⟨cs', t, (cellsAt_of h1).1, ht, hts, htr⟩)
        subst h3
        refine ⟨.node k i s ns its, ?_, ?_, ?_⟩
        · unfold VRep
          have hblt : b < W.heap.size := by
            obtain ⟨cs', y, h1, -⟩ := each 0 (by omega)
            rw [add_off] at h1
            obtain ⟨h5, h6⟩ := cellsAt_of h1
            obtain ⟨d0, d1, d2, d3, d4, rfl⟩ := five_of h6
            exact lt_of_cell (h5 0 d0 rfl)
          exact ⟨_, _, cap, rfl, hns, ⟨hl, by unfold maxLen at hm; omega⟩, .inr ⟨b, o, rfl, hblt, h4⟩⟩
        · unfold SmallT
          exact ⟨hss, hn1, hn2, by omega, hsm⟩
        · unfold RangeT
          exact ⟨hri, hrm⟩
end Go.Proofs.YtbcfkajcmbckbaaGreatDoor
