import Derived.Test.YtmlbofbnklmedaaB2
import Derived.SliceStrings
import Derived.SizedLaws
/-! A Value that is handed in reads as a plain tree. -/
namespace Go.Proofs.Ytmlbofbnklmedaa
open Go Go.RowKit

theorem e_cells9 : Try.prog.cellsOf 9 = 1 := by kernel_rfl
theorem e_cells25 : Try.prog.cellsOf 25 = 5 := by kernel_rfl
theorem e_cells3 : Try.prog.cellsOf 3 = 1 := by kernel_rfl
theorem e_cells2 : Try.prog.cellsOf 2 = 1 := by kernel_rfl
theorem e_cells22 : Try.prog.cellsOf 22 = 1 := by kernel_rfl
theorem e_cells23 : Try.prog.cellsOf 23 = 1 := by kernel_rfl
theorem add_off (b o j : Nat) : (⟨b, o, none⟩ : Addr).add j = ⟨b, o + j, none⟩ := by unfold Addr.add; split <;> simp_all
theorem lt_of_cell {W : World} {p : Addr} {v : Value} (h : W.cell? p = some v) : p.block < W.heap.size := by
  rcases Nat.lt_or_ge p.block W.heap.size with h' | h'
  · exact h'
  · simp [World.cell?, Array.getElem?_eq_none h'] at h

theorem five_of {α : Type} {l : List α} (h : l.length = 5) : ∃ a b c d e, l = [a, b, c, d, e] := by
  rcases l with _ | ⟨a, _ | ⟨b, _ | ⟨c, _ | ⟨d, _ | ⟨e, _ | ⟨f, r⟩⟩⟩⟩⟩⟩
  all_goals first | exact ⟨_, _, _, _, _, rfl⟩ | (simp at h)

/-- The items, one behind the other. -/
theorem items_of {W : World} {b : Nat} : ∀ (len o : Nat), (∀ i, i < len → ∃ cs t, CellsAt W b (o + 5 * i) cs ∧ VRep W t cs) → ∃ its : List Tr, its.length = len ∧ VRepL W b o its
  | 0, o, _ => ⟨[], rfl, by unfold VRepL; trivial⟩
  | len + 1, o, h => by
    obtain ⟨cs, t, h1, h2⟩ := h 0 (by omega)
    obtain ⟨its, h3, h4⟩ := items_of len (o + 5) (fun i hi => by
      obtain ⟨cs', t', h5, h6⟩ := h (i + 1) (by omega)
      exact ⟨cs', t', by rwa [show o + 5 + 5 * i = o + 5 * (i + 1) by omega], h6⟩)
    refine ⟨t :: its, by simp [h3], ?_⟩
    unfold VRepL
    exact ⟨cs, by simpa using h1, h2, h4⟩

theorem cellsAt_of {W : World} {base b o n : Nat} {cs : List Value} (h : W.cells? base ⟨b, o, none⟩ n = some cs) : CellsAt W b o cs ∧ cs.length = n := by
  unfold World.cells? at h
  split at h
  · have hl : cs.length = n := by simpa using mapM_some_length h
    refine ⟨fun j u hj => ?_, hl⟩
    have hlt := (List.getElem?_eq_some_iff.1 hj).1
    have := mapM_some_get h j j (by rw [List.getElem?_range (by omega)])
    rw [add_off] at this
    rw [this, hj]
  · cases h

theorem spot_of {W : World} {base n : Nat} {a : Addr} {cs : List Value} (h : W.cells? base (a.add (0 * 5)) (n + 1) = some cs) : a.spot = none := by
  unfold World.cells? at h
  split at h
  · have hl : cs.length = n + 1 := by simpa using mapM_some_length h
    have := mapM_some_get h 0 0 (by rw [List.getElem?_range (by omega)])
    rw [List.getElem?_eq_getElem (by omega)] at this
    simpa [Addr.add] using World.cell?_spot this
  · cases h

theorem reads_of {H : Type} {enc : TypeId × Value → H} {W : World} {base : Nat} {spare : Nat → Bool} {held : Bool} {n : Nat} {v : Value} {x : DataW H × List MemPlace} (hf : DataW.trod enc Try.prog W base spare held n 22 [v] = some x) : ∃ l, Reads W v l := by
  rcases ChangeShapes.open_strings Try.underlying22 Try.underlying9 e_cells9 hf with ⟨hcs, hx⟩ | ⟨a, len, cap, ss, hcs, _, hl, hm, hz, hx, hcell, hws⟩
  · cases hcs
    exact ⟨[], none, 0, rfl, ⟨Nat.le_refl _, by omega⟩, .inl rfl⟩
  · cases hcs
    have hz' : len ≤ ss.length := by rw [hz]; split <;> omega
    have htk : (ss.take len).length = len := by simp; omega
    refine ⟨ss.take len, some a, cap, by rw [htk], ⟨by omega, by unfold maxLen at hm; omega⟩, ?_⟩
    by_cases hl0 : len = 0
    · subst hl0; exact .inl (by simp)
    · obtain ⟨xb, xo, spot⟩ := a
      have hspot : spot = none := by simpa [Addr.add] using World.cell?_spot (hcell 0 (by omega))
      subst hspot
      have hc' : ∀ j, j < ss.length → W.cell? ⟨xb, xo + j, none⟩ = some (.string (ss.getD j ByteArray.empty)) := fun j hj => by
        have := hcell j hj
        rwa [add_off] at this
      refine .inr ⟨xb, xo, rfl, lt_of_cell (hc' 0 (by omega)), fun j s hj => ?_⟩
      have hjl := (List.getElem?_eq_some_iff.1 hj).1
      rw [List.getElem?_take_of_lt (by omega)] at hj
      rw [hc' j (by omega), List.getD_eq_getElem?_getD, hj]
      rfl

theorem open_val {H : Type} {enc : TypeId × Value → H} {W : World} {base : Nat} {spare : Nat → Bool} {held : Bool} (n : Nat) : ∀ (cs : List Value) (x : DataW H × List MemPlace), DataW.trod enc Try.prog W base spare held n 25 cs = some x → ∃ t, VRep W t cs := by
  induction n using Nat.strongRecOn with
  | _ n ih =>
    intro cs x h
    obtain ⟨xs, m, rfl, hx, hlen, hxl, hf⟩ := DataW.trod_struct Try.underlying25 h
    rw [e_cells25] at hlen
    obtain ⟨c0, c1, c2, c3, c4, rfl⟩ := five_of hlen
    obtain ⟨x0, x1, x2, x3, x4, rfl⟩ := five_of hxl
    have f0 : DataW.trod enc Try.prog W base spare held m 3 (([c0, c1, c2, c3, c4].drop 0).take (Try.prog.cellsOf 3)) = some x0 := hf 0 _ rfl
    have f1 : DataW.trod enc Try.prog W base spare held m 2 (([c0, c1, c2, c3, c4].drop 1).take (Try.prog.cellsOf 2)) = some x1 := hf 1 _ rfl
    have f2 : DataW.trod enc Try.prog W base spare held m 9 (([c0, c1, c2, c3, c4].drop 2).take (Try.prog.cellsOf 9)) = some x2 := hf 2 _ rfl
    have f3 : DataW.trod enc Try.prog W base spare held m 22 (([c0, c1, c2, c3, c4].drop 3).take (Try.prog.cellsOf 22)) = some x3 := hf 3 _ rfl
    have f4 : DataW.trod enc Try.prog W base spare held m 23 (([c0, c1, c2, c3, c4].drop 4).take (Try.prog.cellsOf 23)) = some x4 := hf 4 _ rfl
    rw [e_cells3] at f0
    rw [e_cells2] at f1
    rw [e_cells9] at f2
    rw [e_cells22] at f3
    rw [e_cells23] at f4
    obtain ⟨k, hk, -, -⟩ := DataW.trod_int Try.underlying3 f0
    obtain ⟨i, hi, -, -⟩ := DataW.trod_int Try.underlying2 f1
    obtain ⟨s, hs, -, -⟩ := DataW.trod_string Try.underlying9 f2
    cases hk
    cases hi
    cases hs
    obtain ⟨ns, hns⟩ := reads_of f3
    rcases DataW.trod_slice Try.underlying23 f4 with ⟨hcs, _⟩ | ⟨a, len, cap, elems, rest, m', rfl, hcs, _, hb, hl, hm, hel, he, _, _⟩
    · cases hcs
      refine ⟨.node k i s ns [], ?_⟩
      unfold VRep
      exact ⟨_, none, 0, rfl, hns, ⟨Nat.le_refl _, by omega⟩, .inl rfl⟩
    · cases hcs
      by_cases hl0 : len = 0
      · subst hl0
        refine ⟨.node k i s ns [], ?_⟩
        unfold VRep
        exact ⟨_, some a, cap, rfl, hns, ⟨Nat.zero_le _, by unfold maxLen at hm; omega⟩, .inl rfl⟩
      · have each : ∀ j, j < len → ∃ cs' y, W.cells? base (a.add (j * 5)) 5 = some cs' ∧ DataW.trod enc Try.prog W base spare held m' 25 cs' = some y := fun j hj => by
          have := he j hj
          rw [e_cells25, List.getElem?_eq_getElem (by omega)] at this
          obtain ⟨cs', h1, h2⟩ := Option.bind_eq_some_iff.1 this
          exact ⟨cs', _, h1, h2⟩
        obtain ⟨b, o, spot⟩ := a
        have hspot : spot = none := by
          obtain ⟨cs', y, h1, -⟩ := each 0 (by omega)
          exact spot_of h1
        subst hspot
        obtain ⟨its, h3, h4⟩ := items_of (W := W) (b := b) len o (fun j hj => by
          obtain ⟨cs', y, h1, h2⟩ := each j hj
          obtain ⟨t, ht⟩ := ih m' (by omega) cs' y h2
          rw [add_off, Nat.mul_comm] at h1
          exact ⟨cs', t, (cellsAt_of h1).1, ht⟩)
        refine ⟨.node k i s ns its, ?_⟩
        unfold VRep
        subst h3
        have hblt : b < W.heap.size := by
          obtain ⟨cs', y, h1, -⟩ := each 0 (by omega)
          rw [add_off] at h1
          obtain ⟨h5, h6⟩ := cellsAt_of h1
          obtain ⟨d0, d1, d2, d3, d4, rfl⟩ := five_of h6
          exact lt_of_cell (h5 0 d0 rfl)
        exact ⟨_, _, cap, rfl, hns, ⟨hl, by unfold maxLen at hm; omega⟩, .inr ⟨b, o, rfl, hblt, h4⟩⟩
end Go.Proofs.Ytmlbofbnklmedaa
/-! Parts: it answers some number. -/
namespace Go.Proofs.Ytmlbofbnklmedaa
open Go Go.RowKit

theorem hid_e {p : Prop} (h : p) : Hid p := h

set_option maxHeartbeats 2000000 in
set_option maxRecDepth 100000 in
theorem parts_one (k x : Int) (s : ByteArray) (an : Option Addr) (ln cn : Nat) (ai : Option Addr) (M ci : Nat) (m : Int) (w : World) (hM : M ≤ 9223372036854775807)
    (hI : Hid (∀ i, i < M → ∃ (b o : Nat) (k2 x2 : Int) (s2 : ByteArray) (an2 : Option Addr) (ln2 cn2 : Nat) (ai2 : Option Addr) (li2 ci2 : Nat), ai = some ⟨b, o, none⟩ ∧ b < w.heap.size ∧ CellsAt w b (o + i * 5) [.int .i64 k2, .int .i64 x2, .string s2, .slice an2 ln2 cn2, .slice ai2 li2 ci2] ∧
      ∀ m' w', Below w.heap.size w w' → Calls Try.prog 23 #[.agg #[.int .i64 k2, .int .i64 x2, .string s2, .slice an2 ln2 cn2, .slice ai2 li2 ci2], .int .i64 m'] w' fun e w'' => (∃ n, e = .returned (.int .i64 n)) ∧ Below w'.heap.size w' w'')) :
    Calls Try.prog 23 #[.agg #[.int .i64 k, .int .i64 x, .string s, .slice an ln cn, .slice ai M ci], .int .i64 m] w fun e w' => (∃ n, e = .returned (.int .i64 n)) ∧ Below w.heap.size w w' := by
  go_enter Try.func23, Try.ntmps23
  go_wp2_with fail
  go_loopw [5, 6] (fun n i wr => ∃ (z : Int) (q : Nat), q ≤ M ∧ n = .int .i64 z ∧ i = .int .i64 q ∧ Below w.heap.size w wr ∧ wr.heap[w.heap.size]? = some (.cells #[.int .i64 k, .int .i64 x, .string s, .slice an ln cn, .slice ai M ci] 25 (0, 0))) (fun _ i _ => M - (intOf i).toNat)
  case atStart => exact ⟨_, 0, Nat.zero_le _, rfl, rfl, (Below.refl _ w).alloc (Nat.le_refl _) _, heap_alloc_new w _⟩
  case round =>
    obtain ⟨z, q, hq, rfl, rfl, hbel, hb0⟩ := hrel
    obtain ⟨y0, y1, y2, y3, y4, yf⟩ := row_cells hb0
    clear y0 y1 y2 y3 yf
    by_cases hlt : q < M
    · have hd : decide ((q : Int) < (M : Int)) = true := by simp; omega
      by_cases hz : z ≤ m
      · have hd2 : decide (z ≤ m) = true := by simpa using hz
        obtain ⟨b, o, k2, x2, s2, an2, ln2, cn2, ai2, li2, ci2, rfl, hbl, hC, hcall⟩ := hI.out q hlt
        have g0 : wr.cell? ⟨b, o + q * 5, none⟩ = some (.int .i64 k2) := (hbel.cell (p := ⟨b, o + q * 5, none⟩) hbl).trans (hC 0 _ rfl)
        have g1 : wr.cell? ⟨b, o + q * 5 + 1, none⟩ = some (.int .i64 x2) := (hbel.cell (p := ⟨b, o + q * 5 + 1, none⟩) hbl).trans (hC 1 _ rfl)
        have g2 : wr.cell? ⟨b, o + q * 5 + 2, none⟩ = some (.string s2) := (hbel.cell (p := ⟨b, o + q * 5 + 2, none⟩) hbl).trans (hC 2 _ rfl)
        have g3 : wr.cell? ⟨b, o + q * 5 + 3, none⟩ = some (.slice an2 ln2 cn2) := (hbel.cell (p := ⟨b, o + q * 5 + 3, none⟩) hbl).trans (hC 3 _ rfl)
        have g4 : wr.cell? ⟨b, o + q * 5 + 4, none⟩ = some (.slice ai2 li2 ci2) := (hbel.cell (p := ⟨b, o + q * 5 + 4, none⟩) hbl).trans (hC 4 _ rfl)
        have hcall' : ∀ m', Hid _ := fun m' => hid_e (hcall m' wr hbel)
        clear hC hcall
        go_wp2_with fail
        go_at_call 23
        refine (hcall' _).out.mono ?_
        rintro e w1 ⟨⟨n, rfl⟩, hb1⟩
        clear g0 g1 g2 g3 g4 hcall' y4
        have hbel1 : Below w.heap.size w w1 := hbel.trans (hb1.mono hbel.size)
        replace hb0 := (hb1.block _ (Array.getElem?_eq_some_iff.1 hb0).1).trans hb0
        go_wp2_with fail
        go_roundw
        case rel => exact ⟨_, q + 1, by omega, rfl, by simp, hbel1, hb0⟩
        case measure => simp [intOf]; omega
      · have hd2 : decide (z ≤ m) = false := by simpa using hz
        go_wp2_with fail
        go_ret
        exact ⟨⟨_, rfl⟩, hbel⟩
    · have hd : decide ((q : Int) < (M : Int)) = false := by simp; omega
      go_wp2_with fail
      go_ret
      exact ⟨⟨_, rfl⟩, hbel⟩

theorem tr_lt {its : List Tr} {i : Nat} {t : Tr} (h : its[i]? = some t) : SizeOf.sizeOf t < SizeOf.sizeOf its := by
  have := List.mem_of_getElem? h
  exact List.sizeOf_lt_of_mem this

theorem parts_any (t : Tr) (cs : List Value) (m : Int) (w : World) (hV : VRep w t cs) :
    Calls Try.prog 23 #[.agg cs.toArray, .int .i64 m] w fun e w' => (∃ n, e = .returned (.int .i64 n)) ∧ Below w.heap.size w w' := by
  match t, hV with
  | .node k x s ns its, hV =>
    unfold VRep at hV
    obtain ⟨nm, a, c, rfl, ⟨an, cn, rfl, _⟩, hc, hI⟩ := hV
    refine parts_one k x s an ns.length cn a its.length c m w (by omega) (hid_e (fun i hi => ?_))
    obtain ⟨b, o, rfl, hb, hL⟩ := hI.resolve_left (by intro e; subst e; simp at hi)
    obtain ⟨cs', h1, h2⟩ := VRepL.at its o i its[i] hL (List.getElem?_eq_getElem hi)
    obtain ⟨k2, x2, s2, an2, ln2, cn2, ai2, li2, ci2, rfl⟩ := vrep_five h2
    refine ⟨b, o, k2, x2, s2, an2, ln2, cn2, ai2, li2, ci2, rfl, hb, h1, fun m' w' hb' => ?_⟩
    have hlt : SizeOf.sizeOf its[i] < SizeOf.sizeOf its := tr_lt (List.getElem?_eq_getElem hi)
    exact parts_any its[i] _ m' w' (VRep.keep hb' _ _ h2)
termination_by SizeOf.sizeOf t
decreasing_by simp only [Tr.node.sizeOf_spec]; omega
end Go.Proofs.Ytmlbofbnklmedaa
/-! Equal of one value that lies twice. -/
namespace Go.Proofs.Ytmlbofbnklmedaa
open Go Go.RowKit

theorem stay {w w' : World} (h : Below w.heap.size w w') {p : Addr} {v : Value} (hc : w.cell? p = some v) : w'.cell? p = some v := (h.cell (lt_of_cell hc)).trans hc

set_option maxHeartbeats 2000000 in
set_option maxRecDepth 100000 in
theorem eq_one (k x : Int) (s : ByteArray) (a1 : Option Addr) (N c1 : Nat) (a2 : Option Addr) (M c2 : Nat) (b1 : Option Addr) (d1 : Nat) (b2 : Option Addr) (d2 : Nat) (w : World) (hNm : N ≤ 9223372036854775807) (hMm : M ≤ 9223372036854775807)
    (hN : Hid (∀ i, i < N → ∃ (g o g' o' : Nat) (nm : ByteArray), a1 = some ⟨g, o, none⟩ ∧ b1 = some ⟨g', o', none⟩ ∧ w.cell? ⟨g, o + i, none⟩ = some (.string nm) ∧ w.cell? ⟨g', o' + i, none⟩ = some (.string nm)))
    (hI : Hid (∀ i, i < M → ∃ (g o g' o' : Nat) (k2 x2 : Int) (s2 : ByteArray) (p1 : Option Addr) (l1 e1 : Nat) (p2 : Option Addr) (l2 e2 : Nat) (q1 : Option Addr) (f1 : Nat) (q2 : Option Addr) (f2 : Nat), a2 = some ⟨g, o, none⟩ ∧ b2 = some ⟨g', o', none⟩ ∧
      CellsAt w g (o + i * 5) [.int .i64 k2, .int .i64 x2, .string s2, .slice p1 l1 e1, .slice p2 l2 e2] ∧ CellsAt w g' (o' + i * 5) [.int .i64 k2, .int .i64 x2, .string s2, .slice q1 l1 f1, .slice q2 l2 f2] ∧
      ∀ w', Below w.heap.size w w' → Calls Try.prog 32 #[.agg #[.int .i64 k2, .int .i64 x2, .string s2, .slice p1 l1 e1, .slice p2 l2 e2], .agg #[.int .i64 k2, .int .i64 x2, .string s2, .slice q1 l1 f1, .slice q2 l2 f2]] w' fun e w'' => e = .returned (.bool true) ∧ Below w'.heap.size w' w'')) :
    Calls Try.prog 32 #[.agg #[.int .i64 k, .int .i64 x, .string s, .slice a1 N c1, .slice a2 M c2], .agg #[.int .i64 k, .int .i64 x, .string s, .slice b1 N d1, .slice b2 M d2]] w fun e w' => e = .returned (.bool true) ∧ Below w.heap.size w w' := by
  have hB2 : ∀ p q, Below w.heap.size w ((w.alloc p).alloc q) := fun p q => ((Below.refl _ w).alloc (Nat.le_refl _) p).alloc (by simp) q
  go_enter Try.func32, Try.ntmps32
  go_wp2_with fail
  go_loopw [5] (fun i wr => ∃ q : Nat, q ≤ N ∧ i = .int .i64 q ∧ Below w.heap.size w wr ∧ wr.heap[w.heap.size]? = some (.cells #[.int .i64 k, .int .i64 x, .string s, .slice a1 N c1, .slice a2 M c2] 25 (0, 0)) ∧ wr.heap[w.heap.size + 1]? = some (.cells #[.int .i64 k, .int .i64 x, .string s, .slice b1 N d1, .slice b2 M d2] 25 (0, 0))) (fun i _ => N - (intOf i).toNat)
  case atStart => exact ⟨0, Nat.zero_le _, rfl, hB2 _ _, new1 w _ _, new2 w _ _⟩
  case round =>
    obtain ⟨q, hq, rfl, HB, h0, h1⟩ := hrel
    clear hB2
    obtain ⟨-, -, -, y3, y4, -⟩ := row_cells h0
    obtain ⟨-, -, -, y3', -, -⟩ := row_cells h1
    by_cases hlt : q < N
    · obtain ⟨g, o, g', o', nm, rfl, rfl, hc, hc'⟩ := hN.out q hlt
      have n1 := stay HB hc
      have n2 := stay HB hc'
      have i1 : (q : Int) < (N : Int) := by omega
      have i2 : (0 : Int) ≤ (q : Int) := by omega
      have hd : decide ((q : Int) < (N : Int)) = true := by simp; omega
      clear hc hc' y4
      go_wp2_with fail
      go_quiet (fail)
      go_wp2_with fail
      go_roundw
      case rel => exact ⟨q + 1, by omega, by simp, below_drewN HB nq, h0, h1⟩
      case measure => simp [intOf]; omega
    · have hd : decide ((q : Int) < (N : Int)) = false := by simp; omega
      clear y3' y4
      go_wp2_with fail
      clear y3
      go_loopw [6] (fun i wr => ∃ p : Nat, p ≤ M ∧ i = .int .i64 p ∧ Below w.heap.size w wr ∧ wr.heap[w.heap.size]? = some (.cells #[.int .i64 k, .int .i64 x, .string s, .slice a1 N c1, .slice a2 M c2] 25 (0, 0)) ∧ wr.heap[w.heap.size + 1]? = some (.cells #[.int .i64 k, .int .i64 x, .string s, .slice b1 N d1, .slice b2 M d2] 25 (0, 0))) (fun i _ => M - (intOf i).toNat)
      case atStart => exact ⟨0, Nat.zero_le _, rfl, HB, h0, h1⟩
      case round =>
        clear HB h0 h1
        obtain ⟨p, hp, rfl, HB, h0, h1⟩ := hrel
        obtain ⟨-, -, -, -, y4, -⟩ := row_cells h0
        obtain ⟨-, -, -, -, y4', -⟩ := row_cells h1
        by_cases hlt2 : p < M
        · obtain ⟨g, o, g', o', k2, x2, s2, p1, l1, e1, p2, l2, e2, q1, f1, q2, f2, rfl, rfl, hia, hia', hcall⟩ := hI.out p hlt2
          have HC := hid_e hcall
          have i1 : (p : Int) < (M : Int) := by omega
          have i2 : (0 : Int) ≤ (p : Int) := by omega
          have hd2 : decide ((p : Int) < (M : Int)) = true := by simp; omega
          have z0 := stay HB (hia 0 _ rfl)
          have z1 := stay HB (hia 1 _ rfl)
          have z2 := stay HB (hia 2 _ rfl)
          have z3 := stay HB (hia 3 _ rfl)
          have z4 := stay HB (hia 4 _ rfl)
          have v0 := stay HB (hia' 0 _ rfl)
          have v1 := stay HB (hia' 1 _ rfl)
          have v2 := stay HB (hia' 2 _ rfl)
          have v3 := stay HB (hia' 3 _ rfl)
          have v4 := stay HB (hia' 4 _ rfl)
          simp only [Nat.add_zero] at z0 v0
          clear hia hia' hcall
          go_wp2_with fail
          refine wp_region_quiet (C := fun w' => Below wr.heap.size wr w') (by kernel_rfl) (by kernel_rfl) (below_drewN (Below.refl _ _) 1) ?_
          refine wpQuiet_step (fun K hK => ?_)
          go_simp
          refine ⟨_, fun _ _ => rfl, hK _ ?_⟩
          clear hK K
          refine wpQuiet_step (fun K hK => ?_)
          refine ⟨.slice (some ⟨g, o, none⟩) M c2, fun w' hw' => ?_, hK _ ?_⟩
          · have := stay hw' y4
            go_simp
          clear hK K
          refine wpQuiet_step (fun K hK => ?_)
          go_simp
          refine ⟨_, fun _ _ => rfl, hK _ ?_⟩
          clear hK K
          refine wpQuiet_step (fun K hK => ?_)
          go_simp
          refine ⟨_, fun _ _ => rfl, hK _ ?_⟩
          clear hK K
          refine wpQuiet_step (fun K hK => ?_)
          refine ⟨.agg #[.int .i64 k2, .int .i64 x2, .string s2, .slice p1 l1 e1, .slice p2 l2 e2], fun w' hw' => ?_, hK _ ?_⟩
          · have t0 := stay hw' z0
            have t1 := stay hw' z1
            have t2 := stay hw' z2
            have t3 := stay hw' z3
            have t4 := stay hw' z4
            go_simp
          clear hK K
          refine wpQuiet_step (fun K hK => ?_)
          go_simp
          refine ⟨_, fun _ _ => rfl, hK _ ?_⟩
          clear hK K
          refine wpQuiet_step (fun K hK => ?_)
          refine ⟨.slice (some ⟨g', o', none⟩) M d2, fun w' hw' => ?_, hK _ ?_⟩
          · have := stay hw' y4'
            go_simp
          clear hK K
          refine wpQuiet_step (fun K hK => ?_)
          go_simp
          refine ⟨_, fun _ _ => rfl, hK _ ?_⟩
          clear hK K
          refine wpQuiet_step (fun K hK => ?_)
          go_simp
          refine ⟨_, fun _ _ => rfl, hK _ ?_⟩
          clear hK K
          refine wpQuiet_step (fun K hK => ?_)
          refine ⟨.agg #[.int .i64 k2, .int .i64 x2, .string s2, .slice q1 l1 f1, .slice q2 l2 f2], fun w' hw' => ?_, hK _ ?_⟩
          · have t0 := stay hw' v0
            have t1 := stay hw' v1
            have t2 := stay hw' v2
            have t3 := stay hw' v3
            have t4 := stay hw' v4
            go_simp
          clear hK K
          refine wpQuiet_step (fun K hK => ?_)
          refine ⟨.bool true, fun w' hw' => ?_, hK _ ?_⟩
          · go_simp
            refine (HC.out w' (HB.trans (hw'.mono HB.size))).mono ?_
            rintro e w'' ⟨rfl, hb⟩
            exact ⟨rfl, hw'.trans (hb.mono hw'.size)⟩
          clear hK K
          refine wpQuiet_step (fun K hK => ?_)
          go_simp
          refine ⟨_, fun _ _ => rfl, hK _ ?_⟩
          clear hK K
          refine wpQuiet_nil ?_
          intro w' hw'
          have HB' : Below w.heap.size w w' := HB.trans (hw'.mono HB.size)
          have h0' := (hw'.block _ (Array.getElem?_eq_some_iff.1 h0).1).trans h0
          have h1' := (hw'.block _ (Array.getElem?_eq_some_iff.1 h1).1).trans h1
          clear hw' y4 y4' z0 z1 z2 z3 z4 v0 v1 v2 v3 v4
          go_wp2_with fail
          go_roundw
          case rel => exact ⟨p + 1, by omega, by simp, HB', h0', h1'⟩
          case measure => simp [intOf]; omega
        · have hd2 : decide ((p : Int) < (M : Int)) = false := by simp; omega
          go_wp2_with fail
          go_ret
          exact ⟨rfl, HB⟩

theorem reads_two {w : World} {a b : Option Addr} {N c d : Nat} {l : List ByteArray} (h : Reads w (.slice a N c) l) (h' : Reads w (.slice b N d) l) : ∀ i, i < N → ∃ (g o g' o' : Nat) (nm : ByteArray), a = some ⟨g, o, none⟩ ∧ b = some ⟨g', o', none⟩ ∧ w.cell? ⟨g, o + i, none⟩ = some (.string nm) ∧ w.cell? ⟨g', o' + i, none⟩ = some (.string nm) := by
  intro i hi
  obtain ⟨a0, c0, e, _, h⟩ := h
  obtain ⟨b0, d0, e', _, h'⟩ := h'
  cases e
  cases e'
  obtain ⟨g, o, rfl, _, h⟩ := h.resolve_left (by intro e; subst e; simp at hi)
  obtain ⟨g', o', rfl, _, h'⟩ := h'.resolve_left (by intro e; subst e; simp at hi)
  exact ⟨g, o, g', o', l[i], rfl, rfl, h i _ (List.getElem?_eq_getElem hi), h' i _ (List.getElem?_eq_getElem hi)⟩

theorem equal_same (t : Tr) (cs cs' : List Value) (w : World) (hV : VRep w t cs) (hV' : VRep w t cs') :
    Calls Try.prog 32 #[.agg cs.toArray, .agg cs'.toArray] w fun e w' => e = .returned (.bool true) ∧ Below w.heap.size w w' := by
  match t, hV, hV' with
  | .node k x s ns its, hV, hV' =>
    unfold VRep at hV hV'
    obtain ⟨nm, a, c, rfl, hn, hc, hI⟩ := hV
    obtain ⟨nm', a', c', rfl, hn', hc', hI'⟩ := hV'
    obtain ⟨an, cn, rfl, hcn, -⟩ := id hn
    obtain ⟨an', cn', rfl, -, -⟩ := id hn'
    refine eq_one k x s an ns.length cn a its.length c an' cn' a' c' w (by omega) (by omega) (hid_e (reads_two hn hn')) (hid_e (fun i hi => ?_))
    obtain ⟨b, o, rfl, hb, hL⟩ := hI.resolve_left (by intro e; subst e; simp at hi)
    obtain ⟨b', o', rfl, hb', hL'⟩ := hI'.resolve_left (by intro e; subst e; simp at hi)
    obtain ⟨u, hu⟩ : ∃ u, its[i]? = some u := ⟨_, List.getElem?_eq_getElem hi⟩
    obtain ⟨ds, h1, h2⟩ := VRepL.at its o i u hL hu
    obtain ⟨ds', h1', h2'⟩ := VRepL.at its o' i u hL' hu
    have hlt : SizeOf.sizeOf u < SizeOf.sizeOf its := tr_lt hu
    have hrec := fun w' (hw : Below w.heap.size w w') => equal_same u ds ds' w' (VRep.keep hw _ _ h2) (VRep.keep hw _ _ h2')
    cases u with
    | node k2 x2 s2 ns2 its2 =>
      unfold VRep at h2 h2'
      obtain ⟨n2, a2, c2, rfl, ⟨p2, e2, rfl, _⟩, _⟩ := h2
      obtain ⟨n2', a2', c2', rfl, ⟨p2', e2', rfl, _⟩, _⟩ := h2'
      exact ⟨b, o, b', o', k2, x2, s2, p2, ns2.length, e2, a2, its2.length, c2, p2', e2', a2', c2', rfl, rfl, h1, h1', hrec⟩
termination_by SizeOf.sizeOf t
decreasing_by simp only [Tr.node.sizeOf_spec]; omega
end Go.Proofs.Ytmlbofbnklmedaa
/-! large: it answers something. -/
namespace Go.Proofs.Ytmlbofbnklmedaa
open Go Go.RowKit

set_option maxHeartbeats 2000000 in
set_option maxRecDepth 100000 in
theorem large_any (its : List Tr) (b o c : Nat) (w : World) (hM : its.length ≤ 9223372036854775807) (hb : its ≠ [] → b < w.heap.size) (hL : Hid (VRepL w b o its)) :
    Calls Try.prog 6 #[.slice (some ⟨b, o, none⟩) its.length c] w fun e w' => (∃ z, e = .returned (.bool z)) ∧ Below w.heap.size w w' := by
  replace hb := hid_e hb
  go_enter Try.func6, Try.ntmps6
  go_wp2_with fail
  go_loopw [3, 4] (fun n i wr => ∃ (z : Int) (q : Nat), q ≤ its.length ∧ n = .int .i64 z ∧ i = .int .i64 q ∧ Below w.heap.size w wr) (fun _ i _ => its.length - (intOf i).toNat)
  case atStart => exact ⟨_, 0, Nat.zero_le _, rfl, rfl, Below.refl _ w⟩
  case round =>
    obtain ⟨z, q, hq, rfl, rfl, hbel⟩ := hrel
    by_cases hlt : q < its.length
    · have hd : decide ((q : Int) < (its.length : Int)) = true := by simp; omega
      have hbl : b < w.heap.size := hb.out (by intro e; subst e; simp at hlt)
      obtain ⟨cs', hC, h2⟩ := VRepL.at its o q its[q] hL.out (List.getElem?_eq_getElem hlt)
      obtain ⟨k2, x2, s2, an2, ln2, cn2, ai2, li2, ci2, rfl⟩ := vrep_five h2
      have hcall := hid_e (parts_any its[q] _ 5000 wr (VRep.keep hbel _ _ h2))
      have g0 := stay hbel (hC 0 _ rfl)
      have g1 := stay hbel (hC 1 _ rfl)
      have g2 := stay hbel (hC 2 _ rfl)
      have g3 := stay hbel (hC 3 _ rfl)
      have g4 := stay hbel (hC 4 _ rfl)
      simp only [Nat.add_zero] at g0
      clear hC h2
      go_wp2_with fail
      go_at_call 23
      refine Calls.mono hcall.out ?_
      rintro e w1 ⟨⟨n, rfl⟩, hb1⟩
      clear g0 g1 g2 g3 g4 hcall
      have hbel1 : Below w.heap.size w w1 := hbel.trans (hb1.mono hbel.size)
      go_wp2_with fail
      go_roundw
      case rel => exact ⟨_, q + 1, by omega, rfl, by simp, hbel1⟩
      case measure => simp [intOf]; omega
    · have hd : decide ((q : Int) < (its.length : Int)) = false := by simp; omega
      go_wp2_with fail
      go_ret
      exact ⟨⟨_, rfl⟩, hbel⟩
end Go.Proofs.Ytmlbofbnklmedaa
/-! A Value that is handed in: a plain tree, and no part of it is too great. -/
namespace Go.Proofs.Ytmlbofbnklmedaa
open Go Go.RowKit

mutual
def SmallT : Tr → Prop
  | .node _ _ s ns its => s.size ≤ 140737488351232 ∧ ns.length * 16 ≤ 140737488351232 ∧ (∀ n ∈ ns, n.size ≤ 140737488351232) ∧ its.length * 80 ≤ 140737488351232 ∧ SmallL its
def SmallL : List Tr → Prop
  | [] => True
  | t :: ts => SmallT t ∧ SmallL ts
end
theorem e_bytes9 : Try.prog.bytesOf 9 = 16 := by kernel_rfl
theorem e_bytes25 : Try.prog.bytesOf 25 = 80 := by kernel_rfl
theorem e_weights_strs {H : Type} (P : Program) (e : TypeId) : ∀ (l : List ByteArray) (s : ByteArray), s ∈ l → s.size ∈ DataW.weightsAll (H := H) P e (ChangeShapes.strs l)
  | [], s, hs => by cases hs
  | x :: r, s, hs => by
    rw [show ChangeShapes.strs (H := H) (x :: r) = .lit (.string x.data.toList) :: ChangeShapes.strs r from rfl]
    simp only [DataW.weightsAll, DataW.weights, List.mem_append, List.mem_singleton]
    rcases List.mem_cons.1 hs with rfl | h
    · exact .inl (by simp)
    · exact .inr (e_weights_strs P e r s h)
theorem weights_all {H : Type} (P : Program) (e : TypeId) : ∀ (l : List (DataW H)) (d : DataW H), d ∈ l → ∀ n ∈ d.weights P e, n ∈ DataW.weightsAll P e l
  | [], d, hd => by cases hd
  | x :: r, d, hd => fun n hn => by
    simp only [DataW.weightsAll, List.mem_append]
    rcases List.mem_cons.1 hd with rfl | h
    · exact .inl hn
    · exact .inr (weights_all P e r d h n hn)

theorem items_small {W : World} {b : Nat} : ∀ (len o : Nat), (∀ i, i < len → ∃ cs t, CellsAt W b (o + 5 * i) cs ∧ VRep W t cs ∧ SmallT t) → ∃ its : List Tr, its.length = len ∧ VRepL W b o its ∧ SmallL its
  | 0, o, _ => ⟨[], rfl, by unfold VRepL; trivial, by unfold SmallL; trivial⟩
  | len + 1, o, h => by
    obtain ⟨cs, t, h1, h2, hs⟩ := h 0 (by omega)
    obtain ⟨its, h3, h4, hss⟩ := items_small len (o + 5) (fun i hi => by
      obtain ⟨cs', t', h5, h6, h7⟩ := h (i + 1) (by omega)
      exact ⟨cs', t', by rwa [show o + 5 + 5 * i = o + 5 * (i + 1) by omega], h6, h7⟩)
    refine ⟨t :: its, by simp [h3], ?_, ?_⟩
    · unfold VRepL
      exact ⟨cs, by simpa using h1, h2, h4⟩
    · unfold SmallL
      exact ⟨hs, hss⟩

theorem reads_small {H : Type} {enc : TypeId × Value → H} {W : World} {base : Nat} {spare : Nat → Bool} {held : Bool} {n : Nat} {v : Value} {x : DataW H × List MemPlace} (hf : DataW.trod enc Try.prog W base spare held n 22 [v] = some x) (hw : ∀ k ∈ x.1.weights Try.prog 22, k ≤ reachBytes) :
    ∃ l, Reads W v l ∧ l.length * 16 ≤ 140737488351232 ∧ ∀ s ∈ l, s.size ≤ 140737488351232 := by
  rcases ChangeShapes.open_strings Try.underlying22 Try.underlying9 e_cells9 hf with ⟨hcs, hx⟩ | ⟨a, len, cap, ss, hcs, _, hl, hm, hz, hx, hcell, hws⟩
  · cases hcs
    exact ⟨[], ⟨none, 0, rfl, ⟨Nat.le_refl _, by omega⟩, .inl rfl⟩, by simp, fun s hs => by cases hs⟩
  · cases hcs
    subst hx
    have hz' : len ≤ ss.length := by rw [hz]; split <;> omega
    have htk : (ss.take len).length = len := by simp; omega
    have hr := hw ((ChangeShapes.strs (H := H) (ss.take len)).length + (ChangeShapes.strs (H := H) (ss.drop len)).length |> (· * Try.prog.bytesOf 9)) (by simp [DataW.weights, Try.underlying22])
    simp only [ChangeShapes.strs, List.length_map, htk, e_bytes9, reachBytes] at hr
    refine ⟨ss.take len, ⟨some a, cap, by rw [htk], ⟨by omega, by unfold maxLen at hm; omega⟩, ?_⟩, by omega, fun s hs => ?_⟩
    · by_cases hl0 : len = 0
      · subst hl0; exact .inl (by simp)
      · obtain ⟨xb, xo, spot⟩ := a
        have hspot : spot = none := by simpa [Addr.add] using World.cell?_spot (hcell 0 (by omega))
        subst hspot
        have hc' : ∀ j, j < ss.length → W.cell? ⟨xb, xo + j, none⟩ = some (.string (ss.getD j ByteArray.empty)) := fun j hj => by
          have := hcell j hj
          rwa [add_off] at this
        refine .inr ⟨xb, xo, rfl, lt_of_cell (hc' 0 (by omega)), fun j s hj => ?_⟩
        have hjl := (List.getElem?_eq_some_iff.1 hj).1
        rw [List.getElem?_take_of_lt (by omega)] at hj
        rw [hc' j (by omega), List.getD_eq_getElem?_getD, hj]
        rfl
    · refine hw s.size ?_
      simp only [DataW.weights, Try.underlying22, List.mem_cons, List.mem_append]
      exact .inr (.inl (e_weights_strs _ _ _ _ hs))

theorem open_small {H : Type} {enc : TypeId × Value → H} {W : World} {base : Nat} {spare : Nat → Bool} {held : Bool} (n : Nat) : ∀ (cs : List Value) (x : DataW H × List MemPlace), DataW.trod enc Try.prog W base spare held n 25 cs = some x → (∀ k ∈ x.1.weights Try.prog 25, k ≤ reachBytes) → ∃ t, VRep W t cs ∧ SmallT t := by
  induction n using Nat.strongRecOn with
  | _ n ih =>
    intro cs x h hw
    obtain ⟨xs, m, rfl, hx, hlen, hxl, hf⟩ := DataW.trod_struct Try.underlying25 h
    subst hx
    rw [e_cells25] at hlen
    obtain ⟨c0, c1, c2, c3, c4, rfl⟩ := five_of hlen
    obtain ⟨x0, x1, x2, x3, x4, rfl⟩ := five_of hxl
    have f0 : DataW.trod enc Try.prog W base spare held m 3 (([c0, c1, c2, c3, c4].drop 0).take (Try.prog.cellsOf 3)) = some x0 := hf 0 _ rfl
    have f1 : DataW.trod enc Try.prog W base spare held m 2 (([c0, c1, c2, c3, c4].drop 1).take (Try.prog.cellsOf 2)) = some x1 := hf 1 _ rfl
    have f2 : DataW.trod enc Try.prog W base spare held m 9 (([c0, c1, c2, c3, c4].drop 2).take (Try.prog.cellsOf 9)) = some x2 := hf 2 _ rfl
    have f3 : DataW.trod enc Try.prog W base spare held m 22 (([c0, c1, c2, c3, c4].drop 3).take (Try.prog.cellsOf 22)) = some x3 := hf 3 _ rfl
    have f4 : DataW.trod enc Try.prog W base spare held m 23 (([c0, c1, c2, c3, c4].drop 4).take (Try.prog.cellsOf 23)) = some x4 := hf 4 _ rfl
    rw [e_cells3] at f0
    rw [e_cells2] at f1
    rw [e_cells9] at f2
    rw [e_cells22] at f3
    rw [e_cells23] at f4
    have hw2 : ∀ k ∈ x2.1.weights Try.prog 9, k ≤ reachBytes := fun k hk => hw k (by simp [DataW.weights, Try.underlying25, DataW.weightsEach, hk])
    have hw3 : ∀ k ∈ x3.1.weights Try.prog 22, k ≤ reachBytes := fun k hk => hw k (by simp [DataW.weights, Try.underlying25, DataW.weightsEach, hk])
    have hw4 : ∀ k ∈ x4.1.weights Try.prog 23, k ≤ reachBytes := fun k hk => hw k (by simp [DataW.weights, Try.underlying25, DataW.weightsEach, hk])
    obtain ⟨k, hk, -, -⟩ := DataW.trod_int Try.underlying3 f0
    obtain ⟨i, hi, -, -⟩ := DataW.trod_int Try.underlying2 f1
    obtain ⟨s, hs, hx2, -⟩ := DataW.trod_string Try.underlying9 f2
    cases hk
    cases hi
    cases hs
    subst hx2
    have hss : s.size ≤ 140737488351232 := hw2 s.size (by simp [DataW.weights])
    obtain ⟨ns, hns, hn1, hn2⟩ := reads_small f3 hw3
    rcases DataW.trod_slice Try.underlying23 f4 with ⟨hcs, _⟩ | ⟨a, len, cap, elems, rest, m', rfl, hcs, hx4, hb, hl, hm, hel, he, _, _⟩
    · cases hcs
      refine ⟨.node k i s ns [], ?_, ?_⟩
      · unfold VRep
        exact ⟨_, none, 0, rfl, hns, ⟨Nat.le_refl _, by omega⟩, .inl rfl⟩
      · unfold SmallT SmallL
        exact ⟨hss, hn1, hn2, by simp, trivial⟩
    · cases hcs
      subst hx4
      have hr := hw4 ((elems.map (·.1)).length + (rest.map (·.1)).length |> (· * Try.prog.bytesOf 25)) (by simp [DataW.weights, Try.underlying23])
      simp only [List.length_map, hel, e_bytes25, reachBytes] at hr
      by_cases hl0 : len = 0
      · subst hl0
        refine ⟨.node k i s ns [], ?_, ?_⟩
        · unfold VRep
          exact ⟨_, some a, cap, rfl, hns, ⟨Nat.zero_le _, by unfold maxLen at hm; omega⟩, .inl rfl⟩
        · unfold SmallT SmallL
          exact ⟨hss, hn1, hn2, by simp, trivial⟩
      · have each : ∀ j, j < len → ∃ cs' y, W.cells? base (a.add (j * 5)) 5 = some cs' ∧ DataW.trod enc Try.prog W base spare held m' 25 cs' = some y ∧ y ∈ elems := fun j hj => by
          have := he j hj
          rw [e_cells25, List.getElem?_eq_getElem (by omega)] at this
          obtain ⟨cs', h1, h2⟩ := Option.bind_eq_some_iff.1 this
          exact ⟨cs', _, h1, h2, List.getElem_mem _⟩
        obtain ⟨b, o, spot⟩ := a
        have hspot : spot = none := by
          obtain ⟨cs', y, h1, -⟩ := each 0 (by omega)
          exact spot_of h1
        subst hspot
        obtain ⟨its, h3, h4, hsm⟩ := items_small (W := W) (b := b) len o (fun j hj => by
          obtain ⟨cs', y, h1, h2, hy⟩ := each j hj
          obtain ⟨t, ht, hts⟩ := ih m' (by omega) cs' y h2 (fun k hk => hw4 k (by
            simp only [DataW.weights, Try.underlying23, List.mem_cons, List.mem_append]
            exact .inr (.inl (weights_all _ _ _ _ (List.mem_map_of_mem hy) k hk))))
          rw [add_off, Nat.mul_comm] at h1
          exact ⟨cs', t, (cellsAt_of h1).1, ht, hts⟩)
        subst h3
        refine ⟨.node k i s ns its, ?_, ?_⟩
        · unfold VRep
          have hblt : b < W.heap.size := by
            obtain ⟨cs', y, h1, -⟩ := each 0 (by omega)
            rw [add_off] at h1
            obtain ⟨h5, h6⟩ := cellsAt_of h1
            obtain ⟨d0, d1, d2, d3, d4, rfl⟩ := five_of h6
            exact lt_of_cell (h5 0 d0 rfl)
          exact ⟨_, _, cap, rfl, hns, ⟨hl, by unfold maxLen at hm; omega⟩, .inr ⟨b, o, rfl, hblt, h4⟩⟩
        · unfold SmallT
          exact ⟨hss, hn1, hn2, by omega, hsm⟩
end Go.Proofs.Ytmlbofbnklmedaa
