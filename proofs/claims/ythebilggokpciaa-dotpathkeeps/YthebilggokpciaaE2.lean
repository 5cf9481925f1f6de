import Derived.Test.YthebilggokpciaaE1
/-! Parts: it answers some number. -/
namespace Go.Proofs.Ythebilggokpciaa
open Go Go.RowKit

theorem hid_e {p : Prop} (h : p) : Hid p := h

set_option maxHeartbeats 2000000 in
set_option maxRecDepth 100000 in
theorem parts_one (k x : Int) (s : ByteArray) (an : Option Addr) (ln cn : Nat) (ai : Option Addr) (M ci : Nat) (m : Int) (w : World) (hM : M ≤ 9223372036854775807)
    (hI : Hid (∀ i, i < M → ∃ (b o : Nat) (k2 x2 : Int) (s2 : ByteArray) (an2 : Option Addr) (ln2 cn2 : Nat) (ai2 : Option Addr) (li2 ci2 : Nat), ai = some ⟨b, o, none⟩ ∧ b < w.heap.size ∧ CellsAt w b (o + i * 5) [.int .i64 k2, .int .i64 x2, .string s2, .slice an2 ln2 cn2, .slice ai2 li2 ci2] ∧
      ∀ m' w', Below w.heap.size w w' → Calls Try.prog 23 #[.agg #[.int .i64 k2, .int .i64 x2, .string s2, .slice an2 ln2 cn2, .slice ai2 li2 ci2], .int .i64 m'] w' fun e w'' => (∃ n, e = .returned (.int .i64 n)) ∧ Below w'.heap.size w' w'')) :
    Calls Try.prog 23 #[.agg #[.int .i64 k, .int .i64 x, .string s, .slice an ln cn, .slice ai M ci], .int .i64 m] w fun e w' => (∃ n, e = .returned (.int .i64 n)) ∧ Below w.heap.size w w' := by
  go_enter Try.func23, Try.ntmps23
  go_wp2_with fail
  go_loopw [5, 6] (fun n i wr => ∃ (z : Int) (q : Nat), q ≤ M ∧ n = .int .i64 z ∧ i = .int .i64 q ∧ Below w.heap.size w wr ∧ wr.heap[w.heap.size]? = some (.cells #[.int .i64 k, .int .i64 x, .string s, .slice an ln cn, .slice ai M ci] 25 (0, 0))) (fun _ i _ => M - (intOf i).toNat)
  case atStart => exact ⟨_, 0, Nat.zero_le _, rfl, rfl, (Below.refl _ w).alloc (Nat.le_refl _) _, heap_alloc_new w _⟩
  case round =>
    obtain ⟨z, q, hq, rfl, rfl, hbel, hb0⟩ := hrel
    obtain ⟨y0, y1, y2, y3, y4, yf⟩ := row_cells hb0
    clear y0 y1 y2 y3 yf
    by_cases hlt : q < M
    · have hd : decide ((q : Int) < (M : Int)) = true := by simp; omega
      by_cases hz : z ≤ m
      · have hd2 : decide (z ≤ m) = true := by simpa using hz
        obtain ⟨b, o, k2, x2, s2, an2, ln2, cn2, ai2, li2, ci2, rfl, hbl, hC, hcall⟩ := hI.out q hlt
        have g0 : wr.cell? ⟨b, o + q * 5, none⟩ = some (.int .i64 k2) := (hbel.cell (p := ⟨b, o + q * 5, none⟩) hbl).trans (hC 0 _ rfl)
        have g1 : wr.cell? ⟨b, o + q * 5 + 1, none⟩ = some (.int .i64 x2) := (hbel.cell (p := ⟨b, o + q * 5 + 1, none⟩) hbl).trans (hC 1 _ rfl)
        have g2 : wr.cell? ⟨b, o + q * 5 + 2, none⟩ = some (.string s2) := (hbel.cell (p := ⟨b, o + q * 5 + 2, none⟩) hbl).trans (hC 2 _ rfl)
        have g3 : wr.cell? ⟨b, o + q * 5 + 3, none⟩ = some (.slice an2 ln2 cn2) := (hbel.cell (p := ⟨b, o + q * 5 + 3, none⟩) hbl).trans (hC 3 _ rfl)
        have g4 : wr.cell? ⟨b, o + q * 5 + 4, none⟩ = some (.slice ai2 li2 ci2) := (hbel.cell (p := ⟨b, o + q * 5 + 4, none⟩) hbl).trans (hC 4 _ rfl)
        have hcall' : ∀ m', Hid _ := fun m' => hid_e (hcall m' wr hbel)
        clear hC hcall
        go_wp2_with fail
        go_at_call 23
        refine (hcall' _).out.mono ?_
        rintro e w1 ⟨⟨n, rfl⟩, hb1⟩
        clear g0 g1 g2 g3 g4 hcall' y4
        have hbel1 : Below w.heap.size w w1 := hbel.trans (hb1.mono hbel.size)
        replace hb0 := (hb1.block _ (Array.getElem?_eq_some_iff.1 hb0).1).trans hb0
        go_wp2_with fail
        go_roundw
        case rel => exact ⟨_, q + 1, by omega, rfl, by simp, hbel1, hb0⟩
        case measure => simp [intOf]; omega
      · have hd2 : decide (z ≤ m) = false := by simpa using hz
        go_wp2_with fail
        go_ret
        exact ⟨⟨_, rfl⟩, hbel⟩
    · have hd : decide ((q : Int) < (M : Int)) = false := by simp; omega
      go_wp2_with fail
      go_ret
      exact ⟨⟨_, rfl⟩, hbel⟩

theorem tr_lt {its : List Tr} {i : Nat} {t : Tr} (h : its[i]? = some t) : SizeOf.sizeOf t < SizeOf.sizeOf its := by
  have := List.mem_of_getElem? h
  exact List.sizeOf_lt_of_mem this

theorem parts_any (t : Tr) (cs : List Value) (m : Int) (w : World) (hV : VRep w t cs) :
    Calls Try.prog 23 #[.agg cs.toArray, .int .i64 m] w fun e w' => (∃ n, e = .returned (.int .i64 n)) ∧ Below w.heap.size w w' := by
  match t, hV with
  | .node k x s ns its, hV =>
    unfold VRep at hV
    obtain ⟨nm, a, c, rfl, ⟨an, cn, rfl, _⟩, hc, hI⟩ := hV
    refine parts_one k x s an ns.length cn a its.length c m w (by omega) (hid_e (fun i hi => ?_))
    obtain ⟨b, o, rfl, hb, hL⟩ := hI.resolve_left (by intro e; subst e; simp at hi)
    obtain ⟨cs', h1, h2⟩ := VRepL.at its o i its[i] hL (List.getElem?_eq_getElem hi)
    obtain ⟨k2, x2, s2, an2, ln2, cn2, ai2, li2, ci2, rfl⟩ := vrep_five h2
    refine ⟨b, o, k2, x2, s2, an2, ln2, cn2, ai2, li2, ci2, rfl, hb, h1, fun m' w' hb' => ?_⟩
    have hlt : SizeOf.sizeOf its[i] < SizeOf.sizeOf its := tr_lt (List.getElem?_eq_getElem hi)
    exact parts_any its[i] _ m' w' (VRep.keep hb' _ _ h2)
termination_by SizeOf.sizeOf t
decreasing_by simp only [Tr.node.sizeOf_spec]; omega
end Go.Proofs.Ythebilggokpciaa
