import Derived.Test.YtgjemghfejaifaaGreatDoorV1
/-! Parts, Equal. -/
namespace Go.Proofs.YtgjemghfejaifaaGreatDoor
open Go Go.RowKit

set_option maxHeartbeats 2000000 in
set_option maxRecDepth 100000 in
theorem parts_one (k x : Int) (s : ByteArray) (an : Option Addr) (ln cn : Nat) (ai : Option Addr) (M ci : Nat) (m : Int) (w : World) (hM : M ≤ 9223372036854775807)
    (hI : Hid (∀ i, i < M → ∃ (b o : Nat) (k2 x2 : Int) (s2 : ByteArray) (an2 : Option Addr) (ln2 cn2 : Nat) (ai2 : Option Addr) (li2 ci2 : Nat), ai = some ⟨b, o, none⟩ ∧ b < w.heap.size ∧ CellsAt w b (o + i * 5) [.int .i64 k2, .int .i64 x2, .string s2, .slice an2 ln2 cn2, .slice ai2 li2 ci2] ∧
      ∀ m' w', Below w.heap.size w w' → Calls Tryz.prog 12 #[.agg #[.int .i64 k2, .int .i64 x2, .string s2, .slice an2 ln2 cn2, .slice ai2 li2 ci2], .int .i64 m'] w' fun e w'' => (∃ n, e = .returned (.int .i64 n)) ∧ Below w'.heap.size w' w'')) :
    Calls Tryz.prog 12 #[.agg #[.int .i64 k, .int .i64 x, .string s, .slice an ln cn, .slice ai M ci], .int .i64 m] w fun e w' => (∃ n, e = .returned (.int .i64 n)) ∧ Below w.heap.size w w' := by
  go_enter Tryz.func12, Tryz.ntmps12
  go_wp2_with fail
  go_loopw [5, 6] (fun n i wr => ∃ (z : Int) (q : Nat), q ≤ M ∧ n = .int .i64 z ∧ i = .int .i64 q ∧ Below w.heap.size w wr ∧ wr.heap[w.heap.size]? = some (.cells #[.int .i64 k, .int .i64 x, .string s, .slice an ln cn, .slice ai M ci] 25 (0, 0))) (fun _ i _ => M - (intOf i).toNat)
  case atStart => exact ⟨_, 0, Nat.zero_le _, rfl, rfl, (Below.refl _ w).alloc (Nat.le_refl _) _, heap_alloc_new w _⟩
  case round =>
    obtain ⟨z, q, hq, rfl, rfl, hbel, hb0⟩ := hrel
    obtain ⟨y0, y1, y2, y3, y4, yf⟩ := row_cells hb0
    clear y0 y1 y2 y3 yf
    by_cases hlt : q < M
    · have hd : decide ((q : Int) < (M : Int)) = true := by simp; omega
      by_cases hz : z ≤ m
      · have hd2 : decide (z ≤ m) = true := by simpa using hz
        obtain ⟨b, o, k2, x2, s2, an2, ln2, cn2, ai2, li2, ci2, rfl, hbl, hC, hcall⟩ := hI.out q hlt
        have g0 : wr.cell? ⟨b, o + q * 5, none⟩ = some (.int .i64 k2) := (hbel.cell (p := ⟨b, o + q * 5, none⟩) hbl).trans (hC 0 _ rfl)
        have g1 : wr.cell? ⟨b, o + q * 5 + 1, none⟩ = some (.int .i64 x2) := (hbel.cell (p := ⟨b, o + q * 5 + 1, none⟩) hbl).trans (hC 1 _ rfl)
        have g2 : wr.cell? ⟨b, o + q * 5 + 2, none⟩ = some (.string s2) := (hbel.cell (p := ⟨b, o + q * 5 + 2, none⟩) hbl).trans (hC 2 _ rfl)
        have g3 : wr.cell? ⟨b, o + q * 5 + 3, none⟩ = some (.slice an2 ln2 cn2) := (hbel.cell (p := ⟨b, o + q * 5 + 3, none⟩) hbl).trans (hC 3 _ rfl)
        have g4 : wr.cell? ⟨b, o + q * 5 + 4, none⟩ = some (.slice ai2 li2 ci2) := (hbel.cell (p := ⟨b, o + q * 5 + 4, none⟩) hbl).trans (hC 4 _ rfl)
        have hcall' : ∀ m', Hid _ := fun m' => hid_e (hcall m' wr hbel)
        clear hC hcall
        go_wp2_with fail
        go_at_call 12
        refine (hcall' _).out.mono ?_
        rintro e w1 ⟨⟨n, rfl⟩, hb1⟩
        clear g0 g1 g2 g3 g4 hcall' y4
        have hbel1 : Below w.heap.size w w1 := hbel.trans (hb1.mono hbel.size)
        replace hb0 := (hb1.block _ (Array.getElem?_eq_some_iff.1 hb0).1).trans hb0
        go_wp2_with fail
        go_roundw
        case rel => exact ⟨_, q + 1, by omega, rfl, by simp, hbel1, hb0⟩
        case measure => simp [intOf]; omega
      · have hd2 : decide (z ≤ m) = false := by simpa using hz
        go_wp2_with fail
        go_ret
        exact ⟨⟨_, rfl⟩, hbel⟩
    · have hd : decide ((q : Int) < (M : Int)) = false := by simp; omega
      go_wp2_with fail
      go_ret
      exact ⟨⟨_, rfl⟩, hbel⟩

theorem parts_any (t : Tr) (cs : List Value) (m : Int) (w : World) (hV : VRep w t cs) :
    Calls Tryz.prog 12 #[.agg cs.toArray, .int .i64 m] w fun e w' => (∃ n, e = .returned (.int .i64 n)) ∧ Below w.heap.size w w' := by
  match t, hV with
  | .node k x s ns its, hV =>
    unfold VRep at hV
    obtain ⟨nm, a, c, rfl, ⟨an, cn, rfl, _⟩, hc, hI⟩ := hV
    refine parts_one k x s an ns.length cn a its.length c m w (by omega) (hid_e (fun i hi => ?_))
    obtain ⟨b, o, rfl, hb, hL⟩ := hI.resolve_left (by intro e; subst e; simp at hi)
    obtain ⟨cs', h1, h2⟩ := VRepL.at its o i its[i] hL (List.getElem?_eq_getElem hi)
    obtain ⟨k2, x2, s2, an2, ln2, cn2, ai2, li2, ci2, rfl⟩ := vrep_five h2
    refine ⟨b, o, k2, x2, s2, an2, ln2, cn2, ai2, li2, ci2, rfl, hb, h1, fun m' w' hb' => ?_⟩
    have hlt : SizeOf.sizeOf its[i] < SizeOf.sizeOf its := tr_lt (List.getElem?_eq_getElem hi)
    exact parts_any its[i] _ m' w' (VRep.keep hb' _ _ h2)
termination_by SizeOf.sizeOf t
decreasing_by simp only [Tr.node.sizeOf_spec]; omega
set_option maxHeartbeats 2000000 in
set_option maxRecDepth 100000 in
theorem eq_one (k x : Int) (s : ByteArray) (a1 : Option Addr) (N c1 : Nat) (a2 : Option Addr) (M c2 : Nat) (b1 : Option Addr) (d1 : Nat) (b2 : Option Addr) (d2 : Nat) (w : World) (hNm : N ≤ 9223372036854775807) (hMm : M ≤ 9223372036854775807)
    (hN : Hid (∀ i, i < N → ∃ (g o g' o' : Nat) (nm : ByteArray), a1 = some ⟨g, o, none⟩ ∧ b1 = some ⟨g', o', none⟩ ∧ w.cell? ⟨g, o + i, none⟩ = some (.string nm) ∧ w.cell? ⟨g', o' + i, none⟩ = some (.string nm)))
    (hI : Hid (∀ i, i < M → ∃ (g o g' o' : Nat) (k2 x2 : Int) (s2 : ByteArray) (p1 : Option Addr) (l1 e1 : Nat) (p2 : Option Addr) (l2 e2 : Nat) (q1 : Option Addr) (f1 : Nat) (q2 : Option Addr) (f2 : Nat), a2 = some ⟨g, o, none⟩ ∧ b2 = some ⟨g', o', none⟩ ∧
      CellsAt w g (o + i * 5) [.int .i64 k2, .int .i64 x2, .string s2, .slice p1 l1 e1, .slice p2 l2 e2] ∧ CellsAt w g' (o' + i * 5) [.int .i64 k2, .int .i64 x2, .string s2, .slice q1 l1 f1, .slice q2 l2 f2] ∧
      ∀ w', Below w.heap.size w w' → Calls Tryz.prog 10 #[.agg #[.int .i64 k2, .int .i64 x2, .string s2, .slice p1 l1 e1, .slice p2 l2 e2], .agg #[.int .i64 k2, .int .i64 x2, .string s2, .slice q1 l1 f1, .slice q2 l2 f2]] w' fun e w'' => e = .returned (.bool true) ∧ Below w'.heap.size w' w'')) :
    Calls Tryz.prog 10 #[.agg #[.int .i64 k, .int .i64 x, .string s, .slice a1 N c1, .slice a2 M c2], .agg #[.int .i64 k, .int .i64 x, .string s, .slice b1 N d1, .slice b2 M d2]] w fun e w' => e = .returned (.bool true) ∧ Below w.heap.size w w' := by
  have hB2 : ∀ p q, Below w.heap.size w ((w.alloc p).alloc q) := fun p q => ((Below.refl _ w).alloc (Nat.le_refl _) p).alloc (by simp) q
  go_enter Tryz.func10, Tryz.ntmps10
  go_wp2_with fail
  go_loopw [5] (fun i wr => ∃ q : Nat, q ≤ N ∧ i = .int .i64 q ∧ Below w.heap.size w wr ∧ wr.heap[w.heap.size]? = some (.cells #[.int .i64 k, .int .i64 x, .string s, .slice a1 N c1, .slice a2 M c2] 25 (0, 0)) ∧ wr.heap[w.heap.size + 1]? = some (.cells #[.int .i64 k, .int .i64 x, .string s, .slice b1 N d1, .slice b2 M d2] 25 (0, 0))) (fun i _ => N - (intOf i).toNat)
  case atStart => exact ⟨0, Nat.zero_le _, rfl, hB2 _ _, new1 w _ _, new2 w _ _⟩
  case round =>
    obtain ⟨q, hq, rfl, HB, h0, h1⟩ := hrel
    clear hB2
    obtain ⟨-, -, -, y3, y4, -⟩ := row_cells h0
    obtain ⟨-, -, -, y3', -, -⟩ := row_cells h1
    by_cases hlt : q < N
    · obtain ⟨g, o, g', o', nm, rfl, rfl, hc, hc'⟩ := hN.out q hlt
      have n1 := stay HB hc
      have n2 := stay HB hc'
      have i1 : (q : Int) < (N : Int) := by omega
      have i2 : (0 : Int) ≤ (q : Int) := by omega
      have hd : decide ((q : Int) < (N : Int)) = true := by simp; omega
      clear hc hc' y4
      go_wp2_with fail
      go_quiet (fail)
      go_wp2_with fail
      go_roundw
      case rel => exact ⟨q + 1, by omega, by simp, below_drewN HB nq, h0, h1⟩
      case measure => simp [intOf]; omega
    · have hd : decide ((q : Int) < (N : Int)) = false := by simp; omega
      clear y3' y4
      go_wp2_with fail
      clear y3
      go_loopw [6] (fun i wr => ∃ p : Nat, p ≤ M ∧ i = .int .i64 p ∧ Below w.heap.size w wr ∧ wr.heap[w.heap.size]? = some (.cells #[.int .i64 k, .int .i64 x, .string s, .slice a1 N c1, .slice a2 M c2] 25 (0, 0)) ∧ wr.heap[w.heap.size + 1]? = some (.cells #[.int .i64 k, .int .i64 x, .string s, .slice b1 N d1, .slice b2 M d2] 25 (0, 0))) (fun i _ => M - (intOf i).toNat)
      case atStart => exact ⟨0, Nat.zero_le _, rfl, HB, h0, h1⟩
      case round =>
        clear HB h0 h1
        obtain ⟨p, hp, rfl, HB, h0, h1⟩ := hrel
        obtain ⟨-, -, -, -, y4, -⟩ := row_cells h0
        obtain ⟨-, -, -, -, y4', -⟩ := row_cells h1
        by_cases hlt2 : p < M
        · obtain ⟨g, o, g', o', k2, x2, s2, p1, l1, e1, p2, l2, e2, q1, f1, q2, f2, rfl, rfl, hia, hia', hcall⟩ := hI.out p hlt2
          have HC := hid_e hcall
          have i1 : (p : Int) < (M : Int) := by omega
          have i2 : (0 : Int) ≤ (p : Int) := by omega
          have hd2 : decide ((p : Int) < (M : Int)) = true := by simp; omega
          have z0 := stay HB (hia 0 _ rfl)
          have z1 := stay HB (hia 1 _ rfl)
          have z2 := stay HB (hia 2 _ rfl)
          have z3 := stay HB (hia 3 _ rfl)
          have z4 := stay HB (hia 4 _ rfl)
          have v0 := stay HB (hia' 0 _ rfl)
          have v1 := stay HB (hia' 1 _ rfl)
          have v2 := stay HB (hia' 2 _ rfl)
          have v3 := stay HB (hia' 3 _ rfl)
          have v4 := stay HB (hia' 4 _ rfl)
          simp only [Nat.add_zero] at z0 v0
          clear hia hia' hcall
          go_wp2_with fail
          refine wp_region_quiet (C := fun w' => Below wr.heap.size wr w') (by kernel_rfl) (by kernel_rfl) (below_drewN (Below.refl _ _) 1) ?_
          refine wpQuiet_step (fun K hK => ?_)
          go_simp
          refine ⟨_, fun _ _ => rfl, hK _ ?_⟩
          clear hK K
          refine wpQuiet_step (fun K hK => ?_)
          refine ⟨.slice (some ⟨g, o, none⟩) M c2, fun w' hw' => ?_, hK _ ?_⟩
          · have := stay hw' y4
            go_simp
          clear hK K
          refine wpQuiet_step (fun K hK => ?_)
          go_simp
          refine ⟨_, fun _ _ => rfl, hK _ ?_⟩
          clear hK K
          refine wpQuiet_step (fun K hK => ?_)
          go_simp
          refine ⟨_, fun _ _ => rfl, hK _ ?_⟩
          clear hK K
          refine wpQuiet_step (fun K hK => ?_)
          refine ⟨.agg #[.int .i64 k2, .int .i64 x2, .string s2, .slice p1 l1 e1, .slice p2 l2 e2], fun w' hw' => ?_, hK _ ?_⟩
          · have t0 := stay hw' z0
            have t1 := stay hw' z1
            have t2 := stay hw' z2
            have t3 := stay hw' z3
            have t4 := stay hw' z4
            go_simp
          clear hK K
          refine wpQuiet_step (fun K hK => ?_)
          go_simp
          refine ⟨_, fun _ _ => rfl, hK _ ?_⟩
          clear hK K
          refine wpQuiet_step (fun K hK => ?_)
          refine ⟨.slice (some ⟨g', o', none⟩) M d2, fun w' hw' => ?_, hK _ ?_⟩
          · have := stay hw' y4'
            go_simp
          clear hK K
          refine wpQuiet_step (fun K hK => ?_)
          go_simp
          refine ⟨_, fun _ _ => rfl, hK _ ?_⟩
          clear hK K
          refine wpQuiet_step (fun K hK => ?_)
          go_simp
          refine ⟨_, fun _ _ => rfl, hK _ ?_⟩
          clear hK K
          refine wpQuiet_step (fun K hK => ?_)
          refine ⟨.agg #[.int .i64 k2, .int .i64 x2, .string s2, .slice q1 l1 f1, .slice q2 l2 f2], fun w' hw' => ?_, hK _ ?_⟩
          · have t0 := stay hw' v0
            have t1 := stay hw' v1
            have t2 := stay hw' v2
            have t3 := stay hw' v3
            have t4 := stay hw' v4
            go_simp
          clear hK K
          refine wpQuiet_step (fun K hK => ?_)
          refine ⟨.bool true, fun w' hw' => ?_, hK _ ?_⟩
          · go_simp
            refine (HC.out w' (HB.trans (hw'.mono HB.size))).mono ?_
            rintro e w'' ⟨rfl, hb⟩
            exact ⟨rfl, hw'.trans (hb.mono hw'.size)⟩
          clear hK K
          refine wpQuiet_step (fun K hK => ?_)
          go_simp
          refine ⟨_, fun _ _ => rfl, hK _ ?_⟩
          clear hK K
          refine wpQuiet_nil ?_
          intro w' hw'
          have HB' : Below w.heap.size w w' := HB.trans (hw'.mono HB.size)
          have h0' := (hw'.block _ (Array.getElem?_eq_some_iff.1 h0).1).trans h0
          have h1' := (hw'.block _ (Array.getElem?_eq_some_iff.1 h1).1).trans h1
          clear hw' y4 y4' z0 z1 z2 z3 z4 v0 v1 v2 v3 v4
          go_wp2_with fail
          go_roundw
          case rel => exact ⟨p + 1, by omega, by simp, HB', h0', h1'⟩
          case measure => simp [intOf]; omega
        · have hd2 : decide ((p : Int) < (M : Int)) = false := by simp; omega
          go_wp2_with fail
          go_ret
          exact ⟨rfl, HB⟩

theorem reads_two {w : World} {a b : Option Addr} {N c d : Nat} {l : List ByteArray} (h : Reads w (.slice a N c) l) (h' : Reads w (.slice b N d) l) : ∀ i, i < N → ∃ (g o g' o' : Nat) (nm : ByteArray), a = some ⟨g, o, none⟩ ∧ b = some ⟨g', o', none⟩ ∧ w.cell? ⟨g, o + i, none⟩ = some (.string nm) ∧ w.cell? ⟨g', o' + i, none⟩ = some (.string nm) := by
  intro i hi
  obtain ⟨a0, c0, e, _, h⟩ := h
  obtain ⟨b0, d0, e', _, h'⟩ := h'
  cases e
  cases e'
  obtain ⟨g, o, rfl, _, h⟩ := h.resolve_left (by intro e; subst e; simp at hi)
  obtain ⟨g', o', rfl, _, h'⟩ := h'.resolve_left (by intro e; subst e; simp at hi)
  exact ⟨g, o, g', o', l[i], rfl, rfl, h i _ (List.getElem?_eq_getElem hi), h' i _ (List.getElem?_eq_getElem hi)⟩

theorem equal_same (t : Tr) (cs cs' : List Value) (w : World) (hV : VRep w t cs) (hV' : VRep w t cs') :
    Calls Tryz.prog 10 #[.agg cs.toArray, .agg cs'.toArray] w fun e w' => e = .returned (.bool true) ∧ Below w.heap.size w w' := by
  match t, hV, hV' with
  | .node k x s ns its, hV, hV' =>
    unfold VRep at hV hV'
    obtain ⟨nm, a, c, rfl, hn, hc, hI⟩ := hV
    obtain ⟨nm', a', c', rfl, hn', hc', hI'⟩ := hV'
    obtain ⟨an, cn, rfl, hcn, -⟩ := id hn
    obtain ⟨an', cn', rfl, -, -⟩ := id hn'
    refine eq_one k x s an ns.length cn a its.length c an' cn' a' c' w (by omega) (by omega) (hid_e (reads_two hn hn')) (hid_e (fun i hi => ?_))
    obtain ⟨b, o, rfl, hb, hL⟩ := hI.resolve_left (by intro e; subst e; simp at hi)
    obtain ⟨b', o', rfl, hb', hL'⟩ := hI'.resolve_left (by intro e; subst e; simp at hi)
    obtain ⟨u, hu⟩ : ∃ u, its[i]? = some u := ⟨_, List.getElem?_eq_getElem hi⟩
    obtain ⟨ds, h1, h2⟩ := VRepL.at its o i u hL hu
    obtain ⟨ds', h1', h2'⟩ := VRepL.at its o' i u hL' hu
    have hlt : SizeOf.sizeOf u < SizeOf.sizeOf its := tr_lt hu
    have hrec := fun w' (hw : Below w.heap.size w w') => equal_same u ds ds' w' (VRep.keep hw _ _ h2) (VRep.keep hw _ _ h2')
    cases u with
    | node k2 x2 s2 ns2 its2 =>
      unfold VRep at h2 h2'
      obtain ⟨n2, a2, c2, rfl, ⟨p2, e2, rfl, _⟩, _⟩ := h2
      obtain ⟨n2', a2', c2', rfl, ⟨p2', e2', rfl, _⟩, _⟩ := h2'
      exact ⟨b, o, b', o', k2, x2, s2, p2, ns2.length, e2, a2, its2.length, c2, p2', e2', a2', c2', rfl, rfl, h1, h1', hrec⟩
termination_by SizeOf.sizeOf t
decreasing_by simp only [Tr.node.sizeOf_spec]; omega
end Go.Proofs.YtgjemghfejaifaaGreatDoor
