import Derived.Test.YtmlbofbnklmedaaP3
import Derived.Test.YtmlbofbnklmedaaJ1
/-! The document's Clash; known. -/
namespace Go.Proofs.Ytmlbofbnklmedaa
open Go Go.RowKit

theorem clash_true : (A B : List ByteArray) → (∀ j : Nat, j < A.length → j < B.length → A[j]? = B[j]?) → clashT A B = true
  | [], _, _ => by simp [clashT]
  | _ :: _, [], _ => by simp [clashT]
  | a :: A, b :: B, h => by
    have h0 := h 0 (by simp) (by simp)
    simp at h0
    rw [clashT, clash_true A B (fun j h1 h2 => by simpa using h (j + 1) (by simp; omega) (by simp; omega))]
    simp [h0]
theorem clash_false : (A B : List ByteArray) → (q : Nat) → q < A.length → q < B.length → A[q]? ≠ B[q]? → clashT A B = false
  | [], _, _, h, _, _ => by simp at h
  | _ :: _, [], _, _, h, _ => by simp at h
  | a :: A, b :: B, 0, _, _, h => by
    have : ¬ a = b := by simpa using h
    simp [clashT, this]
  | a :: A, b :: B, q + 1, h1, h2, h => by
    rw [clashT, clash_false A B q (by simpa using h1) (by simpa using h2) (by simpa using h)]
    simp
theorem reads_at {w : World} {a : Option Addr} {c n : Nat} {l : List ByteArray} (h : Reads w (.slice a n c) l) {q : Nat} (hq : q < l.length) : ∃ g o, a = some ⟨g, o, none⟩ ∧ w.cell? ⟨g, o + q, none⟩ = some (.string l[q]) := by
  obtain ⟨a', c', e, hc, hA⟩ := h
  cases e
  obtain ⟨b, o, rfl, _, hA⟩ := hA.resolve_left (by intro e; subst e; simp at hq)
  exact ⟨b, o, rfl, hA q _ (List.getElem?_eq_getElem hq)⟩
set_option maxHeartbeats 2000000 in
set_option maxRecDepth 100000 in
theorem rclash_any (a : Option Addr) (c : Nat) (b : Option Addr) (d : Nat) (A B : List ByteArray) (w : World) (hA : Hid (Reads w (.slice a A.length c) A)) (hB : Hid (Reads w (.slice b B.length d) B)) :
    Calls Try.prog 7 #[.slice a A.length c, .slice b B.length d] w fun e w' => e = .returned (.bool (clashT A B)) ∧ Below w.heap.size w w' := by
  have hAl := hA.out.len
  have hBl := hB.out.len
  go_enter Try.func7, Try.ntmps7
  go_wp2_with fail
  go_loopw [5] (fun i wr => ∃ q : Nat, q ≤ A.length ∧ i = .int .i64 q ∧ Below w.heap.size w wr ∧ Hid (∀ j : Nat, j < q → A[j]? = B[j]?)) (fun i _ => A.length - (intOf i).toNat)
  case atStart => exact ⟨0, Nat.zero_le _, rfl, Below.refl _ w, hid_f (fun j h => by omega)⟩
  case round =>
    obtain ⟨q, hq, rfl, HB, hsame⟩ := hrel
    by_cases h1 : q < A.length
    · have hd1 : decide ((q : Int) < (A.length : Int)) = true := by simp; omega
      by_cases h2 : q < B.length
      · have hd2 : decide ((q : Int) < (B.length : Int)) = true := by simp; omega
        obtain ⟨g1, o1, rfl, c1⟩ := reads_at hA.out h1
        obtain ⟨g2, o2, rfl, c2⟩ := reads_at hB.out h2
        have n1 := stay HB c1
        have n2 := stay HB c2
        obtain ⟨x, hx⟩ : ∃ x, Hid (A[q] = x) := ⟨_, hid_f rfl⟩
        obtain ⟨y, hy⟩ : ∃ y, Hid (B[q] = y) := ⟨_, hid_f rfl⟩
        rw [hx.out] at n1
        rw [hy.out] at n2
        have i1 : (q : Int) < (A.length : Int) := by omega
        have i2 : (q : Int) < (B.length : Int) := by omega
        have i3 : (0 : Int) ≤ (q : Int) := by omega
        clear c1 c2
        by_cases he : x = y
        · subst he
          have hsm : Hid (A[q]? = B[q]?) := hid_f (by rw [List.getElem?_eq_getElem h1, List.getElem?_eq_getElem h2, hx.out, hy.out])
          go_wp2_with fail
          go_quiet (fail)
          go_wp2_with fail
          go_roundw
          case rel => exact ⟨q + 1, by omega, by simp, below_drewN HB nq, hid_f (fun j hj => by
            by_cases ej : j = q
            · subst ej; exact hsm.out
            · exact hsame.out j (by omega))⟩
          case measure => simp [intOf]; omega
        · have hne : (x.toList == y.toList) = false := by rw [toList_beq]; simpa using he
          have hf : Hid (clashT A B = false) := hid_f (clash_false A B q h1 h2 (by rw [List.getElem?_eq_getElem h1, List.getElem?_eq_getElem h2, hx.out, hy.out]; simpa using he))
          go_wp2_with fail
          go_quiet (fail)
          go_wp2_with fail
          go_ret
          exact ⟨by rw [hf.out]; rfl, below_drewN HB nq⟩
      · have hd2 : decide ((q : Int) < (B.length : Int)) = false := by simp; omega
        have hf : Hid (clashT A B = true) := hid_f (clash_true A B (fun j h3 h4 => hsame.out j (by omega)))
        go_wp2_with fail
        go_ret
        exact ⟨by rw [hf.out]; rfl, HB⟩
    · have hd1 : decide ((q : Int) < (A.length : Int)) = false := by simp; omega
      have hf : Hid (clashT A B = true) := hid_f (clash_true A B (fun j h3 h4 => hsame.out j (by omega)))
      go_wp2_with fail
      go_ret
      exact ⟨by rw [hf.out]; rfl, HB⟩
/-- A bool, that tells something where it is true. -/
def Tells (P : Prop) (e : Ending) : Prop := ∃ z, e = .returned (.bool z) ∧ (z = true → P)
theorem tells_no {P : Prop} : Tells P (.returned (.bool false)) := ⟨false, rfl, fun h => by cases h⟩
theorem uniq_below {ns : List ByteArray} (h : ∀ i k : Nat, i < ns.length → k < i → ns[i]? ≠ ns[k]?) : Uniq ns := by
  intro i j n h1 h2
  have l1 := (List.getElem?_eq_some_iff.1 h1).1
  have l2 := (List.getElem?_eq_some_iff.1 h2).1
  rcases Nat.lt_trichotomy i j with h3 | h3 | h3
  · exact absurd (h2.trans h1.symm) (h j i l2 h3)
  · exact h3
  · exact absurd (h1.trans h2.symm) (h i j l1 h3)

set_option maxHeartbeats 2000000 in
set_option maxRecDepth 100000 in
theorem known_one (k x : Int) (s : ByteArray) (a1 : Option Addr) (c1 : Nat) (a2 : Option Addr) (M c2 : Nat) (ns : List ByteArray) (Kn : Nat → Prop) (w : World) (hMm : M ≤ 9223372036854775807) (hN : Hid (Reads w (.slice a1 ns.length c1) ns))
    (hI : Hid (∀ i, i < M → ∃ (g o : Nat) (k2 x2 : Int) (s2 : ByteArray) (p1 : Option Addr) (l1 e1 : Nat) (p2 : Option Addr) (l2 e2 : Nat), a2 = some ⟨g, o, none⟩ ∧
      CellsAt w g (o + i * 5) [.int .i64 k2, .int .i64 x2, .string s2, .slice p1 l1 e1, .slice p2 l2 e2] ∧
      ∀ w', Below w.heap.size w w' → Calls Try.prog 8 #[.agg #[.int .i64 k2, .int .i64 x2, .string s2, .slice p1 l1 e1, .slice p2 l2 e2]] w' fun e w'' => Tells (Kn i) e ∧ Below w'.heap.size w' w'')) :
    Calls Try.prog 8 #[.agg #[.int .i64 k, .int .i64 x, .string s, .slice a1 ns.length c1, .slice a2 M c2]] w fun e w' => Tells ((k = 6 → ns.length = M) ∧ Uniq ns ∧ ∀ i, i < M → Kn i) e ∧ Below w.heap.size w w' := by
  have hB1 : ∀ p, Below w.heap.size w (w.alloc p) := fun p => (Below.refl _ w).alloc (Nat.le_refl _) p
  have hNl := hN.out.len
  by_cases hbad : k = 6 ∧ ns.length ≠ M
  · obtain ⟨rfl, hne⟩ := hbad
    have hne' : ((ns.length : Int) == (M : Int)) = false := by simp; omega
    go_enter Try.func8, Try.ntmps8
    go_wp2_with fail
    go_ret
    exact ⟨tells_no, hB1 _⟩
  · have hk6 : Hid (k = 6 → ns.length = M) := hid_f (fun h => Decidable.byContradiction fun h2 => hbad ⟨h, h2⟩)
    have hguard : ((k == 6) && !((ns.length : Int) == (M : Int))) = false := by
      by_cases h6 : k = 6
      · have := hk6.out h6
        simp; omega
      · simp [h6]
    replace hbad := hid_f hbad
    by_cases h6 : k = 6
    all_goals
      first
        | (have e6 : (k == 6) = true := by simpa using h6
           have e7 : ((ns.length : Int) == (M : Int)) = true := by have := hk6.out h6; simp; omega
           have e8 : ((ns.length : Int) != (M : Int)) = false := by have := hk6.out h6; simp; omega)
        | (have e6 : (k == 6) = false := by simpa using h6)
      clear h6 hguard
      go_enter Try.func8, Try.ntmps8
      go_wp2_with fail
      try rw [e8]
      try clear e7 e8
      go_loopw [3] (fun i wr => ∃ q : Nat, q ≤ ns.length ∧ i = .int .i64 q ∧ Below w.heap.size w wr ∧ wr.heap[w.heap.size]? = some (.cells #[.int .i64 k, .int .i64 x, .string s, .slice a1 ns.length c1, .slice a2 M c2] 25 (0, 0)) ∧ Hid (∀ i k : Nat, i < q → k < i → ns[i]? ≠ ns[k]?)) (fun i _ => ns.length - (intOf i).toNat)
      case atStart => exact ⟨0, Nat.zero_le _, rfl, hB1 _, heap_alloc_new w _, hid_f (fun i k h => by omega)⟩
      case round =>
        clear hB1
        obtain ⟨q, hq, rfl, HB, h0, hdif⟩ := hrel
        obtain ⟨-, -, -, y3, y4, -⟩ := row_cells h0
        by_cases hlt : q < ns.length
        · have hd : decide ((q : Int) < (ns.length : Int)) = true := by simp; omega
          obtain ⟨g, o, rfl, cc1⟩ := reads_at hN.out hlt
          have n1 := cc1
          obtain ⟨x1, hx1⟩ : ∃ x1, Hid (ns[q] = x1) := ⟨_, hid_f rfl⟩
          rw [hx1.out] at n1
          clear cc1 y4
          go_wp2_with fail
          clear y3
          go_loopw [4] (fun i wr => ∃ p : Nat, p ≤ q ∧ i = .int .i64 p ∧ Below w.heap.size w wr ∧ wr.heap[w.heap.size]? = some (.cells #[.int .i64 k, .int .i64 x, .string s, .slice (some ⟨g, o, none⟩) ns.length c1, .slice a2 M c2] 25 (0, 0)) ∧ Hid (∀ k : Nat, k < p → ns[q]? ≠ ns[k]?)) (fun i _ => q - (intOf i).toNat)
          case atStart => exact ⟨0, Nat.zero_le _, rfl, HB, h0, hid_f (fun k h => by omega)⟩
          case round =>
            clear HB h0
            obtain ⟨p, hp, rfl, HB, h0, hdif2⟩ := hrel
            obtain ⟨-, -, -, y3, y4, -⟩ := row_cells h0
            by_cases hlt2 : p < q
            · have hd2 : decide ((p : Int) < (q : Int)) = true := by simp; omega
              have hpl : p < ns.length := by omega
              obtain ⟨g', o', e', cc2⟩ := reads_at hN.out hpl
              cases e'
              have n2 := stay HB cc2
              have n3 := stay HB n1
              obtain ⟨x2, hx2⟩ : ∃ x2, Hid (ns[p] = x2) := ⟨_, hid_f rfl⟩
              rw [hx2.out] at n2
              have i1 : (q : Int) < (ns.length : Int) := by omega
              have i2 : (p : Int) < (ns.length : Int) := by omega
              have i3 : (0 : Int) ≤ (p : Int) := by omega
              have i4 : (0 : Int) ≤ (q : Int) := by omega
              clear cc2 y4
              by_cases he : x1 = x2
              · subst he
                go_wp2_with fail
                go_quiet (fail)
                go_wp2_with fail
                go_ret
                exact ⟨tells_no, below_drewN HB nq⟩
              · have hne : (x1.toList == x2.toList) = false := by rw [toList_beq]; simpa using he
                have hnn : Hid (ns[q]? ≠ ns[p]?) := hid_f (by rw [List.getElem?_eq_getElem hlt, List.getElem?_eq_getElem hpl, hx1.out, hx2.out]; simpa using he)
                go_wp2_with fail
                go_quiet (fail)
                go_wp2_with fail
                go_roundw
                case rel => exact ⟨p + 1, by omega, by simp, below_drewN HB nq, h0, hid_f (fun k hk => by
                  by_cases ek : k = p
                  · subst ek; exact hnn.out
                  · exact hdif2.out k (by omega))⟩
                case measure => simp [intOf]; omega
            · have hd2 : decide ((p : Int) < (q : Int)) = false := by simp; omega
              have hpq : Hid (∀ k : Nat, k < q → ns[q]? ≠ ns[k]?) := hid_f (fun k hk => hdif2.out k (by omega))
              clear n1 y3 y4
              go_wp2_with fail
              go_roundw
              case rel => exact ⟨q + 1, by omega, by simp, HB, h0, hid_f (fun i k hi hk => by
                by_cases ei : i = q
                · subst ei; exact hpq.out k hk
                · exact hdif.out i k (by omega) hk)⟩
              case measure => simp [intOf]; omega
        · have hd : decide ((q : Int) < (ns.length : Int)) = false := by simp; omega
          have hun : Hid (Uniq ns) := hid_f (uniq_below (fun i k hi hk => hdif.out i k (by omega) hk))
          clear hdif y4
          go_wp2_with fail
          clear y3
          go_loopw [5] (fun i wr => ∃ p : Nat, p ≤ M ∧ i = .int .i64 p ∧ Below w.heap.size w wr ∧ wr.heap[w.heap.size]? = some (.cells #[.int .i64 k, .int .i64 x, .string s, .slice a1 ns.length c1, .slice a2 M c2] 25 (0, 0)) ∧ Hid (∀ i : Nat, i < p → Kn i)) (fun i _ => M - (intOf i).toNat)
          case atStart => exact ⟨0, Nat.zero_le _, rfl, HB, h0, hid_f (fun i h => by omega)⟩
          case round =>
            clear HB h0
            obtain ⟨p, hp, rfl, HB, h0, hkn⟩ := hrel
            obtain ⟨-, -, -, -, y4, -⟩ := row_cells h0
            by_cases hlt2 : p < M
            · obtain ⟨g, o, k2, x2, s2, p1, l1, e1, p2, l2, e2, rfl, hia, hcall⟩ := hI.out p hlt2
              have HC := hid_f (hcall wr HB)
              have i1 : (p : Int) < (M : Int) := by omega
              have i2 : (0 : Int) ≤ (p : Int) := by omega
              have hd2 : decide ((p : Int) < (M : Int)) = true := by simp; omega
              have z0 := stay HB (hia 0 _ rfl)
              have z1 := stay HB (hia 1 _ rfl)
              have z2 := stay HB (hia 2 _ rfl)
              have z3 := stay HB (hia 3 _ rfl)
              have z4 := stay HB (hia 4 _ rfl)
              simp only [Nat.add_zero] at z0
              clear hia hcall
              go_wp2_with fail
              go_fit HC.out
              rintro e w1 ⟨⟨z, rfl, hz⟩, hb1⟩
              have HB1 : Below w.heap.size w w1 := HB.trans (hb1.mono HB.size)
              have h01 := (hb1.block _ (Array.getElem?_eq_some_iff.1 h0).1).trans h0
              replace hz := hid_f hz
              clear z0 z1 z2 z3 z4 HC y4 hb1
              cases z with
              | false =>
                go_wp2_with fail
                go_ret
                exact ⟨tells_no, HB1⟩
              | true =>
                have hkp : Hid (∀ i : Nat, i < p + 1 → Kn i) := hid_f (fun i hi => by
                  by_cases ei : i = p
                  · rw [ei]; exact hz.out rfl
                  · exact hkn.out i (by omega))
                clear hz hkn
                go_wp2_with fail
                go_roundw
                case rel => exact ⟨p + 1, by omega, by simp, HB1, h01, hkp⟩
                case measure => simp [intOf]; omega
            · have hd2 : decide ((p : Int) < (M : Int)) = false := by simp; omega
              go_wp2_with fail
              go_ret
              exact ⟨⟨true, rfl, fun _ => ⟨hk6.out, hun.out, fun i hi => hkn.out i (by omega)⟩⟩, HB⟩
theorem known_any (t : Tr) (cs : List Value) (w : World) (hV : VRep w t cs) :
    Calls Try.prog 8 #[.agg cs.toArray] w fun e w' => Tells (KnownT t) e ∧ Below w.heap.size w w' := by
  match t, hV with
  | .node k x s ns its, hV =>
    unfold VRep at hV
    obtain ⟨nm, a, c, rfl, hn, hc, hI⟩ := hV
    obtain ⟨an, cn, rfl, hcn, -⟩ := id hn
    refine (known_one k x s an cn a its.length c ns (fun i => ∀ u, its[i]? = some u → KnownT u) w (by omega) (hid_f hn) (hid_f (fun i hi => ?_))).mono ?_
    · obtain ⟨b, o, rfl, hb, hL⟩ := hI.resolve_left (by intro e; subst e; simp at hi)
      obtain ⟨u, hu⟩ : ∃ u, its[i]? = some u := ⟨_, List.getElem?_eq_getElem hi⟩
      obtain ⟨ds, h1, h2⟩ := VRepL.at its o i u hL hu
      have hlt : SizeOf.sizeOf u < SizeOf.sizeOf its := tr_lt hu
      have hrec := fun w' (hw : Below w.heap.size w w') => known_any u ds w' (VRep.keep hw _ _ h2)
      obtain ⟨k2, x2, s2, an2, ln2, cn2, ai2, li2, ci2, rfl⟩ := vrep_five h2
      refine ⟨b, o, k2, x2, s2, an2, ln2, cn2, ai2, li2, ci2, rfl, h1, fun w' hw => (hrec w' hw).mono ?_⟩
      rintro e w'' ⟨⟨z, rfl, hz⟩, hb⟩
      exact ⟨⟨z, rfl, fun hz' u' hu' => by rw [hu] at hu'; cases hu'; exact hz hz'⟩, hb⟩
    · rintro e w' ⟨⟨z, rfl, hz⟩, hb⟩
      refine ⟨⟨z, rfl, fun hz' => ?_⟩, hb⟩
      obtain ⟨h1, h2, h3⟩ := hz hz'
      unfold KnownT
      exact ⟨h1, h2, (knownL_iff its).2 (fun i u hu => h3 i (List.getElem?_eq_some_iff.1 hu).1 u hu)⟩
termination_by SizeOf.sizeOf t
decreasing_by simp only [Tr.node.sizeOf_spec]; omega
end Go.Proofs.Ytmlbofbnklmedaa
