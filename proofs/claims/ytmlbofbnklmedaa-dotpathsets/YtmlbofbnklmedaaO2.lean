import Derived.Test.YtmlbofbnklmedaaO1
/-! alike. -/
namespace Go.Proofs.Ytmlbofbnklmedaa
open Go Go.RowKit

theorem quiet_if {c : Bool} {p q : Prop} (h : c = true) (hp : p) : if c = true then p else q := by rw [if_pos h]; exact hp
theorem reads_n {w : World} {a : Option Addr} {c n : Nat} {l : List ByteArray} (h : Reads w (.slice a n c) l) : l.length = n := by
  obtain ⟨a', c', e, _⟩ := h
  cases e
  rfl
set_option maxHeartbeats 4000000 in
set_option maxRecDepth 100000 in
theorem alike_other (k x : Int) (s : ByteArray) (a1 : Option Addr) (N c1 : Nat) (a2 : Option Addr) (M c2 : Nat) (b1 : Option Addr) (d1 : Nat) (b2 : Option Addr) (d2 : Nat) (ns ns' : List ByteArray) (w : World) (hMm : M ≤ 9223372036854775807) (h6 : ¬ k = 6)
    (hI : Hid (∀ i, i < M → ∃ (j g o g' o' : Nat) (k2 x2 : Int) (s2 : ByteArray) (p1 : Option Addr) (l1 e1 : Nat) (p2 : Option Addr) (l2 e2 : Nat) (k3 x3 : Int) (s3 : ByteArray) (q1 : Option Addr) (m1 f1 : Nat) (q2 : Option Addr) (m2 f2 : Nat), a2 = some ⟨g, o, none⟩ ∧ b2 = some ⟨g', o', none⟩ ∧ j < M ∧ MatchAt k ns ns' i j ∧
      CellsAt w g (o + i * 5) [.int .i64 k2, .int .i64 x2, .string s2, .slice p1 l1 e1, .slice p2 l2 e2] ∧ CellsAt w g' (o' + j * 5) [.int .i64 k3, .int .i64 x3, .string s3, .slice q1 m1 f1, .slice q2 m2 f2] ∧
      ∀ w', Below w.heap.size w w' → Calls Try.prog 13 #[.agg #[.int .i64 k2, .int .i64 x2, .string s2, .slice p1 l1 e1, .slice p2 l2 e2], .agg #[.int .i64 k3, .int .i64 x3, .string s3, .slice q1 m1 f1, .slice q2 m2 f2]] w' fun e w'' => e = .returned (.bool true) ∧ Below w'.heap.size w' w'')) :
    Calls Try.prog 13 #[.agg #[.int .i64 k, .int .i64 x, .string s, .slice a1 N c1, .slice a2 M c2], .agg #[.int .i64 k, .int .i64 x, .string s, .slice b1 N d1, .slice b2 M d2]] w fun e w' => e = .returned (.bool true) ∧ Below w.heap.size w w' := by
  have hB2 : ∀ p q, Below w.heap.size w ((w.alloc p).alloc q) := fun p q => ((Below.refl _ w).alloc (Nat.le_refl _) p).alloc (by simp) q
  have e6 : (k == 6) = false := by simpa using h6
  go_enter Try.func13, Try.ntmps13
  go_wp2_with fail
  go_loopw [5] (fun iv wr => ∃ i : Nat, i ≤ M ∧ iv = .int .i64 i ∧ Below w.heap.size w wr ∧ wr.heap[w.heap.size]? = some (.cells #[.int .i64 k, .int .i64 x, .string s, .slice a1 N c1, .slice a2 M c2] 25 (0, 0)) ∧ wr.heap[w.heap.size + 1]? = some (.cells #[.int .i64 k, .int .i64 x, .string s, .slice b1 N d1, .slice b2 M d2] 25 (0, 0))) (fun iv _ => M - (intOf iv).toNat)
  case atStart => exact ⟨0, Nat.zero_le _, rfl, hB2 _ _, new1 w _ _, new2 w _ _⟩
  case round =>
    obtain ⟨i, hi, rfl, HB, h0, h1⟩ := hrel
    clear hB2
    obtain ⟨y0, -, -, y3, y4, -⟩ := row_cells h0
    obtain ⟨-, -, -, y3', y4', -⟩ := row_cells h1
    by_cases hlt : i < M
    · obtain ⟨j, g, o, g', o', k2, x2, s2, p1, l1, e1, p2, l2, e2, k3, x3, s3, q1, m1, f1, q2, m2, f2, rfl, rfl, hj, hma, hia, hia', hcall⟩ := hI.out i hlt
      have HC := hid_f hcall
      have i1 : (i : Int) < (M : Int) := by omega
      have i2 : (0 : Int) ≤ (i : Int) := by omega
      have i3 : (j : Int) < (M : Int) := by omega
      have i4 : (0 : Int) ≤ (j : Int) := by omega
      have hd : decide ((i : Int) < (M : Int)) = true := by simp; omega
      have hdj : decide ((M : Int) ≤ (j : Int)) = false := by simp; omega
      have hji : j = i := by unfold MatchAt at hma; rw [if_neg h6] at hma; exact hma
      subst hji
      have z0 := stay HB (hia 0 _ rfl)
      have z1 := stay HB (hia 1 _ rfl)
      have z2 := stay HB (hia 2 _ rfl)
      have z3 := stay HB (hia 3 _ rfl)
      have z4 := stay HB (hia 4 _ rfl)
      have v0 := stay HB (hia' 0 _ rfl)
      have v1 := stay HB (hia' 1 _ rfl)
      have v2 := stay HB (hia' 2 _ rfl)
      have v3 := stay HB (hia' 3 _ rfl)
      have v4 := stay HB (hia' 4 _ rfl)
      simp only [Nat.add_zero] at z0 v0
      clear hia hia' hcall y3 y3'
      go_wp2_with fail
      refine wp_region_quiet (C := fun w' => Below wr.heap.size wr w') (by kernel_rfl) (by kernel_rfl) (below_drewN (Below.refl _ _) 1) ?_
      refine wpQuiet_step (fun K hK => ?_)
      go_simp
      refine ⟨_, fun _ _ => rfl, hK _ ?_⟩
      clear hK K
      refine wpQuiet_step (fun K hK => ?_)
      go_simp
      refine ⟨_, fun _ _ => rfl, hK _ ?_⟩
      clear hK K
      refine wpQuiet_step (fun K hK => ?_)
      refine ⟨.slice (some ⟨g', o', none⟩) M d2, fun w' hw' => ?_, hK _ ?_⟩
      · have t0 := stay hw' y4'
        go_simp
      clear hK K
      refine wpQuiet_step (fun K hK => ?_)
      go_simp
      refine ⟨_, fun _ _ => rfl, hK _ ?_⟩
      clear hK K
      refine wpQuiet_step (fun K hK => ?_)
      refine ⟨.bool false, fun w' _ => ?_, hK _ ?_⟩
      · go_simp
      clear hK K
      refine wpQuiet_step (fun K hK => ?_)
      go_simp
      refine ⟨_, fun _ _ => rfl, hK _ ?_⟩
      clear hK K
      refine wpQuiet_step (fun K hK => ?_)
      go_simp
      refine ⟨_, fun _ _ => rfl, hK _ ?_⟩
      clear hK K
      refine wpQuiet_step (fun K hK => ?_)
      refine quiet_if (by kernel_rfl) ?_
      refine ⟨.slice (some ⟨g, o, none⟩) M c2, fun w' hw' => ?_, hK _ ?_⟩
      · have t0 := stay hw' y4
        go_simp
      clear hK K
      refine wpQuiet_step (fun K hK => ?_)
      go_simp
      refine ⟨_, fun _ _ => rfl, hK _ ?_⟩
      clear hK K
      refine wpQuiet_step (fun K hK => ?_)
      go_simp
      refine ⟨_, fun _ _ => rfl, hK _ ?_⟩
      clear hK K
      refine wpQuiet_step (fun K hK => ?_)
      refine quiet_if (by kernel_rfl) ?_
      refine ⟨.agg #[.int .i64 k2, .int .i64 x2, .string s2, .slice p1 l1 e1, .slice p2 l2 e2], fun w' hw' => ?_, hK _ ?_⟩
      · have t0 := stay hw' z0
        have t1 := stay hw' z1
        have t2 := stay hw' z2
        have t3 := stay hw' z3
        have t4 := stay hw' z4
        go_simp
      clear hK K
      refine wpQuiet_step (fun K hK => ?_)
      go_simp
      refine ⟨_, fun _ _ => rfl, hK _ ?_⟩
      clear hK K
      refine wpQuiet_step (fun K hK => ?_)
      refine quiet_if (by kernel_rfl) ?_
      refine ⟨.slice (some ⟨g', o', none⟩) M d2, fun w' hw' => ?_, hK _ ?_⟩
      · have t0 := stay hw' y4'
        go_simp
      clear hK K
      refine wpQuiet_step (fun K hK => ?_)
      go_simp
      refine ⟨_, fun _ _ => rfl, hK _ ?_⟩
      clear hK K
      refine wpQuiet_step (fun K hK => ?_)
      go_simp
      refine ⟨_, fun _ _ => rfl, hK _ ?_⟩
      clear hK K
      refine wpQuiet_step (fun K hK => ?_)
      refine quiet_if (by kernel_rfl) ?_
      refine ⟨.agg #[.int .i64 k3, .int .i64 x3, .string s3, .slice q1 m1 f1, .slice q2 m2 f2], fun w' hw' => ?_, hK _ ?_⟩
      · have t0 := stay hw' v0
        have t1 := stay hw' v1
        have t2 := stay hw' v2
        have t3 := stay hw' v3
        have t4 := stay hw' v4
        go_simp
      clear hK K
      refine wpQuiet_step (fun K hK => ?_)
      refine quiet_if (by kernel_rfl) ?_
      refine ⟨.bool true, fun w' hw' => ?_, hK _ ?_⟩
      · go_simp
        refine (HC.out w' (HB.trans (hw'.mono HB.size))).mono ?_
        rintro e w'' ⟨rfl, hb⟩
        exact ⟨rfl, hw'.trans (hb.mono hw'.size)⟩
      clear hK K
      refine wpQuiet_step (fun K hK => ?_)
      go_simp
      refine ⟨_, fun _ _ => rfl, hK _ ?_⟩
      clear hK K
      refine wpQuiet_step (fun K hK => ?_)
      go_simp
      refine ⟨_, fun _ _ => rfl, hK _ ?_⟩
      clear hK K
      refine wpQuiet_nil ?_
      intro w' hw'
      have HB' : Below w.heap.size w w' := HB.trans (hw'.mono HB.size)
      have h0' := (hw'.block _ (Array.getElem?_eq_some_iff.1 h0).1).trans h0
      have h1' := (hw'.block _ (Array.getElem?_eq_some_iff.1 h1).1).trans h1
      clear hw' y4 y4' z0 z1 z2 z3 z4 v0 v1 v2 v3 v4
      go_wp2_with fail
      go_roundw
      case rel => exact ⟨j + 1, by omega, by simp, HB', h0', h1'⟩
      case measure => simp [intOf]; omega
    · have hd : decide ((i : Int) < (M : Int)) = false := by simp; omega
      go_wp2_with fail
      go_ret
      exact ⟨rfl, HB⟩
set_option maxHeartbeats 4000000 in
set_option maxRecDepth 100000 in
theorem alike_obj (k x : Int) (s : ByteArray) (a1 : Option Addr) (N c1 : Nat) (a2 : Option Addr) (M c2 : Nat) (b1 : Option Addr) (d1 : Nat) (b2 : Option Addr) (d2 : Nat) (ns ns' : List ByteArray) (w : World) (hMm : M ≤ 9223372036854775807) (h6 : k = 6) (hNa : Hid (Reads w (.slice a1 N c1) ns)) (hNb : Hid (Reads w (.slice b1 N d1) ns'))
    (hI : Hid (∀ i, i < M → ∃ (j g o g' o' : Nat) (k2 x2 : Int) (s2 : ByteArray) (p1 : Option Addr) (l1 e1 : Nat) (p2 : Option Addr) (l2 e2 : Nat) (k3 x3 : Int) (s3 : ByteArray) (q1 : Option Addr) (m1 f1 : Nat) (q2 : Option Addr) (m2 f2 : Nat), a2 = some ⟨g, o, none⟩ ∧ b2 = some ⟨g', o', none⟩ ∧ j < M ∧ MatchAt k ns ns' i j ∧
      CellsAt w g (o + i * 5) [.int .i64 k2, .int .i64 x2, .string s2, .slice p1 l1 e1, .slice p2 l2 e2] ∧ CellsAt w g' (o' + j * 5) [.int .i64 k3, .int .i64 x3, .string s3, .slice q1 m1 f1, .slice q2 m2 f2] ∧
      ∀ w', Below w.heap.size w w' → Calls Try.prog 13 #[.agg #[.int .i64 k2, .int .i64 x2, .string s2, .slice p1 l1 e1, .slice p2 l2 e2], .agg #[.int .i64 k3, .int .i64 x3, .string s3, .slice q1 m1 f1, .slice q2 m2 f2]] w' fun e w'' => e = .returned (.bool true) ∧ Below w'.heap.size w' w'')) :
    Calls Try.prog 13 #[.agg #[.int .i64 k, .int .i64 x, .string s, .slice a1 N c1, .slice a2 M c2], .agg #[.int .i64 k, .int .i64 x, .string s, .slice b1 N d1, .slice b2 M d2]] w fun e w' => e = .returned (.bool true) ∧ Below w.heap.size w w' := by
  have hB2 : ∀ p q, Below w.heap.size w ((w.alloc p).alloc q) := fun p q => ((Below.refl _ w).alloc (Nat.le_refl _) p).alloc (by simp) q
  subst h6
  go_enter Try.func13, Try.ntmps13
  go_wp2_with fail
  go_loopw [5] (fun iv wr => ∃ i : Nat, i ≤ M ∧ iv = .int .i64 i ∧ Below w.heap.size w wr ∧ wr.heap[w.heap.size]? = some (.cells #[.int .i64 6, .int .i64 x, .string s, .slice a1 N c1, .slice a2 M c2] 25 (0, 0)) ∧ wr.heap[w.heap.size + 1]? = some (.cells #[.int .i64 6, .int .i64 x, .string s, .slice b1 N d1, .slice b2 M d2] 25 (0, 0))) (fun iv _ => M - (intOf iv).toNat)
  case atStart => exact ⟨0, Nat.zero_le _, rfl, hB2 _ _, new1 w _ _, new2 w _ _⟩
  case round =>
    obtain ⟨i, hi, rfl, HB, h0, h1⟩ := hrel
    clear hB2
    obtain ⟨y0, -, -, y3, y4, -⟩ := row_cells h0
    obtain ⟨-, -, -, y3', y4', -⟩ := row_cells h1
    by_cases hlt : i < M
    · obtain ⟨j, g, o, g', o', k2, x2, s2, p1, l1, e1, p2, l2, e2, k3, x3, s3, q1, m1, f1, q2, m2, f2, rfl, rfl, hj, hma, hia, hia', hcall⟩ := hI.out i hlt
      have HC := hid_f hcall
      have i1 : (i : Int) < (M : Int) := by omega
      have i2 : (0 : Int) ≤ (i : Int) := by omega
      have i3 : (j : Int) < (M : Int) := by omega
      have i4 : (0 : Int) ≤ (j : Int) := by omega
      have hd : decide ((i : Int) < (M : Int)) = true := by simp; omega
      have hdj : decide ((M : Int) ≤ (j : Int)) = false := by simp; omega
      obtain ⟨n, hn1, hn2, hn3⟩ : ∃ n, ns[i]? = some n ∧ ns'[j]? = some n ∧ ∀ j' : Nat, j' < j → ns'[j']? ≠ some n := by unfold MatchAt at hma; rw [if_pos rfl] at hma; exact hma
      have hil := (List.getElem?_eq_some_iff.1 hn1).1
      have hjl := (List.getElem?_eq_some_iff.1 hn2).1
      obtain ⟨u1, v1', rfl, cn1⟩ := reads_at hNa.out hil
      obtain ⟨u2, v2', rfl, cn2⟩ := reads_at hNb.out hjl
      have hNl := reads_n hNa.out
      have hNl' := reads_n hNb.out
      rw [(List.getElem?_eq_some_iff.1 hn1).2] at cn1
      have i5 : (i : Int) < (N : Int) := by omega
      replace hn1 := hid_f hn1
      replace hn2 := hid_f hn2
      replace hn3 := hid_f hn3
      replace hNl := hid_f hNl
      replace hNl' := hid_f hNl'
      clear y4' hcall hma cn2 y3 y3'
      go_wp2_with fail
      clear y0 y4
      go_loopw [6] (fun iv wr => ∃ p : Nat, p ≤ j ∧ iv = .int .i64 p ∧ Below w.heap.size w wr ∧ wr.heap[w.heap.size]? = some (.cells #[.int .i64 6, .int .i64 x, .string s, (.slice (some ⟨u1, v1', none⟩) N c1), .slice (some ⟨g, o, none⟩) M c2] 25 (0, 0)) ∧ wr.heap[w.heap.size + 1]? = some (.cells #[.int .i64 6, .int .i64 x, .string s, (.slice (some ⟨u2, v2', none⟩) N d1), .slice (some ⟨g', o', none⟩) M d2] 25 (0, 0))) (fun iv _ => j - (intOf iv).toNat)
      case atStart => exact ⟨0, Nat.zero_le _, rfl, HB, h0, h1⟩
      case round =>
        clear HB h0 h1
        obtain ⟨p, hp, rfl, HB, h0, h1⟩ := hrel
        obtain ⟨-, -, -, y3, y4, -⟩ := row_cells h0
        obtain ⟨-, -, -, y3', y4', -⟩ := row_cells h1
        have hpl : p < ns'.length := by omega
        obtain ⟨_, _, e', cp⟩ := reads_at hNb.out hpl
        cases e'
        have n2 := stay HB cp
        have n1 := stay HB cn1
        obtain ⟨m, hm⟩ : ∃ m, Hid (ns'[p] = m) := ⟨_, hid_f rfl⟩
        rw [hm.out] at n2
        have j1 : (p : Int) < (N : Int) := by have := hNl'.out; omega
        have j2 : (0 : Int) ≤ (p : Int) := by omega
        have hdp : decide ((p : Int) < (N : Int)) = true := by simp; have := hNl'.out; omega
        clear cp
        by_cases hpj : p = j
        · subst hpj
          have hmn : m = n := by have := (List.getElem?_eq_some_iff.1 hn2.out).2; rw [hm.out] at this; exact this
          subst hmn
          clear y4 y4'
          go_wp2_with fail
          go_quiet (fail)
          have HBn := below_drewN HB nq
          go_wp2_with fail
          clear y3 y3' n1 n2
          replace h0 : (wr.drewN nq).heap[w.heap.size]? = _ := h0
          replace h1 : (wr.drewN nq).heap[w.heap.size + 1]? = _ := h1
          replace HB := HBn
          clear HBn
          generalize wr.drewN nq = wr at *
          obtain ⟨-, -, -, -, y4, -⟩ := row_cells h0
          obtain ⟨-, -, -, -, y4', -⟩ := row_cells h1
          have z0 := stay HB (hia 0 _ rfl)
          have z1 := stay HB (hia 1 _ rfl)
          have z2 := stay HB (hia 2 _ rfl)
          have z3 := stay HB (hia 3 _ rfl)
          have z4 := stay HB (hia 4 _ rfl)
          have v0 := stay HB (hia' 0 _ rfl)
          have v1 := stay HB (hia' 1 _ rfl)
          have v2 := stay HB (hia' 2 _ rfl)
          have v3 := stay HB (hia' 3 _ rfl)
          have v4 := stay HB (hia' 4 _ rfl)
          simp only [Nat.add_zero] at z0 v0
          refine wp_region_quiet (C := fun w' => Below wr.heap.size wr w') (by kernel_rfl) (by kernel_rfl) (below_drewN (Below.refl _ _) 1) ?_
          refine wpQuiet_step (fun K hK => ?_)
          go_simp
          refine ⟨_, fun _ _ => rfl, hK _ ?_⟩
          clear hK K
          refine wpQuiet_step (fun K hK => ?_)
          go_simp
          refine ⟨_, fun _ _ => rfl, hK _ ?_⟩
          clear hK K
          refine wpQuiet_step (fun K hK => ?_)
          refine ⟨.slice (some ⟨g', o', none⟩) M d2, fun w' hw' => ?_, hK _ ?_⟩
          · have t0 := stay hw' y4'
            go_simp
          clear hK K
          refine wpQuiet_step (fun K hK => ?_)
          go_simp
          refine ⟨_, fun _ _ => rfl, hK _ ?_⟩
          clear hK K
          refine wpQuiet_step (fun K hK => ?_)
          refine ⟨.bool false, fun w' _ => ?_, hK _ ?_⟩
          · go_simp
          clear hK K
          refine wpQuiet_step (fun K hK => ?_)
          go_simp
          refine ⟨_, fun _ _ => rfl, hK _ ?_⟩
          clear hK K
          refine wpQuiet_step (fun K hK => ?_)
          go_simp
          refine ⟨_, fun _ _ => rfl, hK _ ?_⟩
          clear hK K
          refine wpQuiet_step (fun K hK => ?_)
          refine quiet_if (by kernel_rfl) ?_
          refine ⟨.slice (some ⟨g, o, none⟩) M c2, fun w' hw' => ?_, hK _ ?_⟩
          · have t0 := stay hw' y4
            go_simp
          clear hK K
          refine wpQuiet_step (fun K hK => ?_)
          go_simp
          refine ⟨_, fun _ _ => rfl, hK _ ?_⟩
          clear hK K
          refine wpQuiet_step (fun K hK => ?_)
          go_simp
          refine ⟨_, fun _ _ => rfl, hK _ ?_⟩
          clear hK K
          refine wpQuiet_step (fun K hK => ?_)
          refine quiet_if (by kernel_rfl) ?_
          refine ⟨.agg #[.int .i64 k2, .int .i64 x2, .string s2, .slice p1 l1 e1, .slice p2 l2 e2], fun w' hw' => ?_, hK _ ?_⟩
          · have t0 := stay hw' z0
            have t1 := stay hw' z1
            have t2 := stay hw' z2
            have t3 := stay hw' z3
            have t4 := stay hw' z4
            go_simp
          clear hK K
          refine wpQuiet_step (fun K hK => ?_)
          go_simp
          refine ⟨_, fun _ _ => rfl, hK _ ?_⟩
          clear hK K
          refine wpQuiet_step (fun K hK => ?_)
          refine quiet_if (by kernel_rfl) ?_
          refine ⟨.slice (some ⟨g', o', none⟩) M d2, fun w' hw' => ?_, hK _ ?_⟩
          · have t0 := stay hw' y4'
            go_simp
          clear hK K
          refine wpQuiet_step (fun K hK => ?_)
          go_simp
          refine ⟨_, fun _ _ => rfl, hK _ ?_⟩
          clear hK K
          refine wpQuiet_step (fun K hK => ?_)
          go_simp
          refine ⟨_, fun _ _ => rfl, hK _ ?_⟩
          clear hK K
          refine wpQuiet_step (fun K hK => ?_)
          refine quiet_if (by kernel_rfl) ?_
          refine ⟨.agg #[.int .i64 k3, .int .i64 x3, .string s3, .slice q1 m1 f1, .slice q2 m2 f2], fun w' hw' => ?_, hK _ ?_⟩
          · have t0 := stay hw' v0
            have t1 := stay hw' v1
            have t2 := stay hw' v2
            have t3 := stay hw' v3
            have t4 := stay hw' v4
            go_simp
          clear hK K
          refine wpQuiet_step (fun K hK => ?_)
          refine quiet_if (by kernel_rfl) ?_
          refine ⟨.bool true, fun w' hw' => ?_, hK _ ?_⟩
          · go_simp
            refine (HC.out w' (HB.trans (hw'.mono HB.size))).mono ?_
            rintro e w'' ⟨rfl, hb⟩
            exact ⟨rfl, hw'.trans (hb.mono hw'.size)⟩
          clear hK K
          refine wpQuiet_step (fun K hK => ?_)
          go_simp
          refine ⟨_, fun _ _ => rfl, hK _ ?_⟩
          clear hK K
          refine wpQuiet_step (fun K hK => ?_)
          go_simp
          refine ⟨_, fun _ _ => rfl, hK _ ?_⟩
          clear hK K
          refine wpQuiet_nil ?_
          intro w' hw'
          have HB' : Below w.heap.size w w' := HB.trans (hw'.mono HB.size)
          have h0' := (hw'.block _ (Array.getElem?_eq_some_iff.1 h0).1).trans h0
          have h1' := (hw'.block _ (Array.getElem?_eq_some_iff.1 h1).1).trans h1
          clear hw' y4 y4' z0 z1 z2 z3 z4 v0 v1 v2 v3 v4
          go_wp2_with fail
          go_roundw
          case rel => exact ⟨i + 1, by omega, by simp, HB', h0', h1'⟩
          case measure => simp [intOf]; omega
        · have hne : (m.toList == n.toList) = false := by rw [toList_beq]; simp; intro e; subst e; exact hn3.out p (by omega) (by rw [List.getElem?_eq_getElem hpl, hm.out])
          clear y4 y4'
          go_wp2_with fail
          go_quiet (fail)
          go_wp2_with fail
          go_roundw
          case rel => exact ⟨p + 1, by omega, by simp, below_drewN HB nq, h0, h1⟩
          case measure => simp [intOf]; omega
    · have hd : decide ((i : Int) < (M : Int)) = false := by simp; omega
      go_wp2_with fail
      go_ret
      exact ⟨rfl, HB⟩
theorem alike_any (t u : Tr) (cs cs' : List Value) (w : World) (hV : VRep w t cs) (hV' : VRep w u cs') (hs : Sim t u) :
    Calls Try.prog 13 #[.agg cs.toArray, .agg cs'.toArray] w fun e w' => e = .returned (.bool true) ∧ Below w.heap.size w w' := by
  induction hs generalizing cs cs' w with
  | mk k x s ns its ns' its' f h1 h2 hf _ ih =>
    unfold VRep at hV hV'
    obtain ⟨nm, a, c, rfl, hn, hc, hI⟩ := hV
    obtain ⟨nm', a', c', rfl, hn', hc', hI'⟩ := hV'
    obtain ⟨an, cn, rfl, hcn, -⟩ := id hn
    obtain ⟨an', cn', rfl, -, -⟩ := id hn'
    rw [← h1] at hn' ⊢
    rw [← h2] at hc' ⊢
    by_cases h6 : k = 6
    · refine alike_obj k x s an ns.length cn a its.length c an' cn' a' c' ns ns' w (by omega) h6 (hid_f hn) (hid_f hn') (hid_f (fun i hi => ?_))
      obtain ⟨hfl, hfm⟩ := hf i hi
      obtain ⟨b, o, rfl, hb, hL⟩ := hI.resolve_left (by intro e; subst e; simp at hi)
      obtain ⟨b', o', rfl, hb', hL'⟩ := hI'.resolve_left (by intro e; subst e; simp at hfl)
      obtain ⟨u, hu⟩ : ∃ u, its[i]? = some u := ⟨_, List.getElem?_eq_getElem hi⟩
      obtain ⟨v, hv⟩ : ∃ v, its'[f i]? = some v := ⟨_, List.getElem?_eq_getElem hfl⟩
      obtain ⟨ds, g1, g2⟩ := VRepL.at its o i u hL hu
      obtain ⟨ds', g1', g2'⟩ := VRepL.at its' o' (f i) v hL' hv
      have hrec := fun w' (hw : Below w.heap.size w w') => ih i u v hu hv ds ds' w' (VRep.keep hw _ _ g2) (VRep.keep hw _ _ g2')
      obtain ⟨k2, x2, s2, an2, ln2, cn2, ai2, li2, ci2, rfl⟩ := vrep_five g2
      obtain ⟨k3, x3, s3, an3, ln3, cn3, ai3, li3, ci3, rfl⟩ := vrep_five g2'
      exact ⟨f i, b, o, b', o', k2, x2, s2, an2, ln2, cn2, ai2, li2, ci2, k3, x3, s3, an3, ln3, cn3, ai3, li3, ci3, rfl, rfl, by omega, hfm, g1, g1', hrec⟩
    · refine alike_other k x s an ns.length cn a its.length c an' cn' a' c' ns ns' w (by omega) h6 (hid_f (fun i hi => ?_))
      obtain ⟨hfl, hfm⟩ := hf i hi
      obtain ⟨b, o, rfl, hb, hL⟩ := hI.resolve_left (by intro e; subst e; simp at hi)
      obtain ⟨b', o', rfl, hb', hL'⟩ := hI'.resolve_left (by intro e; subst e; simp at hfl)
      obtain ⟨u, hu⟩ : ∃ u, its[i]? = some u := ⟨_, List.getElem?_eq_getElem hi⟩
      obtain ⟨v, hv⟩ : ∃ v, its'[f i]? = some v := ⟨_, List.getElem?_eq_getElem hfl⟩
      obtain ⟨ds, g1, g2⟩ := VRepL.at its o i u hL hu
      obtain ⟨ds', g1', g2'⟩ := VRepL.at its' o' (f i) v hL' hv
      have hrec := fun w' (hw : Below w.heap.size w w') => ih i u v hu hv ds ds' w' (VRep.keep hw _ _ g2) (VRep.keep hw _ _ g2')
      obtain ⟨k2, x2, s2, an2, ln2, cn2, ai2, li2, ci2, rfl⟩ := vrep_five g2
      obtain ⟨k3, x3, s3, an3, ln3, cn3, ai3, li3, ci3, rfl⟩ := vrep_five g2'
      exact ⟨f i, b, o, b', o', k2, x2, s2, an2, ln2, cn2, ai2, li2, ci2, k3, x3, s3, an3, ln3, cn3, ai3, li3, ci3, rfl, rfl, by omega, hfm, g1, g1', hrec⟩
end Go.Proofs.Ytmlbofbnklmedaa
