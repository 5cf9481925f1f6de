import Derived.Test.YtmlbofbnklmedaaK2
/-! The document's check: where it finds nothing the value is plain. -/
namespace Go.Proofs.Ytmlbofbnklmedaa
open Go Go.RowKit

theorem k_quiet_if {c : Bool} {p q : Prop} (h : c = true) (hp : p) : if c = true then p else q := by rw [if_pos h]; exact hp
theorem k_wrap (x : Int) (h0 : -9223372036854775808 ≤ x) (h1 : x ≤ 9223372036854775807) : IntKind.i64.wrap x = x := by
  rw [IntKind.wrap_i64]; omega
/-- A bool that was looked at; where it is false something holds. -/
def Seen0 (P : Prop) (v : Value) : Prop := ∃ z, v = .bool z ∧ (z = false → P)
/-- An error; where it is none something holds. -/
def Errs (P : Prop) (e : Ending) : Prop := ∃ z : Int, e = .returned (.int .i64 z) ∧ (z = 0 → P)
theorem errs_no {P : Prop} {n : Int} (h : ¬ n = 0) : Errs P (.returned (.int .i64 n)) := ⟨n, rfl, fun e => absurd e h⟩
set_option maxHeartbeats 4000000 in
set_option maxRecDepth 100000 in
theorem check_one (k x : Int) (s : ByteArray) (a1 : Option Addr) (c1 : Nat) (a2 : Option Addr) (M c2 : Nat) (ns : List ByteArray) (Pl : Nat → Prop) (dep : Int) (w : World) (hMm : M ≤ 9223372036854775806) (hdep : 0 ≤ dep ∧ dep ≤ 65) (hs : s.size ≤ 9223372036854775806) (hZ : Hid (Sized ns)) (hN : Hid (Reads w (.slice a1 ns.length c1) ns))
    (hI : Hid (∀ i, i < M → ∃ (g o : Nat) (k2 x2 : Int) (s2 : ByteArray) (p1 : Option Addr) (l1 e1 : Nat) (p2 : Option Addr) (l2 e2 : Nat), a2 = some ⟨g, o, none⟩ ∧
      CellsAt w g (o + i * 5) [.int .i64 k2, .int .i64 x2, .string s2, .slice p1 l1 e1, .slice p2 l2 e2] ∧
      ∀ (w' : World) (d : Int), 0 ≤ d ∧ d ≤ 65 → Below w.heap.size w w' → Calls Try.prog 34 #[.agg #[.int .i64 k2, .int .i64 x2, .string s2, .slice p1 l1 e1, .slice p2 l2 e2], .int .i64 d] w' fun e w'' => Errs (Pl i) e ∧ Below w'.heap.size w' w'')) :
    Calls Try.prog 34 #[.agg #[.int .i64 k, .int .i64 x, .string s, .slice a1 ns.length c1, .slice a2 M c2], .int .i64 dep] w fun e w' => Errs (PlainN k x s ns.length M ∧ ∀ i, i < M → Pl i) e ∧ Below w.heap.size w w' := by
  have hNl := hN.out.len
  have hpl := fun W => hid_f (plain_any k x s a1 ns.length c1 a2 M c2 W)
  have hcs := fun W => hid_f (clean_any s hs W)
  go_enter Try.func34, Try.ntmps34
  go_upto_region 1 with fail
  obtain ⟨X0, hX0⟩ : ∃ X, Hid (w.alloc (.cells #[.int .i64 k, .int .i64 x, .string s, .slice a1 ns.length c1, .slice a2 M c2] 25) = X) := ⟨_, hid_f rfl⟩
  have HB0 : Below w.heap.size w X0 := by rw [← hX0.out]; exact (Below.refl _ w).alloc (Nat.le_refl _) _
  have h0 : X0.heap[w.heap.size]? = some (.cells #[.int .i64 k, .int .i64 x, .string s, .slice a1 ns.length c1, .slice a2 M c2] 25 (0, 0)) := by rw [← hX0.out]; exact heap_alloc_new w _
  rw [hX0.out]
  clear hX0
  obtain ⟨y0, y1, y2, y3, y4, -⟩ := row_cells h0
  go_cut [5] (fun v wx => Seen0 True v ∧ wx = X0)
  case first =>
    clear hpl hcs
    by_cases h5 : k = 5
    · have e5 : (k == 5) = true := by simpa using h5
      clear h5
      go_wp2_with fail
      go_meet
      exact ⟨⟨_, rfl, fun _ => trivial⟩, rfl⟩
    · have e5 : (k == 5) = false := by simpa using h5
      go_wp2_with fail
      go_meet
      exact ⟨⟨_, rfl, fun _ => trivial⟩, rfl⟩
  case rest =>
    obtain ⟨⟨zd, rfl, -⟩, rfl⟩ := hcut
    go_upto_region 2 with fail
    go_cut [24] (fun v wx => Seen0 (dep ≤ 64) v ∧ wx = wc)
    case first =>
      clear hpl hcs
      by_cases hd : 64 < dep
      · go_wp2
        all_goals go_meet
        all_goals exact ⟨⟨true, rfl, fun h => by cases h⟩, rfl⟩
      · cases zd <;> go_wp2 <;> go_meet <;> exact ⟨⟨_, rfl, fun _ => by omega⟩, rfl⟩
    case rest =>
      obtain ⟨⟨zq, rfl, hzq⟩, rfl⟩ := hcut
      cases zq with
      | true =>
        clear hpl hcs
        go_wp2
        go_ret
        exact ⟨errs_no (by omega), HB0⟩
      | false =>
        have hd64 := hzq rfl
        clear hzq
        go_upto_region 4 with fail
        go_cut [43] (fun v wx => Seen0 (PlainN k x s ns.length M) v ∧ Below w.heap.size w wx ∧ wx.heap[w.heap.size]? = some (.cells #[.int .i64 k, .int .i64 x, .string s, .slice a1 ns.length c1, .slice a2 M c2] 25 (0, 0)))
        case first =>
          by_cases k1 : k < 0
          · go_wp2_with fail
            go_meet
            exact ⟨⟨true, rfl, fun h => by cases h⟩, HB0, h0⟩
          · by_cases k2 : 6 < k
            · go_wp2_with fail
              go_meet
              exact ⟨⟨true, rfl, fun h => by cases h⟩, HB0, h0⟩
            · go_wp2_with fail
              go_fit (hpl _).out
              rintro e X1 ⟨⟨z, rfl, hz⟩, hb⟩
              have HB1 : Below w.heap.size w X1 := HB0.trans (hb.mono HB0.size)
              have h1 := (hb.block _ (Array.getElem?_eq_some_iff.1 h0).1).trans h0
              clear hb y0 y1 y2 y3 y4
              obtain ⟨y0, y1, y2, y3, y4, -⟩ := row_cells h1
              cases z with
              | false =>
                go_wp2_with fail
                go_meet
                exact ⟨⟨true, rfl, fun h => by cases h⟩, HB1, h1⟩
              | true =>
                replace hz := hid_f (hz rfl)
                go_wp2_with fail
                go_fit (hcs _).out
                rintro e X2 ⟨⟨z2, rfl⟩, rfl⟩
                cases z2 <;> go_wp2_with fail
                all_goals go_meet
                all_goals exact ⟨⟨_, rfl, fun _ => hz.out⟩, HB1, h1⟩
        case rest =>
          obtain ⟨⟨zp, rfl, hzp⟩, HB, h1⟩ := hcut
          clear h0 HB0 y0 y1 y2 y3 y4 hpl hcs
          cases zp with
          | true =>
            clear hzp
            go_wp2
            go_ret
            exact ⟨errs_no (by omega), HB⟩
          | false =>
            have hpn := hid_f (hzp rfl)
            clear hzp
            have hN6 : Hid (k = 6 → ns.length = M) := hid_f (fun h => (hpn.out.1 h).2.2)
            go_wp2_with fail
            go_loopw [6] (fun iv wr => ∃ p : Nat, p ≤ M ∧ iv = .int .i64 p ∧ Below w.heap.size w wr ∧ wr.heap[w.heap.size]? = some (.cells #[.int .i64 k, .int .i64 x, .string s, .slice a1 ns.length c1, .slice a2 M c2] 25 (0, 0)) ∧ Hid (∀ i : Nat, i < p → Pl i)) (fun iv _ => M - (intOf iv).toNat)
            case atStart => exact ⟨0, Nat.zero_le _, rfl, HB, h1, hid_f (fun i h => by omega)⟩
            case round =>
              clear HB h1
              obtain ⟨p, hp, rfl, HB, h0, hkn⟩ := hrel
              obtain ⟨y0, -, -, y3, y4, -⟩ := row_cells h0
              by_cases hlt : p < M
              · obtain ⟨g, o, k2, x2, s2, p1, l1, e1, p2, l2, e2, rfl, hia, hcall⟩ := hI.out p hlt
                have i1 : (p : Int) < (M : Int) := by omega
                have i2 : (0 : Int) ≤ (p : Int) := by omega
                have hd2 : decide ((p : Int) < (M : Int)) = true := by simp; omega
                by_cases h6 : k = 6
                · have hNM := hN6.out h6
                  have hpn : p < ns.length := by omega
                  obtain ⟨g1, o1, rfl, cn⟩ := k_reads_at hN.out hpn
                  have n1 := stay HB cn
                  obtain ⟨nm, hnm⟩ : ∃ nm, Hid (ns[p] = nm) := ⟨_, hid_f rfl⟩
                  rw [hnm.out] at n1
                  have hzs : nm.size ≤ 9223372036854775806 := by rw [← hnm.out]; exact hZ.out _ (List.getElem_mem _)
                  have hcl := hid_f (clean_any nm hzs wr)
                  have hcap : (ns.length : Int) ≤ (c1 : Int) := by obtain ⟨_, _, e, hc, _⟩ := hN.out; cases e; omega
                  have i3 : (p : Int) < (ns.length : Int) := by omega
                  have i4 : (p : Int) ≤ (c1 : Int) := by omega
                  have htk := fun W (hW : Below w.heap.size w W) => hid_f (has_any (some ⟨g1, o1, none⟩) p c1 (ns.take p) nm W (hid_f ((k_reads_take hN.out (show p ≤ ns.length by omega)).keep hW)))
                  obtain ⟨hh, hhe⟩ : ∃ b, Hid (hasB (ns.take p) nm = b) := ⟨_, hid_f rfl⟩
                  rw [hhe.out] at htk
                  subst h6
                  clear cn hNM
                  go_wp2_with fail
                  go_fit hcl.out
                  rintro e w1 ⟨⟨zc, rfl⟩, rfl⟩
                  clear hcl
                  cases zc with
                  | false =>
                    clear htk hia hcall
                    go_wp2_with fail
                    go_ret
                    exact ⟨errs_no (by omega), HB⟩
                  | true =>
                    go_wp2_with fail
                    refine wp_region_quiet (C := fun w' => Below w1.heap.size w1 w') (by kernel_rfl) (by kernel_rfl) (below_drewN (Below.refl _ _) 1) ?_
                    refine wpQuiet_step (fun K hK => ?_)
                    go_simp
                    refine ⟨_, fun _ _ => rfl, hK _ ?_⟩
                    clear hK K
                    refine wpQuiet_step (fun K hK => ?_)
                    refine ⟨.int .i64 6, fun w' hw' => ?_, hK _ ?_⟩
                    · have t0 := stay hw' y0
                      go_simp
                    clear hK K
                    refine wpQuiet_step (fun K hK => ?_)
                    refine ⟨.bool true, fun w' _ => ?_, hK _ ?_⟩
                    · go_simp
                    clear hK K
                    refine wpQuiet_step (fun K hK => ?_)
                    go_simp
                    refine ⟨_, fun _ _ => rfl, hK _ ?_⟩
                    clear hK K
                    refine wpQuiet_step (fun K hK => ?_)
                    go_simp
                    refine ⟨_, fun _ _ => rfl, hK _ ?_⟩
                    clear hK K
                    refine wpQuiet_step (fun K hK => ?_)
                    refine k_quiet_if (by kernel_rfl) ?_
                    refine ⟨.slice (some ⟨g1, o1, none⟩) ns.length c1, fun w' hw' => ?_, hK _ ?_⟩
                    · have t0 := stay hw' y3
                      go_simp
                    clear hK K
                    refine wpQuiet_step (fun K hK => ?_)
                    go_simp
                    refine ⟨_, fun _ _ => rfl, hK _ ?_⟩
                    clear hK K
                    refine wpQuiet_step (fun K hK => ?_)
                    refine k_quiet_if (by kernel_rfl) ?_
                    refine ⟨.slice (some ⟨g1, o1, none⟩) p c1, fun w' _ => ?_, hK _ ?_⟩
                    · go_simp
                    clear hK K
                    refine wpQuiet_step (fun K hK => ?_)
                    go_simp
                    refine ⟨_, fun _ _ => rfl, hK _ ?_⟩
                    clear hK K
                    refine wpQuiet_step (fun K hK => ?_)
                    refine k_quiet_if (by kernel_rfl) ?_
                    refine ⟨.slice (some ⟨g1, o1, none⟩) ns.length c1, fun w' hw' => ?_, hK _ ?_⟩
                    · have t0 := stay hw' y3
                      go_simp
                    clear hK K
                    refine wpQuiet_step (fun K hK => ?_)
                    go_simp
                    refine ⟨_, fun _ _ => rfl, hK _ ?_⟩
                    clear hK K
                    refine wpQuiet_step (fun K hK => ?_)
                    go_simp
                    refine ⟨_, fun _ _ => rfl, hK _ ?_⟩
                    clear hK K
                    refine wpQuiet_step (fun K hK => ?_)
                    refine k_quiet_if (by kernel_rfl) ?_
                    refine ⟨.string nm, fun w' hw' => ?_, hK _ ?_⟩
                    · have t0 := stay hw' n1
                      go_simp
                    clear hK K
                    refine wpQuiet_step (fun K hK => ?_)
                    refine k_quiet_if (by kernel_rfl) ?_
                    refine ⟨.bool hh, fun w' hw' => ?_, hK _ ?_⟩
                    · go_simp
                      refine ((htk w' (HB.trans (hw'.mono HB.size))).out).mono ?_
                      rintro e w'' ⟨rfl, hb⟩
                      exact ⟨rfl, hw'.trans (hb.mono hw'.size)⟩
                    clear hK K
                    refine wpQuiet_step (fun K hK => ?_)
                    go_simp
                    refine ⟨_, fun _ _ => rfl, hK _ ?_⟩
                    clear hK K
                    refine wpQuiet_nil ?_
                    intro w' hw'
                    have HB' : Below w.heap.size w w' := HB.trans (hw'.mono HB.size)
                    have h0' := (hw'.block _ (Array.getElem?_eq_some_iff.1 h0).1).trans h0
                    clear hw' y0 y3 y4 n1 htk
                    cases hh with
                    | true =>
                      clear hia hcall
                      go_wp2_with fail
                      go_ret
                      exact ⟨errs_no (by omega), HB'⟩
                    | false =>
                      obtain ⟨-, -, -, -, y4, -⟩ := row_cells h0'
                      have z0 := stay HB' (hia 0 _ rfl)
                      have z1 := stay HB' (hia 1 _ rfl)
                      have z2 := stay HB' (hia 2 _ rfl)
                      have z3 := stay HB' (hia 3 _ rfl)
                      have z4 := stay HB' (hia 4 _ rfl)
                      simp only [Nat.add_zero] at z0
                      have hdp : IntKind.i64.wrap (dep + 1) = dep + 1 := k_wrap _ (by omega) (by omega)
                      have HC := hid_f (hcall w' (dep + 1) (by omega) HB')
                      go_wp2_with fail
                      go_fit HC.out
                      rintro e w1 ⟨⟨z, rfl, hz⟩, hb1⟩
                      have HB1 : Below w.heap.size w w1 := HB'.trans (hb1.mono HB'.size)
                      have h01 := (hb1.block _ (Array.getElem?_eq_some_iff.1 h0').1).trans h0'
                      clear z0 z1 z2 z3 z4 HC y4 hb1 hia hcall
                      by_cases hz0 : z = 0
                      · subst hz0
                        have hkp : Hid (∀ i : Nat, i < p + 1 → Pl i) := hid_f (fun i hi => by
                by_cases ei : i = p
                · rw [ei]; exact hz rfl
                · exact hkn.out i (by omega))
                        clear hz hkn
                        go_wp2_with fail
                        go_roundw
                        case rel => exact ⟨p + 1, by omega, by simp, HB1, h01, hkp⟩
                        case measure => simp [intOf]; omega
                      · have hz1 : (z == 0) = false := by simpa using hz0
                        clear hz
                        go_wp2_with fail
                        go_ret
                        exact ⟨errs_no hz0, HB1⟩
                · have e6 : (k == 6) = false := by simpa using h6
                  clear y3
                  go_wp2_with fail
                  go_quiet (fail)
                  have HBn := below_drewN HB nq
                  replace h0 : (wr.drewN nq).heap[w.heap.size]? = _ := h0
                  replace HB := HBn
                  clear HBn y0 y4
                  generalize wr.drewN nq = wr at *
                  obtain ⟨-, -, -, -, y4, -⟩ := row_cells h0
                  have z0 := stay HB (hia 0 _ rfl)
                  have z1 := stay HB (hia 1 _ rfl)
                  have z2 := stay HB (hia 2 _ rfl)
                  have z3 := stay HB (hia 3 _ rfl)
                  have z4 := stay HB (hia 4 _ rfl)
                  simp only [Nat.add_zero] at z0
                  have hdp : IntKind.i64.wrap (dep + 1) = dep + 1 := k_wrap _ (by omega) (by omega)
                  have HC := hid_f (hcall wr (dep + 1) (by omega) HB)
                  go_wp2_with fail
                  go_fit HC.out
                  rintro e w1 ⟨⟨z, rfl, hz⟩, hb1⟩
                  have HB1 : Below w.heap.size w w1 := HB.trans (hb1.mono HB.size)
                  have h01 := (hb1.block _ (Array.getElem?_eq_some_iff.1 h0).1).trans h0
                  clear z0 z1 z2 z3 z4 HC y4 hb1 hia hcall
                  by_cases hz0 : z = 0
                  · subst hz0
                    have hkp : Hid (∀ i : Nat, i < p + 1 → Pl i) := hid_f (fun i hi => by
                by_cases ei : i = p
                · rw [ei]; exact hz rfl
                · exact hkn.out i (by omega))
                    clear hz hkn
                    go_wp2_with fail
                    go_roundw
                    case rel => exact ⟨p + 1, by omega, by simp, HB1, h01, hkp⟩
                    case measure => simp [intOf]; omega
                  · have hz1 : (z == 0) = false := by simpa using hz0
                    clear hz
                    go_wp2_with fail
                    go_ret
                    exact ⟨errs_no hz0, HB1⟩
              · have hd2 : decide ((p : Int) < (M : Int)) = false := by simp; omega
                clear y0 y3
                go_wp2_with fail
                go_ret
                exact ⟨⟨0, rfl, fun _ => ⟨hpn.out, fun i hi => hkn.out i (by omega)⟩⟩, HB⟩
end Go.Proofs.Ytmlbofbnklmedaa
