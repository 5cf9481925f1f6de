import Derived.Test.YtpdcinicnekeoaaLD
/-! WatchPlays: the walk. -/
namespace Go.Proofs.Ytpdcinicnekeoaa
open Go Go.RowKit Go.Watch
set_option maxHeartbeats 16000000 in
set_option maxRecDepth 100000 in
theorem plays_true (keep : Int) (aa : Option Addr) (acts : List Ac) (ac : Nat) (w : World) (hA : ActsAt w aa acts) (hlen : acts.length ≤ 4611686018427387904) :
    Calls Try.prog 6 #[.int .i64 keep, .slice aa acts.length ac] w fun e w' => e = .returned (.bool true) ∧ Below w.heap.size w w' := by
  have hfew := hid_of (few_any (cap := ac) hA hlen)
  have hnum := hid_of num_any
  obtain ⟨N, hN⟩ : ∃ N, Hid (acts.length = N) := ⟨_, rfl⟩
  rw [hN.out] at hfew hlen ⊢
  cases hfb : fewB acts with
  | false =>
    rw [hfb] at hfew
    have hlv := hid_of (live_any w)
    clear hA hfb
    go_enter Try.func6, Try.ntmps6
    go_wp2_with fail
    refine hfew.out.mono ?_
    rintro e Z ⟨rfl, hZ⟩
    obtain rfl : w = Z := hZ.symm
    clear hZ
    go_wp2_with fail
    refine hlv.out.mono ?_
    rintro e W1 ⟨rfl, hB1⟩
    go_wp2_with fail
    go_ret
    exact ⟨rfl, hB1⟩
  | true =>
    rw [hfb] at hfew
    have hN400 : N ≤ 400 ∧ totA acts ≤ 20000 := by
      unfold fewB at hfb
      rw [hN.out] at hfb
      simpa using hfb
    obtain ⟨hN4, htot⟩ := hN400
    replace htot := hid_of htot
    replace hA := hid_of hA
    clear hfb
    by_cases hkeep : keep < 1 ∨ 4096 < keep
    · have hnew := hid_of (new_not keep w hkeep)
      have hrn := hid_of (rnew_not keep w hkeep)
      go_enter Try.func6, Try.ntmps6
      go_wp2_with fail
      refine hfew.out.mono ?_
      rintro e Z ⟨rfl, hZ⟩
      obtain rfl : w = Z := hZ.symm
      clear hZ
      go_wp2_with fail
      refine hnew.out.mono ?_
      rintro e Z ⟨rfl, hZ⟩
      obtain rfl : w = Z := hZ.symm
      clear hZ
      go_wp2_with fail
      refine hrn.out.mono ?_
      rintro e W1 ⟨rfl, hB1⟩
      obtain ⟨W2, hW2⟩ : ∃ W2, Hid (W1.alloc (.cells #[.int .i64 0, .slice none 0 0, .int .i64 0, .int .i64 0] 48) = W2) := ⟨_, rfl⟩
      have hB2 : Hid (Below w.heap.size w W2) := by rw [← hW2.out]; exact hB1.alloc hB1.size _
      have hlv := hid_of (live_any W2)
      unfold refV
      clear hB1 hkeep hnew hrn hfew
      go_upto_region 5 with fail
      rw [hW2.out]
      go_wp2_with fail
      refine (hnum.out _ _).mono ?_
      rintro e Z ⟨rfl, hZ⟩
      obtain rfl : W2 = Z := hZ.symm
      clear hZ
      go_wp2_with fail
      refine hlv.out.mono ?_
      rintro e W3 ⟨rfl, hB3⟩
      go_wp2_with fail
      go_ret
      exact ⟨rfl, hB2.out.trans (hB3.mono hB2.out.size)⟩
    · obtain ⟨k, rfl⟩ := Int.eq_ofNat_of_zero_le (a := keep) (by omega)
      have hk1 : 1 ≤ k := by omega
      have hk2 : k ≤ 4096 := by omega
      have hnew := hid_of (new_any (k : Int) w (by omega) (by omega))
      obtain ⟨W1, hW1⟩ : ∃ W1, Hid (w.alloc (newLog k) = W1) := ⟨_, rfl⟩
      have hL1 := newLog_at k w
      rw [hW1.out] at hnew hL1
      have hB1 : Below w.heap.size w W1 := by rw [← hW1.out]; exact (Below.refl _ w).alloc (Nat.le_refl _) _
      have hrn := hid_of (rnew_any (k : Int) W1 (by omega) (by omega))
      replace hL1 := hid_of hL1
      replace hB1 := hid_of hB1
      clear hkeep
      go_enter Try.func6, Try.ntmps6
      go_wp2_with fail
      refine hfew.out.mono ?_
      rintro e Z ⟨rfl, hZ⟩
      obtain rfl : w = Z := hZ.symm
      clear hZ hfew
      go_wp2_with fail
      refine hnew.out.mono ?_
      rintro e Z ⟨rfl, hZ⟩
      obtain rfl : W1 = Z := hZ.symm
      clear hZ hnew hW1
      go_wp2_with fail
      refine hrn.out.mono ?_
      rintro e W2 ⟨rfl, hB2⟩
      obtain ⟨W3, hW3⟩ : ∃ W3, Hid (W2.alloc (.cells #[.int .i64 k, .slice none 0 0, .int .i64 0, .int .i64 0] 48) = W3) := ⟨_, rfl⟩
      have hB3 : Below W2.heap.size W2 W3 := by rw [← hW3.out]; exact (Below.refl _ W2).alloc (Nat.le_refl _) _
      have hx7 : RBox W3 W2.heap.size k none 0 0 0 0 := RBox.mk' (t := 48) (by rw [← hW3.out]; exact heap_alloc_new W2 _)
      have hB13 : Below W1.heap.size W1 W3 := hB2.trans (hB3.mono hB2.size)
      have hL3 := hid_of (hL1.out.below hB13)
      have hB03 : Hid (Below w.heap.size w W3) := hB1.out.trans (hB13.mono hB1.out.size)
      have hz2 : Hid (w.heap.size < W2.heap.size) := by
        have := hL1.out.lt
        have := hB2.size
        show _ < _
        omega
      have hlv := hid_of (live_any W3)
      replace hx7 := hid_of hx7
      unfold refV
      clear hrn hB2 hB3 hB13 hL1
      go_upto_region 5 with fail
      rw [hW3.out]
      clear hW3
      go_wp2_with fail
      refine (hnum.out _ _).mono ?_
      rintro e Z ⟨rfl, hZ⟩
      obtain rfl : W3 = Z := hZ.symm
      clear hZ
      go_wp2_with fail
      refine hlv.out.mono ?_
      rintro e W4 ⟨rfl, hB4⟩
      have hx74 := hx7.out.keep (hB4.block _ hx7.out.lt)
      obtain ⟨e0, e1, e2, e3, -⟩ := hx74
      obtain ⟨q7, hq7⟩ : ∃ q, Hid (W2.heap.size = q) := ⟨_, rfl⟩
      have hs7 : Hid (q7 < W4.heap.size) := by have := hx7.out.lt; have := hB4.size; have := hq7.out; show _ < _; omega
      have hx7' : Hid (RBox W4 q7 k none 0 0 0 0) := by have := hx7.out.keep (hB4.block _ hx7.out.lt); rw [hq7.out] at this; exact this
      have hL4 := hid_of (hL3.out.below hB4)
      have hB04 : Hid (Below w.heap.size w W4) := hB03.out.trans (hB4.mono hB03.out.size)
      rw [hq7.out] at e0 e1 e2 e3 hz2 ⊢
      clear hB4 hx7 hL3 hB03 hlv
      go_wp2_with fail
      go_region_held3 (fun w' => w'.cell? ⟨q7, 0, none⟩ = some (.int .i64 k) ∧ w'.cell? ⟨q7, 1, none⟩ = some (.slice none 0 0) ∧ w'.cell? ⟨q7, 2, none⟩ = some (.int .i64 0) ∧ w'.cell? ⟨q7, 3, none⟩ = some (.int .i64 0)) (go_keep) (fail)
      rename_i hHeld
      clear hHeld
      obtain ⟨W5, hW5⟩ : ∃ W5, Hid ((W4.alloc (.cells #[.int .i64 k, .slice none 0 0, .int .i64 0, .int .i64 0] 48)).drew = W5) := ⟨_, rfl⟩
      rw [hW5.out]
      have hB5 : Below W4.heap.size W4 W5 := by rw [← hW5.out]; exact below_drew ((Below.refl _ W4).alloc (Nat.le_refl _) _)
      have hx10 : RBox W5 W4.heap.size k none 0 0 0 0 := RBox.mk' (t := 48) (by rw [← hW5.out]; exact heap_alloc_new W4 _)
      obtain ⟨q10, hq10⟩ : ∃ q, Hid (W4.heap.size = q) := ⟨_, rfl⟩
      obtain ⟨p0, hp0⟩ : ∃ q, Hid (w.heap.size = q) := ⟨_, rfl⟩
      have hpi : Hid (PI w W5 q7 q10 k p0 ⟨0, []⟩ none 0 none 0 p0 ⟨0, []⟩ none 0 none 0) := by
        have hL5 := hL4.out.below hB5
        have h1 := hz2.out
        have h2 := hs7.out
        have h3 := hq10.out
        have h4 := hp0.out
        have hpr : Pair q7 q10 W5 k p0 ⟨0, []⟩ none 0 none 0 := by
          rw [h4] at hL5
          exact ⟨⟨hL5.kp, hL5.hr, hL5.sl, hL5.le, hL5.mx, ⟨by omega, by omega⟩, PtrsAt.nil⟩, ChgsAt.nil, Nat.le_refl _, by omega, ok_empty k, fun c hc => by simp at hc⟩
        exact ⟨hB04.out.trans (hB5.mono hB04.out.size), by omega, by omega, by omega, hx7'.out.keep (hB5.block _ h2), by rw [← h3]; exact hx10, hpr, hpr⟩
      rw [hq10.out, hp0.out]
      clear hB5 hx10 hW5 hx7' hL4 hB04 e0 e1 e2 e3 hs7 hz2 hq7
      go_wp2_with fail
      go_loopw [5, 9, 11] (fun lv fv iv wr => ∃ (i p : Nat) (g : Lg) (a : Option Addr) (cap : Nat) (la : Option Addr) (lc p1 : Nat) (g1 : Lg) (a1 : Option Addr) (cap1 : Nat) (la1 : Option Addr) (lc1 : Nat), iv = .int .i64 (i : Nat) ∧ lv = .pointer (some ⟨p, 0, none⟩) ∧ fv = .pointer (some ⟨p1, 0, none⟩) ∧ i ≤ N ∧ Hid (PI w wr q7 q10 k p g a cap la lc p1 g1 a1 cap1 la1 lc1)) (fun _ _ iv _ => N - (intOf iv).toNat)
      case atStart => exact ⟨0, p0, _, _, _, _, _, p0, _, _, _, _, _, rfl, rfl, rfl, Nat.zero_le _, hpi⟩
      case round =>
        clear hpi
        obtain ⟨i, p, g, a, cap, la, lc, p1, g1, a1, cap1, la1, lc1, rfl, rfl, rfl, hin, hP⟩ := hrel
        by_cases hi : i < N
        · obtain ⟨c, hce⟩ : ∃ c, acts[i]? = some c := ⟨_, List.getElem?_eq_getElem (by rw [hN.out]; exact hi)⟩
          obtain ⟨b, o, rfl, hac, hcg, hcl, hcm, -, hcs⟩ := hA.out i c hce
          have hct := totA_mem hce
          have hchl : c.ch.length ≤ 20000 := by have := htot.out; omega
          have hac' := hac.keep (hP.out.bel.block _ hac.lt)
          obtain ⟨d0, d1, d2, d3, d4, d5⟩ := hac'
          obtain ⟨cst, cch, cca, ccc, cask, caf, clim, cinn⟩ := c
          simp only at d0 d1 d2 d3 d4 d5 hcg hcl hcm hcs hchl
          obtain ⟨n, hn⟩ : ∃ n, Hid (cch.length = n) := ⟨_, rfl⟩
          rw [hn.out] at d1 hcl hchl
          obtain ⟨wo, hwo⟩ : ∃ wo : World, wo = wr := ⟨_, rfl⟩
          subst hwo
          obtain ⟨W6, hW6⟩ : ∃ W6, Hid (wo.alloc (.cells #[.int .i64 cst, .slice cca n ccc, .bool cask, .int .i64 caf, .int .i64 clim, .string cinn] 40) = W6) := ⟨_, rfl⟩
          have hB6 : Below wo.heap.size wo W6 := by rw [← hW6.out]; exact (Below.refl _ wo).alloc (Nat.le_refl _) _
          have hz6 : Hid (W6.heap.size = wo.heap.size + 1) := by rw [← hW6.out]; show _ = _; simp
          have hbk : W6.heap[wo.heap.size]? = some (.cells #[.int .i64 cst, .slice cca n ccc, .bool cask, .int .i64 caf, .int .i64 clim, .string cinn] 40 (0, 0)) := by rw [← hW6.out]; exact heap_alloc_new wo _
          have k0 : W6.cell? ⟨wo.heap.size, 0, none⟩ = some (.int .i64 cst) := by rw [cell_of_row W6 _ 0 _ _ _ hbk]; rfl
          have k1 : W6.cell? ⟨wo.heap.size, 1, none⟩ = some (.slice cca n ccc) := by rw [cell_of_row W6 _ 1 _ _ _ hbk]; rfl
          have k2 : W6.cell? ⟨wo.heap.size, 2, none⟩ = some (.bool cask) := by rw [cell_of_row W6 _ 2 _ _ _ hbk]; rfl
          have k3 : W6.cell? ⟨wo.heap.size, 3, none⟩ = some (.int .i64 caf) := by rw [cell_of_row W6 _ 3 _ _ _ hbk]; rfl
          have k4 : W6.cell? ⟨wo.heap.size, 4, none⟩ = some (.int .i64 clim) := by rw [cell_of_row W6 _ 4 _ _ _ hbk]; rfl
          have k5 : W6.cell? ⟨wo.heap.size, 5, none⟩ = some (.string cinn) := by rw [cell_of_row W6 _ 5 _ _ _ hbk]; rfl
          replace hbk := hid_of hbk
          clear hac hce hct
          go_upto_region 14 with fail
          rw [hW6.out]
          clear d0 d1 d2 d3 d4 d5 hW6
          have hP6 := hid_of (hP.out.below hB6)
          cases cask with
          | true =>
            have ha1 := hid_of (asks_any (lc := lc) hP6.out.now.log hP6.out.now.ref hP6.out.now.ok hk2 hP6.out.now.bd cst cca n ccc true caf clim cinn)
            have ha2 := hid_of (fun W (hb : Below W6.heap.size W6 W) => asks_any (lc := lc1) (hP6.out.fst.below hb).log (hP6.out.fst.below hb).ref hP6.out.fst.ok hk2 hP6.out.fst.bd cst cca n ccc true caf clim cinn)
            unfold refV actV at ha1 ha2
            obtain ⟨e0, e1, e2, e3, -⟩ := hP6.out.b7
            obtain ⟨f0, f1, f2, f3, -⟩ := hP6.out.b10
            obtain ⟨L, hL⟩ : ∃ L, Hid (g.cs.length = L) := ⟨_, rfl⟩
            obtain ⟨x, hx⟩ : ∃ x, Hid (lastSt g.cs = x) := ⟨_, rfl⟩
            obtain ⟨L1, hL1⟩ : ∃ L, Hid (g1.cs.length = L) := ⟨_, rfl⟩
            obtain ⟨x1, hx1⟩ : ∃ x, Hid (lastSt g1.cs = x) := ⟨_, rfl⟩
            rw [hL.out, hx.out] at ha1
            rw [hL1.out, hx1.out] at ha2
            rw [hL.out] at e1
            rw [hx.out] at e3
            rw [hL1.out] at f1
            rw [hx1.out] at f3
            go_wp2_with fail
            refine ha1.out.mono ?_
            rintro e W7 ⟨rfl, hB7⟩
            replace k0 := stay hB7 k0
            replace k1 := stay hB7 k1
            replace k2 := stay hB7 k2
            replace k3 := stay hB7 k3
            replace k4 := stay hB7 k4
            replace k5 := stay hB7 k5
            replace f0 := stay hB7 f0
            replace f1 := stay hB7 f1
            replace f2 := stay hB7 f2
            replace f3 := stay hB7 f3
            replace ha2 := hid_of (ha2.out W7 hB7)
            have hP7 := hid_of (hP6.out.below hB7)
            clear ha1 e0 e1 e2 e3 hB7 hP6 hP
            go_wp2_with fail
            refine ha2.out.mono ?_
            rintro e W8 ⟨rfl, hB8⟩
            have hP8 := hid_of (hP7.out.below hB8)
            clear ha2 hB8 hP7 f0 f1 f2 f3 k0 k1 k2 k3 k4 k5
            go_wp2_with fail
            go_roundw
            case rel => exact ⟨i + 1, p, g, a, cap, la, lc, p1, g1, a1, cap1, la1, lc1, by go_num, rfl, rfl, by omega, hP8⟩
            case measure =>
              simp only [intOf]
              omega
          | false =>
            obtain ⟨ri, hri, hri1, hri2, hri3⟩ := chg_info
            have hBe : Below W6.heap.size W6 (W6.alloc (.cells #[] 30)) := (Below.refl _ W6).alloc (Nat.le_refl _) _
            have k1e := stay hBe k1
            have hB06 : Hid (Below w.heap.size w W6) := hP6.out.bel
            have hC6 := hid_of (hcg.below hB06.out)
            have hl48 : Hid (cch.length * 48 ≤ 140737488355328) := by show _ ≤ _; rw [hn.out]; omega
            have x6 : Hid (n + 1 ≤ maxLen ∧ (n + 1) * 48 ≤ 140737488355328) := by unfold maxLen; exact ⟨by omega, by omega⟩
            replace hcg := hid_of hcg
            replace hB6 := hid_of hB6
            clear hBe
            go_wp2_with (first
              | rw [hW8.out]
              | (at_builtin; refine wpList_append_cp W6 rfl _ _ rfl _ cca ccc cch hC6.out hl48.out rfl (by rw [hn.out]; rfl) ?_; intro g7 o7 c7 W7 hB7 hg7 hR7; rw [hn.out] at hR7; obtain ⟨W8, hW8, hB8, hsrc, x0⟩ := given_step hB7 hR7; rw [hn.out]; clear hB7 hg7 hR7 hC6 hl48 k1e)
              | (at_builtin; refine wpList_append_rw W8 rfl _ _ 23 rfl 30 ri _ 4 48 Try.underlying23 hri hri1 hri2 hri3 rfl W6.heap.size (some ⟨g7, o7, none⟩) n c7 (flatC cch) rfl x0.out.len x0.out.le x0.out.mx x0.out.rd _ rfl 1 (chgCs beh) hsrc.out (fun _ => x0.out) (by decide) x6.out.1 x6.out.2 hB8.out.size ?_; intro g9 o9 c9 W9 hA9; have hGv := hid_of (given_done hB8.out x0.out hA9); clear hA9 hsrc x0 hB8 hW8))
            have hB9 := hid_of hGv.out.bel
            replace k0 := stay hB9.out k0
            replace k1 := stay hB9.out k1
            replace k4 := stay hB9.out k4
            replace k5 := stay hB9.out k5
            have hB69 : Hid (Below wo.heap.size wo W9) := hB6.out.trans (hB9.out.mono hB6.out.size)
            have hS2 : Hid (LogAt (fun b => (b ≠ q7 ∧ b ≠ q10) ∧ b < wo.heap.size) W9 p k g a cap) := (hP.out.now.log.mono (fun b hb hlt => ⟨hb, hlt⟩)).below hB69.out
            have hwith := hid_of (with_any (w := W9.drew) (hS2.out.below (below_drew (Below.refl _ W9))) hP.out.now.ok hk1 hk2 cst (some ⟨g9, o9, none⟩) cch c9 ((hGv.out.chgs hn.out).below (below_drew (Below.refl _ W9))) (by rw [hn.out]; have := hGv.out.row.le; omega) (by have := hGv.out.row.mx; unfold maxLen at this; omega))
            rw [hn.out] at hwith
            have hc90 : ¬ c9 = 0 := by have := hGv.out.row.le; omega
            have hnc : (n : Int) ≤ (c9 : Int) := by have := hGv.out.row.le; omega
            have hn3 : (0 : Int) ≤ (n : Int) := by omega
            obtain ⟨g', hg'⟩ : ∃ g', Hid (withG k g cst cch = g') := ⟨_, rfl⟩
            rw [hg'.out] at hwith
            clear k2 k3
            go_region_held3 (fun w' => w'.cell? ⟨wo.heap.size, 0, none⟩ = some (.int .i64 cst) ∧ w'.cell? ⟨wo.heap.size, 1, none⟩ = some (.slice cca n ccc)) (go_keep) (first
              | (go_at_call 9; refine hwith.out.mono ?_; rintro e W10 ⟨hB10, p', a', cap', rfl, hL10⟩; have t0 : W10.cell? ⟨wo.heap.size, 0, none⟩ = some (.int .i64 cst) := stay hB10 k0; have t1 : W10.cell? ⟨wo.heap.size, 1, none⟩ = some (.slice cca n ccc) := stay hB10 k1; replace hB10 := hid_of hB10; replace hL10 := hid_of hL10))
            rename_i hHeld
            clear hHeld hwith
            have hB10' : Hid (Below W9.heap.size W9 W10) := (below_drew (Below.refl _ W9)).trans hB10.out
            clear hB10
            have hP10 := hid_of ((hP6.out.below hB9.out).below hB10'.out)
            have hB010 : Hid (Below wo.heap.size wo W10) := hB69.out.trans (hB10'.out.mono hB69.out.size)
            have hrw := hid_of (rwith_any (cap := lc) (((hP.out.now.ref.mono (T := fun b => (b ≠ q7 ∧ b ≠ q10) ∧ b < wo.heap.size) (fun b hb hlt => ⟨hb, hlt⟩)).below hB010.out)) hP.out.now.lle hP.out.now.lmx hP.out.now.ok hk1 hk2 cst cca cch ccc (hcg.out.below hP10.out.bel) (by rw [hn.out]; omega))
            rw [hn.out, hg'.out] at hrw
            obtain ⟨e0, e1, e2, e3, -⟩ := hP10.out.b7
            obtain ⟨L, hL⟩ : ∃ L, Hid (g.cs.length = L) := ⟨_, rfl⟩
            obtain ⟨x, hx⟩ : ∃ x, Hid (lastSt g.cs = x) := ⟨_, rfl⟩
            unfold refV at hrw
            rw [hL.out, hx.out] at hrw
            rw [hL.out] at e1
            rw [hx.out] at e3
            clear k0 k1
            go_wp2_with fail
            refine hrw.out.mono ?_
            rintro e W11 ⟨hB11, la', lc', rfl, hC11, hl1, hl2⟩
            have hB1011 := hid_of hB11
            have hb7 := (hP10.out.b7).keep (hB11.block _ hP10.out.b7.lt)
            obtain ⟨e0', e1', e2', e3', fz⟩ := hb7
            rw [hL.out] at e1'
            rw [hx.out] at e3'
            have fz0 := fz 0
            have fz1 := fz 1
            have fz2 := fz 2
            have fz3 := fz 3
            have hnx := hid_of (hP.out.next (s := cst) (new := cch) (W4 := W9) (W5 := W10) (W6 := W11) hk1 hcs hB69.out hB10'.out hB11 (by rw [hg'.out]; exact hL10.out) (by rw [hg'.out]; exact hC11) (by rw [hg'.out]; exact hl1) hl2)
            rw [hg'.out] at hnx
            unfold refV
            clear hrw e0 e1 e2 e3 fz
            obtain ⟨L', hL'⟩ : ∃ L, Hid (g'.cs.length = L) := ⟨_, rfl⟩
            obtain ⟨x', hx'⟩ : ∃ x, Hid (lastSt g'.cs = x) := ⟨_, rfl⟩
            rw [hL'.out, hx'.out]
            rw [hL'.out, hx'.out] at hnx
            obtain ⟨W12, hW12⟩ : ∃ W, Hid (set4 W11 q7 k la' L' lc' g'.hor x' = W) := ⟨_, rfl⟩
            rw [hW12.out] at hnx
            have hset := hW12
            unfold set4 at hset
            replace t0 := stay hB11 t0
            replace t1 := stay hB11 t1
            clear hB11
            go_upto_region 20 with fail
            rw [hset.out]
            clear hset e0' e1' e2' e3' fz0 fz1 fz2 fz3
            have hq7l : q7 < wo.heap.size := hP.out.b7.lt
            have hk12 : ∀ b, b ≠ q7 → W12.heap[b]? = W11.heap[b]? := fun b hb => by rw [← hW12.out]; exact set4_heap _ _ _ _ _ _ _ _ _ hb
            have hz12 : Hid (W12.heap.size = W11.heap.size) := by rw [← hW12.out]; exact set4_size _ _ _ _ _ _ _ _
            have hB911 : Below W9.heap.size W9 W11 := hB10'.out.trans (hB1011.out.mono hB10'.out.size)
            have hb0 : W12.heap[wo.heap.size]? = W9.heap[wo.heap.size]? := (hk12 _ (by omega)).trans (hB911.block _ (by have := hz6.out; have := hB9.out.size; omega))
            have kk : ∀ i : Nat, W12.cell? ⟨wo.heap.size, i, none⟩ = W9.cell? ⟨wo.heap.size, i, none⟩ := fun i => World.cell?_of_block (w := W9) (a := ⟨wo.heap.size, i, none⟩) hb0
            replace t1 := (World.cell?_of_block (w := W11) (a := ⟨wo.heap.size, 1, none⟩) (hk12 wo.heap.size (by omega))).trans t1
            replace k4 := (kk 4).trans k4
            replace k5 := (kk 5).trans k5
            have hgq : g9 ≠ q7 := by have := hGv.out.lo; have := hz6.out; omega
            have hg12 : W12.heap[g9]? = W9.heap[g9]? := (hk12 _ hgq).trans (hB911.block _ hGv.out.lt)
            have hbh : W12.cell? ⟨g9, o9 + n * 4 + 2, none⟩ = some (.string ⟨#[98, 101, 104, 105, 110, 100]⟩) := (World.cell?_of_block (w := W9) (a := ⟨g9, o9 + n * 4 + 2, none⟩) hg12).trans (hGv.out.behind hn.out)
            have hCg : ChgsAt (fun b => W6.heap.size ≤ b) W12 (some ⟨g9, o9, none⟩) cch := (hGv.out.chgs hn.out).keep (fun b hb hlt => (hk12 b (by have h1 : W6.heap.size ≤ b := hb; have := hz6.out; omega)).trans (hB911.block b hlt))
            have hCc : ChgsAt (fun _ => True) W12 cca cch := hcg.out.below hnx.out.1.bel
            have hch := hid_of (fun m => changes_true (ca := c9) (cb := ccc) (w := W12.drewN m) (hCg.below (below_drewN (Below.refl _ W12) m)) (hCc.below (below_drewN (Below.refl _ W12) m)) (by rw [hn.out]; omega))
            rw [hn.out] at hch
            have hRm : Hid (Rm W12 W6.heap.size 4 (some ⟨g9, o9, none⟩) (n + 1) c9) := by
              have := (hGv.out.row.keep (w' := W12) (by rw [hz12.out]; exact hB911.size) (fun b hb hlt => by obtain ⟨o2, s2, e2⟩ := hb; cases e2; exact hg12)).rm
              exact this
            have hn4 : (n : Int) < (n : Int) + 1 := by omega
            have hk7 : Hid (∀ b, b ≠ q7 → b < wo.heap.size → W12.heap[b]? = wo.heap[b]?) := fun b hb hlt => (hk12 b hb).trans ((hB69.out.trans (hB911.mono hB69.out.size)).block b hlt)
            have hz9 : Hid (W9.heap.size ≤ W12.heap.size) := by show _ ≤ _; rw [hz12.out]; exact hB911.size
            have hn5 : Hid (W6.heap.size ≤ W9.heap.size) := hB9.out.size
            have hg9l : Hid (g9 < W9.heap.size) := hGv.out.lt
            replace hB911 := hid_of hB911
            clear hk12 hb0 kk hCg hCc hg12 hGv t0 hW12 hB1011 hB10' hB9 hP10 hB010 hS2 hL10 hC11 hl1 hl2 hz12
            go_quiet ((go_at_call 16; exact Calls.quiet_of (hch.out _)))
            obtain ⟨W13, hW13⟩ : ∃ W, Hid (W12.drewN nq = W) := ⟨_, rfl⟩
            rw [hW13.out]
            have hd13 : Below W12.heap.size W12 W13 := by rw [← hW13.out]; exact below_drewN (Below.refl _ W12) nq
            have hsp : Hid (Spl W6.heap.size W9.heap.size W13 W13 (some ⟨g9, o9, none⟩) (n + 1) c9) := by
              have hr : Rm W13 W6.heap.size 4 (some ⟨g9, o9, none⟩) (n + 1) c9 := by
                rw [← hW13.out]
                exact ⟨hRm.out.le, hRm.out.mx, hRm.out.pt⟩
              exact Spl.begin hr (fun _ b hb => by obtain ⟨o2, s2, e2⟩ := hb; cases e2; exact hg9l.out)
            have hnx13 := hid_of (And.intro (hnx.out.1.below hd13) (And.intro (hnx.out.2.1.below hd13) (hnx.out.2.2.below hd13)))
            have hk713 : Hid (∀ b, b ≠ q7 → b < wo.heap.size → W13.heap[b]? = wo.heap[b]?) := fun b hb hlt => by rw [← hW13.out]; exact hk7.out b hb hlt
            have hz913 : Hid (W9.heap.size ≤ W13.heap.size) := by rw [← hW13.out]; exact hz9.out
            replace k4 := stay hd13 k4
            replace k5 := stay hd13 k5
            have hx4 := hid_of k4
            have hx5 := hid_of k5
            clear hch hbh t1 hnx hk7 hz9 hRm hd13 hW13 k4 k5
            go_wp2_with fail
            go_loopw [14] (fun jv wr => ∃ j : Nat, jv = .int .i64 (j : Nat) ∧ j ≤ n + 1 ∧ Hid (Spl W6.heap.size W9.heap.size W13 wr (some ⟨g9, o9, none⟩) (n + 1) c9)) (fun jv _ => n + 1 - (intOf jv).toNat)
            case atStart => exact ⟨0, rfl, Nat.zero_le _, hsp⟩
            case round =>
              clear hsp
              obtain ⟨j, rfl, hjn, hS⟩ := hrel
              by_cases hj : j < n + 1
              · obtain ⟨b5, o5, hae, -, -, hth⟩ := hS.out.row.pt.resolve_left hc90
                cases hae
                have hle := hS.out.row.le
                obtain ⟨v0, d0⟩ := Option.isSome_iff_exists.1 (hth (j * 4) (by omega)).1
                obtain ⟨v1, d1⟩ := Option.isSome_iff_exists.1 (hth (j * 4 + 1) (by omega)).1
                obtain ⟨v2, d2⟩ := Option.isSome_iff_exists.1 (hth (j * 4 + 2) (by omega)).1
                obtain ⟨v3, d3⟩ := Option.isSome_iff_exists.1 (hth (j * 4 + 3) (by omega)).1
                have f0 := (hth (j * 4) (by omega)).2
                have f1 := (hth (j * 4 + 1) (by omega)).2
                have f2 := (hth (j * 4 + 2) (by omega)).2
                have f3 := (hth (j * 4 + 3) (by omega)).2
                rw [← Nat.add_assoc] at d1 d2 d3 f1 f2 f3
                have hS2 := hid_of (hS.out.store (b := g9) (o := o9) rfl (by omega) (o9 + j * 4) [.int .i64 97, .string ⟨#[]⟩, .string ⟨#[115, 112, 111, 105, 108, 116]⟩, .int .i64 0])
                have hjb : (j : Int) < (n : Int) + 1 := by omega
                clear hth hS
                go_wp2_with fail
                go_roundw
                case rel => exact ⟨j + 1, by go_num, by omega, hS2⟩
                case measure =>
                  simp only [intOf]
                  omega
              · have hjn' : j = n + 1 := by omega
                obtain ⟨W14, hW14⟩ : ∃ W14 : World, W14 = wr := ⟨_, rfl⟩
                subst hW14
                have hP14 := hid_of (hP.out.spoilt hnx13.out.1 (B0 := W6.heap.size) (W8 := W14) (by have := hz6.out; omega) hB69.out hk713.out hz913.out hnx13.out.2.1 hnx13.out.2.2 hS.out.far (hS.out.below (by have := hz913.out; have := hn5.out; omega)))
                have hact : W14.heap[wo.heap.size]? = W13.heap[wo.heap.size]? := hS.out.far _ (by have := hz6.out; have := hn5.out; have := hz913.out; omega) (.inl (by have := hz6.out; omega))
                have k4 := (World.cell?_of_block (w := W13) (a := ⟨wo.heap.size, 4, none⟩) hact).trans hx4.out
                have k5 := (World.cell?_of_block (w := W13) (a := ⟨wo.heap.size, 5, none⟩) hact).trans hx5.out
                have hjb : ¬ (j : Int) < (n : Int) + 1 := by omega
                clear hS hact hnx13 hk713 hz913 hx4 hx5 hB69 hP6 hP hB6 hbk
                have ha1 := hid_of (asks_any (lc := lc') hP14.out.now.log hP14.out.now.ref hP14.out.now.ok hk2 hP14.out.now.bd 0 none 0 0 false 0 0 cinn)
                have ha2 := hid_of (fun W (hb : Below W14.heap.size W14 W) => asks_any (lc := lc') (hP14.out.now.below hb).log (hP14.out.now.below hb).ref hP14.out.now.ok hk2 hP14.out.now.bd 0 none 0 0 false g'.hor clim ⟨#[]⟩)
                unfold refV actV at ha1 ha2
                obtain ⟨e0, e1, e2, e3, -⟩ := hP14.out.b7
                rw [hL'.out, hx'.out] at ha1 ha2
                rw [hL'.out] at e1
                rw [hx'.out] at e3
                go_wp2_with fail
                refine ha1.out.mono ?_
                rintro e W15 ⟨rfl, hB15⟩
                replace e0 := stay hB15 e0
                replace e1 := stay hB15 e1
                replace e2 := stay hB15 e2
                replace e3 := stay hB15 e3
                replace k4 := stay hB15 k4
                replace ha2 := hid_of (ha2.out W15 hB15)
                have hP15 := hid_of (hP14.out.below hB15)
                clear ha1 hB15 hP14 k5
                go_wp2_with fail
                refine ha2.out.mono ?_
                rintro e W16 ⟨rfl, hB16⟩
                have hP16 := hid_of (hP15.out.below hB16)
                replace e0 := stay hB16 e0
                replace e1 := stay hB16 e1
                replace e2 := stay hB16 e2
                replace e3 := stay hB16 e3
                clear ha2 hB16 hP15 k4
                have hi0 : (0 : Int) ≤ (i : Int) := by omega
                have hi4 : (i : Int) ≤ 400 := by omega
                go_upto_region 28 with fail
                by_cases h7 : (i : Int) % 7 = 3
                · have hb7 : ((i : Int) % 7 == 3) = true := beq_iff_eq.2 h7
                  replace h7 := hid_of h7
                  have hs10 := hid_of hP16.out.same
                  rw [hL'.out, hx'.out] at hs10
                  obtain ⟨q0, q1, q2, q3, qf⟩ := hP16.out.b10
                  have qf0 := qf 0
                  have qf1 := qf 1
                  have qf2 := qf 2
                  have qf3 := qf 3
                  clear qf
                  have hne := hP16.out.ne
                  go_wp2_with fail
                  go_region
                  obtain ⟨W17, hW17⟩ : ∃ W, Hid ((set4 W16 q10 k la' L' lc' g'.hor x').drew = W) := ⟨_, rfl⟩
                  have hP17 : Hid (PI w W17 q7 q10 k p' g' a' cap' la' lc' p' g' a' cap' la' lc') := by
                    rw [← hW17.out]
                    exact hs10.out.below (below_drew (Below.refl _ _))
                  unfold set4 at hW17
                  rw [hW17.out]
                  clear hs10 hW17 q0 q1 q2 q3 qf0 qf1 qf2 qf3 e0 e1 e2 e3 hne
                  go_wp2_with fail
                  go_roundw
                  case rel => exact ⟨i + 1, p', g', a', cap', la', lc', p', g', a', cap', la', lc', by go_num, rfl, rfl, by omega, hP17⟩
                  case measure =>
                    simp only [intOf]
                    omega
                · have hb7 : ((i : Int) % 7 == 3) = false := beq_eq_false_iff_ne.2 h7
                  replace h7 := hid_of h7
                  clear e0 e1 e2 e3
                  go_wp2_with fail
                  go_roundw
                  case rel => exact ⟨i + 1, p', g', a', cap', la', lc', p1, g1, a1, cap1, la1, lc1, by go_num, rfl, rfl, by omega, hP16⟩
                  case measure =>
                    simp only [intOf]
                    omega
        · obtain rfl : i = N := by omega
          obtain ⟨Wz, hWz⟩ : ∃ Wz : World, Wz = wr := ⟨_, rfl⟩
          subst hWz
          have ha1 := hid_of (asks_any (lc := lc1) hP.out.fst.log hP.out.fst.ref hP.out.fst.ok hk2 hP.out.fst.bd 0 none 0 0 false g1.hor 0 ⟨#[]⟩)
          unfold refV actV at ha1
          obtain ⟨f0, f1, f2, f3, -⟩ := hP.out.b10
          obtain ⟨L1, hL1⟩ : ∃ L, Hid (g1.cs.length = L) := ⟨_, rfl⟩
          obtain ⟨x1, hx1⟩ : ∃ x, Hid (lastSt g1.cs = x) := ⟨_, rfl⟩
          rw [hL1.out, hx1.out] at ha1
          rw [hL1.out] at f1
          rw [hx1.out] at f3
          have hbel := hid_of hP.out.bel
          clear hP
          go_wp2_with fail
          refine ha1.out.mono ?_
          rintro e W8 ⟨rfl, hB8⟩
          go_wp2_with fail
          go_ret
          exact ⟨rfl, hbel.out.trans (hB8.mono hbel.out.size)⟩
end Go.Proofs.Ytpdcinicnekeoaa
