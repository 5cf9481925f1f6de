import Derived.Test.YtpdcinicnekeoaaFA
/-! WatchFollows: the walk. -/
namespace Go.Proofs.Ytpdcinicnekeoaa
open Go Go.RowKit Go.Watch
theorem FM.with {w0 w w' : World} {k p p' : Nat} {g g' : Lg} {a a' : Option Addr} {cap cap' : Nat} {af : Int} {oa : Option Addr} {on oc : Nat} {owed : List Chg} {tot : Nat} (h : FM w0 w k p g a cap oa on oc owed) (hb : Below w.heap.size w w') (hL : LogAt (NewS (fun b => ¬ blkOf oa b) w.heap.size) w' p' k g' a' cap') (hfi : FI k g' af owed) (hbd : ∀ c ∈ g'.cs, c.st ≤ 9223372036854775807) (ht : on ≤ tot) : FS w0 w' k p' g' a' cap' af oa on oc owed tot :=
  ⟨h.bel.trans (hb.mono h.bel.size), hL.mono (fun b hb' _ hbk => by
    rcases hb' with hb' | hb'
    · exact hb'.1 hbk
    · have := h.lt b hbk; omega), h.row.below hb, h.len, fun b hbk => Nat.lt_of_lt_of_le (h.lt b hbk) hb.size, hfi, hbd, ht⟩
set_option maxHeartbeats 16000000 in
set_option maxRecDepth 100000 in
theorem follows_true (keep : Int) (aa : Option Addr) (acts : List Ac) (ac : Nat) (ma : Option Addr) (lims : List Int) (mc : Nat) (w : World) (hA : ActsAt w aa acts) (hlen : acts.length ≤ 4611686018427387904) (hM : LimsAt w ma lims) (hml : lims.length ≤ 4611686018427387904) :
    Calls Try.prog 4 #[.int .i64 keep, .slice aa acts.length ac, .slice ma lims.length mc] w fun e w' => e = .returned (.bool true) ∧ Below w.heap.size w w' := by
  obtain ⟨ri, hri, hri1, hri2, hri3⟩ := chg_info
  have hnum := hid_of num_any
  obtain ⟨N, hN⟩ : ∃ N, Hid (acts.length = N) := ⟨_, rfl⟩
  obtain ⟨M, hMl⟩ : ∃ M, Hid (lims.length = M) := ⟨_, rfl⟩
  by_cases hkeep : keep < 1 ∨ 4096 < keep
  · rw [hN.out, hMl.out]
    have hnew := hid_of (new_not keep w hkeep)
    have hlv := hid_of (live_any w)
    clear hA hM hkeep
    go_enter Try.func4, Try.ntmps4
    go_wp2_with fail
    refine hnew.out.mono ?_
    rintro e Z ⟨rfl, hZ⟩
    obtain rfl : w = Z := hZ.symm
    clear hZ
    go_wp2_with fail
    refine (hnum.out _ _).mono ?_
    rintro e Z ⟨rfl, hZ⟩
    obtain rfl : w = Z := hZ.symm
    clear hZ
    go_wp2_with fail
    refine hlv.out.mono ?_
    rintro e W1 ⟨rfl, hB1⟩
    go_wp2_with fail
    go_ret
    exact ⟨rfl, hB1⟩
  · obtain ⟨k, rfl⟩ := Int.eq_ofNat_of_zero_le (a := keep) (by omega)
    have hk1 : 1 ≤ k := by omega
    have hk2 : k ≤ 4096 := by omega
    have hnew := hid_of (new_any (k : Int) w (by omega) (by omega))
    obtain ⟨W1, hW1⟩ : ∃ W1, Hid (w.alloc (newLog k) = W1) := ⟨_, rfl⟩
    have hL1 := newLog_at k w
    rw [hW1.out] at hnew hL1
    have hB1 : Below w.heap.size w W1 := by rw [← hW1.out]; exact (Below.refl _ w).alloc (Nat.le_refl _) _
    have hfew := hid_of (few_any (cap := ac) (hA.below hB1) hlen)
    have hlv := hid_of (live_any W1)
    have hmz : Hid (lims = [] ↔ M = 0) := by rw [← hMl.out]; exact List.length_eq_zero_iff.symm
    rw [hN.out] at hfew hlen ⊢
    rw [hMl.out] at hml ⊢
    replace hL1 := hid_of hL1
    replace hB1 := hid_of hB1
    clear hkeep
    by_cases hgo : fewB acts = true ∧ 0 < M
    · obtain ⟨hfb, hM0⟩ := hgo
      rw [hfb] at hfew
      have hN400 : N ≤ 400 ∧ totA acts ≤ 20000 := by
        unfold fewB at hfb
        rw [hN.out] at hfb
        simpa using hfb
      obtain ⟨hN4, htot⟩ := hN400
      replace htot := hid_of htot
      replace hA := hid_of hA
      replace hM := hid_of hM
      have hMz : ((M : Int) == 0) = false := by simp; omega
      have hst : Hid (FS w W1 k w.heap.size ⟨0, []⟩ none 0 0 none 0 0 [] (totA (acts.take 0))) := by
        have hL := hL1.out
        exact ⟨hB1.out, hL.mono (fun b _ _ hbk => by obtain ⟨o, s, e⟩ := hbk; cases e), Rw.nil _ _ _ _, rfl, (fun b hbk => by obtain ⟨o, s, e⟩ := hbk; cases e), FI.start k, (fun c hc => by simp at hc), Nat.zero_le _⟩
      clear hfb hlv hL1 hB1
      go_enter Try.func4, Try.ntmps4
      go_wp2_with fail
      refine hnew.out.mono ?_
      rintro e Z ⟨rfl, hZ⟩
      obtain rfl : W1 = Z := hZ.symm
      clear hZ hnew hW1
      go_wp2_with fail
      refine (hnum.out _ _).mono ?_
      rintro e Z ⟨rfl, hZ⟩
      obtain rfl : W1 = Z := hZ.symm
      clear hZ
      go_wp2_with fail
      refine hfew.out.mono ?_
      rintro e Z ⟨rfl, hZ⟩
      obtain rfl : W1 = Z := hZ.symm
      clear hZ hfew
      go_wp2_with fail
      go_loopw [7, 9, 10, 11] (fun lv av ov iv wr => ∃ (i p : Nat) (g : Lg) (a : Option Addr) (cap : Nat) (af : Int) (oa : Option Addr) (on oc : Nat) (owed : List Chg), iv = .int .i64 (i : Nat) ∧ lv = .pointer (some ⟨p, 0, none⟩) ∧ av = .int .i64 af ∧ ov = .slice oa on oc ∧ i ≤ N ∧ Hid (FS w wr k p g a cap af oa on oc owed (totA (acts.take i)))) (fun _ _ _ iv _ => N - (intOf iv).toNat)
      case atStart => exact ⟨0, w.heap.size, _, _, _, _, _, _, _, _, rfl, rfl, rfl, rfl, Nat.zero_le _, hst⟩
      case round =>
        clear hst
        obtain ⟨i, p, g, a, cap, af, oa, on, oc, owed, rfl, rfl, rfl, rfl, hin, hF⟩ := hrel
        obtain ⟨wo, hwo⟩ : ∃ wo : World, wo = wr := ⟨_, rfl⟩
        subst hwo
        by_cases hi : i < N
        · obtain ⟨c, hce⟩ : ∃ c, acts[i]? = some c := ⟨_, List.getElem?_eq_getElem (by rw [hN.out]; exact hi)⟩
          obtain ⟨b, o, rfl, hac, hcg, hcl, hcm, -, hcs⟩ := hA.out i c hce
          have hct := totA_mem hce
          have htk := totA_take hce
          have hac' := hac.keep (hF.out.bel.block _ hac.lt)
          obtain ⟨d0, d1, d2, d3, d4, d5⟩ := hac'
          obtain ⟨cst, cch, cca, ccc, cask, caf, clim, cinn⟩ := c
          simp only at d0 d1 d2 d3 d4 d5 hcg hcl hcm hcs hct htk
          obtain ⟨n, hn⟩ : ∃ n, Hid (cch.length = n) := ⟨_, rfl⟩
          rw [hn.out] at d1 hcl hct htk
          have hon : Hid (on + n ≤ 20000) := by have := hF.out.tot; have := htot.out; show _ ≤ _; omega
          have hon1 : on ≤ 20000 := by have := hon.out; omega
          have hn1 : n ≤ 20000 := by have := hon.out; omega
          obtain ⟨W6, hW6⟩ : ∃ W6, Hid (wo.alloc (.cells #[.int .i64 cst, .slice cca n ccc, .bool cask, .int .i64 caf, .int .i64 clim, .string cinn] 40) = W6) := ⟨_, rfl⟩
          have hB6 : Below wo.heap.size wo W6 := by rw [← hW6.out]; exact (Below.refl _ wo).alloc (Nat.le_refl _) _
          have hbk : W6.heap[wo.heap.size]? = some (.cells #[.int .i64 cst, .slice cca n ccc, .bool cask, .int .i64 caf, .int .i64 clim, .string cinn] 40 (0, 0)) := by rw [← hW6.out]; exact heap_alloc_new wo _
          have k0 : W6.cell? ⟨wo.heap.size, 0, none⟩ = some (.int .i64 cst) := by rw [cell_of_row W6 _ 0 _ _ _ hbk]; rfl
          have k1 : W6.cell? ⟨wo.heap.size, 1, none⟩ = some (.slice cca n ccc) := by rw [cell_of_row W6 _ 1 _ _ _ hbk]; rfl
          have k2 : W6.cell? ⟨wo.heap.size, 2, none⟩ = some (.bool cask) := by rw [cell_of_row W6 _ 2 _ _ _ hbk]; rfl
          have hF6 := hid_of (hF.out.below hB6)
          have hlt0 := hid_of hF.out.lt
          have hz6 : Hid (wo.heap.size < W6.heap.size) := by rw [← hW6.out]; show _ < _; simp
          replace hcg := hid_of hcg
          have htk' := hid_of htk
          clear hac hce hct hbk hF htk
          go_upto_region 10 with fail
          rw [hW6.out]
          clear d0 d1 d2 d3 d4 d5 hW6 hB6
          cases cask with
          | true =>
            obtain ⟨r, hr⟩ : ∃ r, Hid (i % M = r) := ⟨_, rfl⟩
            have hrM : r < M := by rw [← hr.out]; exact Nat.mod_lt _ hM0
            have hre : (i : Int) % (M : Int) = (r : Int) := by rw [← hr.out]; simp
            obtain ⟨lim, hlim⟩ : ∃ x, lims[r]? = some x := ⟨_, List.getElem?_eq_getElem (by rw [hMl.out]; exact hrM)⟩
            obtain ⟨bm, om, hmae, hmc⟩ := hM.out r lim hlim
            replace hmc := stay hF6.out.bel hmc
            have haf := hid_of (after_any hF6.out.log hF6.out.fi.ok hk2 hF6.out.bd af lim ⟨#[]⟩)
            have hr1 : (0 : Int) ≤ (r : Int) := by omega
            have hr2 : (r : Int) < (M : Int) := by omega
            have hi0 : (0 : Int) ≤ (i : Int) := by omega
            have hM1 : (0 : Int) < (M : Int) := by omega
            subst hmae
            clear hlim k0 k1
            by_cases hlost : af < g.hor
            · have e1 : toldT g af lim ⟨#[]⟩ = [] := if_pos hlost
              have e3 : errT g af = 180 := if_pos hlost
              rw [e1, e3] at haf
              have hko : Hid (k < on) := by have := hF6.out.fi.lost hlost; rw [hF6.out.len] at this; exact this
              have hko' : (k : Int) < (on : Int) := by have := hko.out; omega
              have hbel := hid_of hF6.out.bel
              clear e1 e3 hF6
              go_wp2_with fail
              refine haf.out.mono ?_
              rintro e W7 ⟨hB7, xa, xc, rfl, -⟩
              have hlv := hid_of (live_any W7)
              have hbel7 : Hid (Below w.heap.size w W7) := hbel.out.trans (hB7.mono hbel.out.size)
              clear haf hB7 hbel hmc
              go_wp2_with fail
              refine (hnum.out _ _).mono ?_
              rintro e Z ⟨rfl, hZ⟩
              obtain rfl : W7 = Z := hZ.symm
              clear hZ
              go_wp2_with fail
              refine (hnum.out _ _).mono ?_
              rintro e Z ⟨rfl, hZ⟩
              obtain rfl : W7 = Z := hZ.symm
              clear hZ
              go_wp2_with fail
              refine hlv.out.mono ?_
              rintro e W8 ⟨rfl, hB8⟩
              go_wp2_with fail
              go_ret
              exact ⟨rfl, hbel7.out.trans (hB8.mono hbel7.out.size)⟩
            · obtain ⟨e1, hfl, hpos, hup0, e3, hfi2⟩ := hF6.out.fi.ask lim hlost
              have eem : (⟨#[]⟩ : ByteArray) = ByteArray.empty := rfl
              rw [eem, e1, e3] at haf
              rw [← eem] at haf hup0 hfi2
              obtain ⟨up, hupe⟩ : ∃ u, Hid (uptoT g af lim ⟨#[]⟩ = u) := ⟨_, rfl⟩
              rw [hupe.out] at haf hup0 hfi2
              obtain ⟨m, hm⟩ : ∃ m, Hid (fit owed lim = m) := ⟨_, rfl⟩
              rw [hm.out] at haf hfl hpos hfi2
              have htl : Hid ((owed.take m).length = m) := by show _ = _; rw [List.length_take]; omega
              rw [hF6.out.len] at hfl
              have hp0 : 0 < on → 0 < m := fun h' => hpos (fun e => by have := hF6.out.len; rw [e] at this; simp at this; omega)
              clear e1 e3 eem hpos
              replace hfi2 := hid_of hfi2
              go_wp2_with fail
              refine haf.out.mono ?_
              rintro e W7 ⟨hB7, xa, xc, rfl, hR7⟩
              rw [htl.out] at hR7 ⊢
              have hF7 := hid_of (hF6.out.below hB7)
              have hF8 := hid_of (fun q => ((hF7.out.below (below_drewN (Below.refl _ W7) q)).told (m := m) (up := up) hfl hfi2.out).le (tot' := totA (acts.take (i + 1))) (by rw [htk'.out]; omega))
              have hC1 := hR7.chgs
              have hC2 : ChgsAt (fun b => w.heap.size ≤ b) W7 oa (owed.take m) := hF7.out.row.chgs.take m
              have hch := hid_of (changes_true (ca := xc) (cb := oc) hC1 hC2 (by rw [htl.out]; omega))
              rw [htl.out] at hch
              have hoc := hF7.out.row.le
              have hpt := hF7.out.row.pt
              have hnu : ¬ up < af := by omega
              have hmo : ¬ (on : Int) < (m : Int) := by omega
              have hmo2 : (m : Int) ≤ (on : Int) := by omega
              have hmoc : (m : Int) ≤ (oc : Int) := by omega
              have hm0i : (0 : Int) ≤ (m : Int) := by omega
              clear haf hB7 hR7 hF6 hC1 hC2 hmc
              go_wp2_with fail
              refine (hnum.out _ _).mono ?_
              rintro e Z ⟨rfl, hZ⟩
              obtain rfl : W7 = Z := hZ.symm
              clear hZ
              by_cases hoc0 : oc = 0
              · have hm0 : m = 0 := by omega
                have ho0 : on = 0 := by omega
                subst hoc0 hm0 ho0
                clear hpt
                go_wp2_with fail
                refine hch.out.mono ?_
                rintro e Z ⟨rfl, q, rfl⟩
                replace hF8 := hid_of (hF8.out q)
                clear hch hF7
                go_wp2_with fail
                go_roundw
                case rel => exact ⟨i + 1, p, g, a, cap, up, _, _, _, _, by go_num, rfl, rfl, by unfold advA; rw [if_pos rfl], by omega, hF8⟩
                case measure =>
                  simp only [intOf]
                  omega
              · obtain ⟨bo, oo, hae, -, -, -⟩ := hpt.resolve_left hoc0
                subst hae
                by_cases hm0 : m = 0
                · have ho0 : on = 0 := by
                    rcases Nat.eq_zero_or_pos on with h' | h'
                    · exact h'
                    · have := hp0 h'; omega
                  subst hm0 ho0
                  clear hpt
                  go_wp2_with fail
                  refine hch.out.mono ?_
                  rintro e Z ⟨rfl, q, rfl⟩
                  replace hF8 := hid_of (hF8.out q)
                  clear hch hF7
                  go_wp2_with fail
                  go_roundw
                  case rel => exact ⟨i + 1, p, g, a, cap, up, _, _, _, _, by go_num, rfl, rfl, by unfold advA; rw [if_neg hoc0]; simp [add_plain], by omega, hF8⟩
                  case measure =>
                    simp only [intOf]
                    omega
                · have hmz : ((m : Int) == 0) = false := by simp; omega
                  have hocm : ¬ oc = 0 := hoc0
                  clear hpt
                  by_cases hom : oc = m
                  · subst hom
                    go_wp2_with fail
                    refine hch.out.mono ?_
                    rintro e Z ⟨rfl, q, rfl⟩
                    replace hF8 := hid_of (hF8.out q)
                    clear hch hF7
                    go_wp2_with fail
                    go_roundw
                    case rel => exact ⟨i + 1, p, g, a, cap, up, _, _, _, _, by go_num, rfl, rfl, by unfold advA; rw [if_pos rfl, show on - oc = 0 from by omega, Nat.sub_self], by omega, hF8⟩
                    case measure =>
                      simp only [intOf]
                      omega
                  · have hmo' : ¬ m = oc := fun e => hom e.symm
                    go_wp2_with fail
                    refine hch.out.mono ?_
                    rintro e Z ⟨rfl, q, rfl⟩
                    replace hF8 := hid_of (hF8.out q)
                    clear hch hF7
                    go_wp2_with fail
                    go_roundw
                    case rel => exact ⟨i + 1, p, g, a, cap, up, _, _, _, _, by go_num, rfl, rfl, by unfold advA; rw [if_neg hom]; simp [add_plain], by omega, hF8⟩
                    case measure =>
                      simp only [intOf]
                      omega
          | false =>
            have hlast := hid_of (fun m => last_any (hF6.out.log.below (below_drewN (Below.refl _ W6) m)))
            obtain ⟨x, hx⟩ : ∃ x, Hid (lastSt g.cs = x) := ⟨_, rfl⟩
            rw [hx.out] at hlast
            by_cases hboth : x < cst ∧ 0 < n
            · obtain ⟨hxc, hn0⟩ := hboth
              have hn0' : (0 : Int) < (n : Int) := by omega
              go_wp2_with fail
              go_quiet ((go_at_call 12; exact Calls.quiet_of (hlast.out _)))
              obtain ⟨W7, hW7⟩ : ∃ W, Hid (W6.drewN nq = W) := ⟨_, rfl⟩
              have hB67 : Below W6.heap.size W6 W7 := by rw [← hW7.out]; exact below_drewN (Below.refl _ W6) nq
              rw [hW7.out]
              have hFM : Hid (FM w W7 k p g a cap oa on oc owed) := by
                have := hF6.out.below hB67
                exact ⟨this.bel, this.log, this.row, this.len, this.lt⟩
              have hab : Hid (W7.heap[wo.heap.size]? = W6.heap[wo.heap.size]?) := hB67.block _ hz6.out
              have hnb : Hid (¬ blkOf oa wo.heap.size) := fun h' => by have := hlt0.out _ h'; omega
              have hk01 : Hid (W6.cell? ⟨wo.heap.size, 0, none⟩ = some (.int .i64 cst) ∧ W6.cell? ⟨wo.heap.size, 1, none⟩ = some (.slice cca n ccc)) := ⟨k0, k1⟩
              have hfi := hid_of hF6.out.fi
              have hbd6 := hid_of hF6.out.bd
              have htot6 := hid_of hF6.out.tot
              replace hxc := hid_of hxc
              replace k1 := stay hB67 k1
              clear hlast hF6 hW7 hB67 k0 k2
              go_wp2_with fail
              clear k1
              go_loopw [10, 13] (fun sv jv wr => ∃ (j : Nat) (oa' : Option Addr) (oc' : Nat), jv = .int .i64 (j : Nat) ∧ sv = .slice oa' (on + j) oc' ∧ j ≤ n ∧ Hid (FM w wr k p g a cap oa' (on + j) oc' (owed ++ (cch.take j).map (Chg.at cst))) ∧ Hid (wr.heap[wo.heap.size]? = W6.heap[wo.heap.size]?) ∧ Hid (¬ blkOf oa' wo.heap.size)) (fun _ jv _ => n - (intOf jv).toNat)
              case atStart => exact ⟨0, oa, oc, rfl, rfl, Nat.zero_le _, by simpa using hFM, hab, hnb⟩
              case round =>
                clear hFM hab hnb
                obtain ⟨j, oa', oc', rfl, rfl, hjn, hFM, hab, hnb⟩ := hrel
                have k0 := (World.cell?_of_block (w := W6) (a := ⟨wo.heap.size, 0, none⟩) hab.out).trans hk01.out.1
                have k1 := (World.cell?_of_block (w := W6) (a := ⟨wo.heap.size, 1, none⟩) hab.out).trans hk01.out.2
                obtain ⟨wq, hwq⟩ : ∃ wq : World, wq = wr := ⟨_, rfl⟩
                subst hwq
                by_cases hj : j < n
                · obtain ⟨⟨ds, dn, di, dk⟩, hde⟩ : ∃ c, cch[j]? = some c := ⟨_, List.getElem?_eq_getElem (by rw [hn.out]; exact hj)⟩
                  obtain ⟨b2, o2, hcae, -, hcc⟩ := hcg.out j _ hde
                  have hcc' := hcc.keep (hFM.out.bel.block _ hcc.lt)
                  have d0 := hcc'.st
                  have d1 := hcc'.nm
                  have d2 := hcc'.id
                  have d3 := hcc'.kd
                  simp only at d0 d1 d2 d3
                  have hk0a : ∀ ob, (wq.alloc ob).cell? ⟨wo.heap.size, 0, none⟩ = some (.int .i64 cst) := fun ob => stay ((Below.refl _ wq).alloc (Nat.le_refl _) ob) k0
                  obtain ⟨W8, hW8⟩ : ∃ W, Hid (wq.alloc (.cells #[.int .i64 cst, .string dn, .string di, .int .i64 dk] 30) = W) := ⟨_, rfl⟩
                  obtain ⟨W9, hW9⟩ : ∃ W, Hid (W8.alloc (.cells #[.int .i64 cst, .string dn, .string di, .int .i64 dk] 30) = W) := ⟨_, rfl⟩
                  have hB8 : Below wq.heap.size wq W8 := by rw [← hW8.out]; exact (Below.refl _ wq).alloc (Nat.le_refl _) _
                  have hB9 : Below W8.heap.size W8 W9 := by rw [← hW9.out]; exact (Below.refl _ W8).alloc (Nat.le_refl _) _
                  have hB89 : Below wq.heap.size wq W9 := hB8.trans (hB9.mono hB8.size)
                  have hh : W8.heap[wq.heap.size]? = some (.cells #[.int .i64 cst, .string dn, .string di, .int .i64 dk] 30 (0, 0)) := by rw [← hW8.out]; exact heap_alloc_new wq _
                  have e0 : W8.cell? ⟨wq.heap.size, 0, none⟩ = some (.int .i64 cst) := by rw [cell_of_row W8 wq.heap.size 0 _ _ _ hh]; rfl
                  have e1 : W8.cell? ⟨wq.heap.size, 1, none⟩ = some (.string dn) := by rw [cell_of_row W8 wq.heap.size 1 _ _ _ hh]; rfl
                  have e2 : W8.cell? ⟨wq.heap.size, 2, none⟩ = some (.string di) := by rw [cell_of_row W8 wq.heap.size 2 _ _ _ hh]; rfl
                  have e3 : W8.cell? ⟨wq.heap.size, 3, none⟩ = some (.int .i64 dk) := by rw [cell_of_row W8 wq.heap.size 3 _ _ _ hh]; rfl
                  have hsrc : Src Try.prog 4 23 (.slice (some ⟨W8.heap.size, 0, none⟩) 1 1) 1 (chgCs ⟨cst, dn, di, dk⟩) W9 := by
                    rw [← hW9.out]
                    exact Src.of_block (cs := #[.int .i64 cst, .string dn, .string di, .int .i64 dk]) Try.underlying23 (heap_alloc_new W8 _) 1 1 rfl (fun u hu => flatC_one [⟨cst, dn, di, dk⟩] u (by simpa [flatC, chgCs] using hu))
                  have x0 := hid_of (hFM.out.row.below hB89)
                  have x6 : Hid (on + j + 1 ≤ maxLen ∧ (on + j + 1) * 48 ≤ 140737488355328 ∧ w.heap.size ≤ W9.heap.size) := by
                    have := hB89.size
                    have := hFM.out.bel.size
                    have := hon.out
                    unfold maxLen
                    exact ⟨by omega, by omega, by omega⟩
                  have hmap : Hid (owed ++ (cch.take (j + 1)).map (Chg.at cst) = (owed ++ (cch.take j).map (Chg.at cst)) ++ [⟨cst, dn, di, dk⟩]) := by
                    show _ = _
                    rw [List.take_add_one, hde]
                    simp [Chg.at]
                  have hlw : Hid (wo.heap.size < wq.heap.size) := lt_of_cell k0
                  have hstep : Hid (∀ g2 o2 c2 W10, Appd W9 w.heap.size 4 oa' (on + j) 1 oc' (flatC (owed ++ (cch.take j).map (Chg.at cst)) ++ chgCs ⟨cst, dn, di, dk⟩) g2 o2 c2 W10 → Hid (FM w W10 k p g a cap (some ⟨g2, o2, none⟩) (on + (j + 1)) c2 (owed ++ (cch.take (j + 1)).map (Chg.at cst))) ∧ Hid (W10.heap[wo.heap.size]? = W6.heap[wo.heap.size]?) ∧ Hid (¬ blkOf (some ⟨g2, o2, none⟩) wo.heap.size)) := fun g2 o2 c2 W10 hA => by
                    refine ⟨by rw [hmap.out]; exact hFM.out.more hB89 hA, ?_, ?_⟩
                    · exact (hA.fr.block _ (Nat.lt_of_lt_of_le hlw.out hB89.size) (fun e => hnb.out e.1)).trans ((hB89.block _ hlw.out).trans hab.out)
                    · intro h'
                      obtain ⟨o3, s3, e3⟩ := h'
                      cases e3
                      rcases hA.at' with ⟨e, -⟩ | ⟨e, -⟩
                      · exact hnb.out ⟨o2, none, e⟩
                      · have := hB89.size
                        have := hlw.out
                        omega
                  subst hcae
                  replace hh := hid_of hh
                  clear hcc hcc' hde hB8 hB9 hB89 hFM hab hnb k0
                  go_upto_region 17 with fail
                  rw [hW8.out]
                  clear d0 d1 d2 d3 hk0a k1
                  go_wp2_with (first
                    | rw [hW9.out]
                    | (at_builtin; go_must (refine wpList_append_rw W9 rfl _ _ 23 rfl 30 ri _ 4 48 Try.underlying23 hri hri1 hri2 hri3 rfl w.heap.size oa' (on + j) oc' (flatC (owed ++ (cch.take j).map (Chg.at cst))) rfl x0.out.len x0.out.le x0.out.mx x0.out.rd _ rfl 1 (chgCs ⟨cst, dn, di, dk⟩) hsrc (fun _ => x0.out) (by decide) x6.out.1 x6.out.2.1 x6.out.2.2 ?_); intro g2 o2 c2 W10 hA; obtain ⟨hF2, hab2, hnb2⟩ := hstep.out g2 o2 c2 W10 hA; clear hA hsrc hstep x0))
                  go_roundw
                  case rel => exact ⟨j + 1, _, _, by go_num, rfl, by omega, hF2, hab2, hnb2⟩
                  case measure =>
                    simp only [intOf]
                    omega
                · obtain rfl : j = n := by omega
                  have hwith := hid_of (with_any hFM.out.log hfi.out.ok hk1 hk2 cst cca cch ccc (hcg.out.below hFM.out.bel) (by rw [hn.out]; exact hcl) hcm)
                  rw [hn.out] at hwith
                  go_wp2_with fail
                  refine hwith.out.mono ?_
                  rintro e W8 ⟨hB8, p', a', cap', rfl, hL8⟩
                  have hF8 : Hid (FS w W8 k p' (withG k g cst cch) a' cap' af oa' (on + j) oc' (owed ++ cch.map (Chg.at cst)) (totA (acts.take (i + 1)))) := by
                    have h1 := hFM.out
                    rw [List.take_of_length_le (by rw [hn.out]; exact Nat.le_refl _)] at h1
                    refine h1.with hB8 hL8 (hfi.out.more hk1 (by rw [hx.out]; exact hxc.out) (fun e => by have := hn.out; rw [e] at this; simp at this; omega)) (withG_bd hfi.out.ok hbd6.out hcs) ?_
                    rw [htk'.out]
                    have := htot6.out
                    omega
                  clear hwith hB8 hL8 hFM k0 k1
                  go_wp2_with fail
                  go_roundw
                  case rel => exact ⟨i + 1, p', _, a', cap', af, oa', _, oc', _, by go_num, rfl, rfl, rfl, by omega, hF8⟩
                  case measure =>
                    simp only [intOf]
                    omega
            · by_cases hxc : x < cst
              · have hn0 : n = 0 := by
                  rcases Nat.eq_zero_or_pos n with h' | h'
                  · exact h'
                  · exact absurd ⟨hxc, h'⟩ hboth
                subst hn0
                have hnl : Hid (cch = []) := List.length_eq_zero_iff.1 hn.out
                clear hboth
                go_wp2_with fail
                go_quiet ((go_at_call 12; exact Calls.quiet_of (hlast.out _)))
                obtain ⟨W7, hW7⟩ : ∃ W, Hid (W6.drewN nq = W) := ⟨_, rfl⟩
                have hB67 : Hid (Below W6.heap.size W6 W7) := by rw [← hW7.out]; exact below_drewN (Below.refl _ W6) nq
                rw [hW7.out]
                have hF7 := hid_of (hF6.out.below hB67.out)
                replace k0 := stay hB67.out k0
                replace k1 := stay hB67.out k1
                have hwith := hid_of (with_any hF7.out.log hF7.out.fi.ok hk1 hk2 cst cca cch ccc (hcg.out.below hF7.out.bel) (by rw [hn.out]; exact hcl) hcm)
                rw [hn.out] at hwith
                clear hlast hF6 hW7
                go_wp2_with fail
                refine hwith.out.mono ?_
                rintro e W8 ⟨hB8, p', a', cap', rfl, hL8⟩
                have hF8 := hid_of (((hF7.out.with hB8 hL8 (hF7.out.fi.same (s := cst) (new := cch) (.inr hnl.out)) (withG_bd hF7.out.fi.ok hF7.out.bd hcs))).le (tot' := totA (acts.take (i + 1))) (by rw [htk'.out]; omega))
                clear hwith hB8 hL8 hF7 k0 k1 k2 hB67
                go_wp2_with fail
                go_roundw
                case rel => exact ⟨i + 1, p', _, a', cap', af, oa, on, oc, owed, by go_num, rfl, rfl, rfl, by omega, hF8⟩
                case measure =>
                  simp only [intOf]
                  omega
              · have hsl : Hid (cst ≤ lastSt g.cs) := by rw [hx.out]; show _ ≤ _; omega
                have hdx : decide (x < cst) = false := decide_eq_false hxc
                clear hboth
                go_wp2_with fail
                go_quiet ((go_at_call 12; exact Calls.quiet_of (hlast.out _)))
                obtain ⟨W7, hW7⟩ : ∃ W, Hid (W6.drewN nq = W) := ⟨_, rfl⟩
                have hB67 : Hid (Below W6.heap.size W6 W7) := by rw [← hW7.out]; exact below_drewN (Below.refl _ W6) nq
                rw [hW7.out]
                have hF7 := hid_of (hF6.out.below hB67.out)
                replace k0 := stay hB67.out k0
                replace k1 := stay hB67.out k1
                have hwith := hid_of (with_any hF7.out.log hF7.out.fi.ok hk1 hk2 cst cca cch ccc (hcg.out.below hF7.out.bel) (by rw [hn.out]; exact hcl) hcm)
                rw [hn.out] at hwith
                clear hlast hF6 hW7
                go_wp2_with fail
                refine hwith.out.mono ?_
                rintro e W8 ⟨hB8, p', a', cap', rfl, hL8⟩
                have hF8 := hid_of (((hF7.out.with hB8 hL8 (hF7.out.fi.same (s := cst) (new := cch) (.inl hsl.out)) (withG_bd hF7.out.fi.ok hF7.out.bd hcs))).le (tot' := totA (acts.take (i + 1))) (by rw [htk'.out]; omega))
                clear hwith hB8 hL8 hF7 k0 k1 k2 hB67
                go_wp2_with fail
                go_roundw
                case rel => exact ⟨i + 1, p', _, a', cap', af, oa, on, oc, owed, by go_num, rfl, rfl, rfl, by omega, hF8⟩
                case measure =>
                  simp only [intOf]
                  omega
        · obtain rfl : i = N := by omega
          have hlv := hid_of (live_any wo)
          have hbel := hid_of hF.out.bel
          clear hF
          go_wp2_with fail
          refine hlv.out.mono ?_
          rintro e W8 ⟨rfl, hB8⟩
          go_wp2_with fail
          go_ret
          exact ⟨rfl, hbel.out.trans (hB8.mono hbel.out.size)⟩
    · have hB1' := hB1
      by_cases hfb : fewB acts = true
      · have hM0 : M = 0 := by
          rcases Nat.eq_zero_or_pos M with h' | h'
          · exact h'
          · exact absurd ⟨hfb, h'⟩ hgo
        subst hM0
        rw [hfb] at hfew
        clear hgo hfb
        go_enter Try.func4, Try.ntmps4
        go_wp2_with fail
        refine hnew.out.mono ?_
        rintro e Z ⟨rfl, hZ⟩
        obtain rfl : W1 = Z := hZ.symm
        clear hZ hnew hW1
        go_wp2_with fail
        refine (hnum.out _ _).mono ?_
        rintro e Z ⟨rfl, hZ⟩
        obtain rfl : W1 = Z := hZ.symm
        clear hZ
        go_wp2_with fail
        refine hfew.out.mono ?_
        rintro e Z ⟨rfl, hZ⟩
        obtain rfl : W1 = Z := hZ.symm
        clear hZ hfew
        go_wp2_with fail
        refine hlv.out.mono ?_
        rintro e W2 ⟨rfl, hB2⟩
        go_wp2_with fail
        go_ret
        exact ⟨rfl, hB1.out.trans (hB2.mono hB1.out.size)⟩
      · have hfb' : fewB acts = false := by simpa using hfb
        rw [hfb'] at hfew
        clear hgo hfb hfb'
        go_enter Try.func4, Try.ntmps4
        go_wp2_with fail
        refine hnew.out.mono ?_
        rintro e Z ⟨rfl, hZ⟩
        obtain rfl : W1 = Z := hZ.symm
        clear hZ hnew hW1
        go_wp2_with fail
        refine (hnum.out _ _).mono ?_
        rintro e Z ⟨rfl, hZ⟩
        obtain rfl : W1 = Z := hZ.symm
        clear hZ
        go_wp2_with fail
        refine hfew.out.mono ?_
        rintro e Z ⟨rfl, hZ⟩
        obtain rfl : W1 = Z := hZ.symm
        clear hZ hfew
        go_wp2_with fail
        refine hlv.out.mono ?_
        rintro e W2 ⟨rfl, hB2⟩
        go_wp2_with fail
        go_ret
        exact ⟨rfl, hB1.out.trans (hB2.mono hB1.out.size)⟩
end Go.Proofs.Ytpdcinicnekeoaa
