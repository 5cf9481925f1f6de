import Derived.Test.YtpmlfgdhandpeaaHO
import Derived.Deep.DeepBigQuietO
/-! HeapCounts. -/
namespace Go.Proofs.Ytpmlfgdhandpeaa
open Go Go.RowKit
theorem log_info : (Try.prog.info? 159).map (fun i => (i.zero, i.size, i.bytes)) = some (some (.slice none 0 0), 1, 24) := by kernel_rfl
theorem ToldAt.own {lo : Nat} {w : World} {pl hb lb : Nat} {told : List (Int × Int)} {ta : Option Addr} {tc : Nat} (h : ToldAt lo w pl hb lb told ta tc) (b : Nat) (e : (Value.slice ta told.length tc).ownBlock = some b) : b < w.heap.size ∧ ∃ cs, w.heap[b]? = some (.cells cs 35 (0, 0)) := by
  obtain ⟨h1, h2⟩ := h.row
  rcases h2 with ⟨hv, _⟩ | ⟨g', cap', cur, hv, hg', hh, _⟩
  · rw [hv] at e; cases e
  · rw [hv] at e
    cases e
    exact ⟨(Array.getElem?_eq_some_iff.1 hh).1, cur, hh⟩
theorem other_keeps {w w0 w2 : World} {ob : Option Nat} {pl b : Nat} {x : Obj} (v : Value) (hB : Below w.heap.size w w0) (r2 : w0.grownBy w2 ob) (hne : ob ≠ some b) (hp : b ≠ pl) (e : w.heap[b]? = some x) : (w2.setCell ⟨pl, 8, none⟩ v).heap[b]? = some x := by
  have hlt := (Array.getElem?_eq_some_iff.1 e).1
  exact (Below.heap_setCell _ _ _ _ hp).trans ((r2.block b (Nat.lt_of_lt_of_le hlt hB.size) (fun e' => hne e'.symm)).trans ((hB.block b hlt).trans e))
set_option maxRecDepth 100000 in
set_option maxHeartbeats 16000000 in
theorem counts_true (a : Option Addr) (cap : Nat) (ops : List Hop) (most : Int) (w : World) (hO : OpsAt w a ops) (hcap : ops.length ≤ cap) :
    Calls Try.prog 5 #[.int .i64 most, .slice a ops.length cap] w fun e w' => e = .returned (.bool true) ∧ Below w.heap.size w w' := by
  obtain ⟨n, hn⟩ : ∃ n, Hid (ops.length = n) := ⟨_, rfl⟩
  obtain ⟨lo, hlo⟩ : ∃ lo, Hid (w.heap.size = lo) := ⟨_, rfl⟩
  rw [hn.out] at hcap ⊢
  replace hO := hid_of hO
  have hlv := hid_of live_any
  go_enter Try.func5, Try.ntmps5
  by_cases q1 : 2000 < n
  · go_wp2_with fail
    refine (hlv.out w).mono ?_
    rintro e Z ⟨rfl, hZ⟩
    go_wp2_with fail
    exact bodyPost_ret (v := .bool true) (by simp [results, Try.results5, go_sem]) rfl ⟨rfl, hZ⟩
  by_cases q2 : most < 1
  · go_wp2_with fail
    refine (hlv.out w).mono ?_
    rintro e Z ⟨rfl, hZ⟩
    go_wp2_with fail
    exact bodyPost_ret (v := .bool true) (by simp [results, Try.results5, go_sem]) rfl ⟨rfl, hZ⟩
  by_cases q3 : 1048576 < most
  · go_wp2_with fail
    refine (hlv.out w).mono ?_
    rintro e Z ⟨rfl, hZ⟩
    go_wp2_with fail
    exact bodyPost_ret (v := .bool true) (by simp [results, Try.results5, go_sem]) rfl ⟨rfl, hZ⟩
  have hn2 : n ≤ 2000 := by omega
  have hm1 : 1 ≤ most := by omega
  have hm2 : most ≤ 1048576 := by omega
  have hnum := hid_of num_any
  have hsc := hid_of (scripted_any w)
  obtain ⟨W1, hW1⟩ : ∃ W1, Hid (w.alloc (.cells #[.bool false] 76) = W1) := ⟨_, rfl⟩
  have z1 : W1.heap[w.heap.size]? = some (.cells #[.bool false] 76 (0, 0)) := by rw [← hW1.out]; exact heap_alloc_new w _
  have hB1 : Below w.heap.size w W1 := by rw [← hW1.out]; exact (Below.refl _ w).alloc (Nat.le_refl _) _
  rw [hW1.out] at hsc
  have hnew := hid_of (new_any w.heap.size w.heap.size 5 most W1 hB1.size z1 hm1 hm2)
  rw [hlo.out] at hnew hB1 hsc ⊢
  replace hB1 := hid_of hB1
  clear z1 hW1 q1 q2 q3
  go_wp2_with fail
  refine hsc.out.mono ?_
  rintro e Z ⟨rfl, hz⟩
  obtain rfl : W1 = Z := hz.symm
  clear hsc hz
  go_wp2_with fail
  refine hnew.out.mono ?_
  rintro e W2 ⟨hb, rfl, hB2, hS2⟩
  have hl2 : lo ≤ W2.heap.size := by have := hB1.out.size; have := hB2.size; have := hlo.out; omega
  have hB02 : Below lo w W2 := hB1.out.trans (hB2.mono (by have := hB1.out.size; have := hlo.out; omega))
  have hmk := run_make_row' (P := Try.prog) 48 159 (.slice none 0 0) 24 Try.underlying48 log_info rfl .i64 .i64 1 (by decide) (by decide) W2
  rw [show ((1 : Nat) : Int) = 1 from rfl] at hmk
  obtain ⟨W3, hW3⟩ : ∃ W3, Hid (W2.alloc (.cells (madeCells #[.slice none 0 0] 1) 159) = W3) := ⟨_, rfl⟩
  have hB23 : Below W2.heap.size W2 W3 := by rw [← hW3.out]; exact (Below.refl _ W2).alloc (Nat.le_refl _) _
  obtain ⟨W4, hW4⟩ : ∃ W4, Hid (W3.alloc (.cells (playCs hb W2.heap.size none 0 0) 56) = W4) := ⟨_, rfl⟩
  have hB34 : Below W3.heap.size W3 W4 := by rw [← hW4.out]; exact (Below.refl _ W3).alloc (Nat.le_refl _) _
  have z4 : W4.heap[W3.heap.size]? = some (.cells (playCs hb W2.heap.size none 0 0) 56 (0, 0)) := by rw [← hW4.out]; exact heap_alloc_new W3 _
  have hB24 : Below W2.heap.size W2 W4 := hB23.trans (hB34.mono hB23.size)
  have hS4 : Hid (HeapS lo W4 hb 5 most [] []) := hS2.under hB24
  have hT4 : Hid (ToldAt lo W4 W3.heap.size hb W2.heap.size [] none 0) := ⟨z4, by have := hB23.size; omega, ⟨by simp [flatT], .inl ⟨rfl, rfl⟩⟩⟩
  have hB04 : Hid (Below lo w W4) := hB02.trans (hB24.mono hl2)
  have hl4 : Hid (lo ≤ W4.heap.size) := Nat.le_trans hl2 hB24.size
  obtain ⟨pl, hpl⟩ : ∃ pl, Hid (W3.heap.size = pl) := ⟨_, rfl⟩
  obtain ⟨lb, hlb⟩ : ∃ lb, Hid (W2.heap.size = lb) := ⟨_, rfl⟩
  unfold playCs at hW4
  clear hnew hB1 hB2 hS2 hl2 hB02 hB23 hB34 z4 hB24
  go_upto_region 6 with fail
  refine (hnum.out 0 W2).mono ?_
  rintro e Z ⟨rfl, hz⟩
  obtain rfl : W2 = Z := hz.symm
  clear hz
  go_upto_region 8 with (first | rw [hW3.out] | rw [hW4.out])
  rw [hpl.out, hlb.out] at hT4
  rw [hpl.out, hlb.out]
  clear hmk hW3 hW4 hpl hlb
  obtain ⟨ri, hri, hri1, hri2, hri3⟩ := ref_info
  go_wp2_with fail
  go_loopw [8, 9, 10] (fun nv hv iv wr => ∃ (i L S : Nat) (ns : List Nd) (st : List Int) (told : List (Int × Int)) (ta : Option Addr) (tc : Nat), nv = .int .i64 ((L : Int) - S) ∧ hv = .int .i64 L ∧ iv = .int .i64 i ∧ i ≤ n ∧ ns.length = L ∧ st.length = S ∧ HInv i ns st ∧ (L : Int) ≤ most ∧ told.length ≤ i ∧ HeapS lo wr hb 5 most ns st ∧ ToldAt lo wr pl hb lb told ta tc ∧ Below lo w wr) (fun _ _ iv _ => n - (intOf iv).toNat)
  case atStart => exact ⟨0, 0, 0, [], [], [], none, 0, rfl, rfl, rfl, Nat.zero_le _, rfl, rfl, HInv.zero, by omega, Nat.le_refl _, hS4.out, hT4.out, hB04.out⟩
  case round =>
    clear hS4 hT4 hB04 hl4
    obtain ⟨i, L, S, ns, st, told, ta, tc, rfl, rfl, rfl, hin, hL, hS, hI, hLm, htl, hH, hT, hB⟩ := hrel
    have hlw : lo ≤ wr.heap.size := by have := hB.size; have := hlo.out; omega
    by_cases hi : i < n
    · obtain ⟨e, he⟩ : ∃ e, Hid (ops[i]? = some e) := ⟨ops[i]'(by have := hn.out; omega), List.getElem?_eq_getElem (by have := hn.out; omega)⟩
      obtain ⟨b, o, hba, x0, x1, x2, x3, x4⟩ := (hO.out.keep (hlo.out ▸ hB)) i e he.out
      subst hba
      obtain ⟨ek, ev, eh, em, eg⟩ := e
      simp only at x0 x1 x2 x3 x4
      obtain ⟨X0, hX0⟩ : ∃ X0, Hid (wr.alloc (.cells #[.int .i64 ek, .int .i64 ev, .int .i64 eh, .int .i64 em, .int .i64 eg] 37) = X0) := ⟨_, rfl⟩
      have hB0 : Below wr.heap.size wr X0 := by rw [← hX0.out]; exact (Below.refl _ wr).alloc (Nat.le_refl _) _
      have zo : X0.heap[wr.heap.size]? = some (.cells (hopCs ⟨ek, ev, eh, em, eg⟩) 37 (0, 0)) := by rw [← hX0.out]; exact heap_alloc_new wr _
      obtain ⟨c0, c1, c2, c3, c4⟩ := hop_cells zo
      simp only at c0 c1 c2 c3 c4
      have hF0 : FT lo wr X0 := FT.of_below hB0 hlw
      have hH0 := hid_of (hH.under hB0)
      have hT0 := hid_of (hT.cold hF0)
      have hBX : Hid (Below lo w X0) := hB.trans hF0.below
      have hl0 : Hid (lo ≤ X0.heap.size) := Nat.le_trans hlw hB0.size
      have hLi := hI.ln
      have hSi := hI.ls
      rw [hL] at hLi
      rw [hS] at hSi
      replace hL := hid_of hL
      replace hS := hid_of hS
      replace hI := hid_of hI
      replace htl := hid_of htl
      replace zo := hid_of zo
      clear hH hT hB hB0 hF0
      go_upto_region 12 with (rw [hX0.out])
      by_cases k1 : ek = 1
      · subst k1
        cases st with
        | cons x st' =>
          obtain ⟨k, y, hxk, hky⟩ := hI.out.num x (by simp)
          subst hxk
          have hS1 : S ≤ st'.length + 1 := Nat.le_of_eq hS.out.symm
          have hS2 : st'.length + 1 ≤ S := Nat.le_of_eq hS.out
          have hIx := hid_of (hI.out.again hky ev)
          have hLN : Hid ((ns.set k (⟨y.gen, true, ev⟩ : Nd)).length = L) := by unfold Hid; rw [List.length_set]; exact hL.out
          obtain ⟨S0, hSN⟩ : ∃ S0, Hid (st'.length = S0) := ⟨_, rfl⟩
          rw [hSN.out] at hS1 hS2
          obtain ⟨gy, hgy⟩ : ∃ gy, y.gen = gy := ⟨_, rfl⟩
          rw [hgy] at hIx hLN
          have hac := hid_of (alloc_again hH0.out hl0.out k st' y rfl hky (by have := hS.out; omega) ev)
          rw [hgy] at hac
          go_upto_region 14 with fail
          refine hac.out.mono ?_
          rintro e X1 ⟨rfl, hT1, hS1⟩
          obtain ⟨X2, hX2⟩ : ∃ X2, Hid (X1.alloc (.cells #[.int .i64 ((k : Int) + 1), .int .i64 (gy)] 35) = X2) := ⟨_, rfl⟩
          have hB12 : Below X1.heap.size X1 X2 := by rw [← hX2.out]; exact (Below.refl _ X1).alloc (Nat.le_refl _) _
          have hl1 : lo ≤ X1.heap.size := Nat.le_trans hl0.out hT1.size
          have hF02 : FT lo X0 X2 := hT1.trans (FT.of_below hB12 hl1)
          have zr : X2.heap[X1.heap.size]? = some (.cells #[.int .i64 ((k : Int) + 1), .int .i64 (gy)] 35 (0, 0)) := by rw [← hX2.out]; exact heap_alloc_new X1 _
          have r0 : X2.cell? ⟨X1.heap.size, 0, none⟩ = some (.int .i64 ((k : Int) + 1)) := cell_of zr rfl
          have r1 : X2.cell? ⟨X1.heap.size, 1, none⟩ = some (.int .i64 (gy)) := cell_of zr rfl
          have hT2 := hT0.out.cold hF02
          have hH2 := hS1.under hB12
          have zo2 := hF02.cold _ _ zo.out rfl
          have hB2 : Hid (Below lo w X2) := hBX.out.trans hF02.below
          have hl2 : lo ≤ X2.heap.size := Nat.le_trans hl1 hB12.size
          have hor : (Value.slice ta told.length tc).ownBlock ≠ some X1.heap.size := fun e => by have := (hT0.out.own _ e).1; have := hT1.size; omega
          have hoo : (Value.slice ta told.length tc).ownBlock ≠ some wr.heap.size := fun e => by
            obtain ⟨-, cs, h⟩ := hT2.own _ e
            rw [zo2] at h
            cases h
          have hop : wr.heap.size ≠ pl := fun e => by
            have h := hT2.blk
            rw [← e, zo2] at h
            cases h
          have hrp : X1.heap.size ≠ pl := fun e => by
            have h := hT2.blk
            rw [← e, zr] at h
            cases h
          have hap : Hid (∀ w0 g4 c4 w4, Below X2.heap.size X2 w0 → w4.ownsRow lo 35 2 (.slice (some ⟨g4, 0, none⟩) (told.length + 1) c4) (told.length + 1) (flatT told ++ [.int .i64 ((k : Int) + 1), .int .i64 (gy)]) → w0.grownBy w4 (Value.slice ta told.length tc).ownBlock → (∃ v, w4.cell? ⟨pl, 8, none⟩ = some v) ∧ w4.frozen? ⟨pl, 8, none⟩ = false ∧ ∃ W5, w4.setCell ⟨pl, 8, none⟩ (.slice (some ⟨g4, 0, none⟩) (told.length + 1) c4) = W5 ∧ ToldAt lo W5 pl hb lb (told ++ [(((k : Int) + 1), (gy))]) (some ⟨g4, 0, none⟩) c4 ∧ HeapS lo W5 hb 5 most (ns.set k ⟨gy, true, ev⟩) (st') ∧ Below lo w W5 ∧ W5.cell? ⟨wr.heap.size, 0, none⟩ = some (.int .i64 1) ∧ W5.cell? ⟨X1.heap.size, 0, none⟩ = some (.int .i64 ((k : Int) + 1)) ∧ lo ≤ W5.heap.size) := fun w0 g4 c4 w4 h1 h2 h3 => by
            obtain ⟨a1, a2, a3, a4, a5⟩ := hT2.more hl2 h1 hH2 (u := (((k : Int) + 1), (gy))) h2 h3
            exact ⟨a1, a2, _, rfl, a3, a4, hB2.out.trans a5, cell_of (other_keeps _ h1 h3 hoo hop zo2) rfl, cell_of (other_keeps _ h1 h3 hor hrp zr) rfl, Nat.le_trans hl2 a5.size⟩
          replace hl2 := hid_of hl2
          have y8 := hT2.cell
          have hrow := hid_of hT2.row
          have hTl : Hid ((told ++ [(((k : Int) + 1), (gy))]).length ≤ i + 1) := by unfold Hid; rw [List.length_append]; exact Nat.succ_le_succ htl.out
          obtain ⟨m, hm⟩ : ∃ m, Hid (told.length = m) := ⟨_, rfl⟩
          rw [hm.out] at y8 hrow hap
          have hone : Hid (∀ v ∈ [Value.int .i64 ((k : Int) + 1), .int .i64 (gy)], v.oneCell' = true) := fun v hv => flatT_one [(((k : Int) + 1), (gy))] v (by simpa [flatT] using hv)
          have hm3 : m ≤ 2000 := by have := hm.out; have := htl.out; omega
          have y8a : ∀ o, (X2.alloc o).cell? ⟨pl, 8, none⟩ = some (.slice ta m tc) := fun o => by rw [World.cell?_alloc_lt _ _ _ (World.block_lt_of_cell? X2 _ y8)]; exact y8
          clear hac hT1 hS1 hB12 hl1 hF02 hT0 hH0 c0 c1 c2 c3 c4 hBX hT2 hH2 zo2 zr hB2 hor hoo hop hrp zo htl hm
          go_upto_region 14 with (rw [hX2.out])
          clear hX2
          go_upto_region 15 with fail
          refine (hnum.out 0 X2).mono ?_
          rintro e Z ⟨rfl, hz⟩
          obtain rfl : X2 = Z := hz.symm
          clear hz
          go_upto_region 15 with fail
          go_region_law (refine step_append_lies _ (by rfl) _ _ 31 (by rfl) lo 35 ri _ 2 16 refs_u hri hri1 hri2 hri3 (by rfl) (by decide) _ m (flatT told) (by rfl) (by exact World.ownsRow.alloc hrow.out _) _ 1 1 [.int .i64 ((k : Int) + 1), .int .i64 (gy)] (by rfl) (by rfl) (World.news_of_block (heap_alloc_new X2 _)) hone.out (by decide) (by unfold maxLen; omega) (by omega) (Nat.le_trans hl2.out (below_drew ((Below.refl _ X2).alloc (Nat.le_refl _) _)).size) _ rfl ?_; intro g4 c4 w4 hown4 hgrow4 hat4 hlt4; obtain ⟨⟨v8, u1⟩, u2, W5, hW5, hTx, hHx, hBx, s0, s1, hlx⟩ := hap.out _ g4 c4 w4 (below_drew ((Below.refl _ X2).alloc (Nat.le_refl _) _)) hown4 hgrow4; replace hTx := hid_of hTx; replace hHx := hid_of hHx; replace hBx := hid_of hBx; replace hlx := hid_of hlx; replace hW5 := hid_of hW5; clear hown4 hgrow4 hat4 hlt4)
          all_goals
            rw [hW5.out]
            clear hap hrow hone y8 y8a u1 u2 hW5 r0 r1 hl2
            have hpos : decide (0 < (k : Int) + 1) = true := decide_eq_true (by omega)
            go_upto_region 17 with fail
            go_quiet ((go_at_call 9; exact Calls.quiet_of_same (hnum.out 0 _)))
            obtain ⟨X8, hX8⟩ : ∃ X8, Hid (W5.drewN nq = X8) := ⟨_, rfl⟩
            rw [hX8.out]
            have hB8 : Hid (Below W5.heap.size W5 X8) := by unfold Hid; rw [← hX8.out]; exact below_drewN (Below.refl _ W5) nq
            have s2 : X8.cell? ⟨wr.heap.size, 0, none⟩ = some (.int .i64 1) := stay hB8.out s0
            clear hX8 s0 s1
            go_upto_region 19 with fail
            go_quiet (fail)
            obtain ⟨X9, hX9⟩ : ∃ X9, Hid (X8.drewN nq = X9) := ⟨_, rfl⟩
            rw [hX9.out]
            have hB9 : Below W5.heap.size W5 X9 := by rw [← hX9.out]; exact below_drewN hB8.out nq
            replace hHx : Hid (HeapS lo X9 hb 5 most (ns.set k ⟨gy, true, ev⟩) (st')) := hHx.out.under hB9
            replace hTx : Hid (ToldAt lo X9 pl hb lb (told ++ [(((k : Int) + 1), (gy))]) (some ⟨g4, 0, none⟩) c4) := hTx.out.cold (FT.of_below hB9 hlx.out)
            replace hBx : Hid (Below lo w X9) := hBx.out.trans (hB9.mono hlx.out)
            replace hlx : Hid (lo ≤ X9.heap.size) := Nat.le_trans hlx.out hB9.size
            clear hX9 hB8 hB9 s2
            have hmd := hid_of (fun W (hW : Below X9.heap.size X9 W) => made_s (hHx.out.under hW) ((L : Int)) (by have e1 := hLN.out; have e2 := hSN.out; omega))
            have hpo := hid_of (fun W (hW : Below X9.heap.size X9 W) => pooled_s (hHx.out.under hW) ((S0 : Int)) (by have e1 := hLN.out; have e2 := hSN.out; omega))
            have hal := hid_of (fun W (hW : Below X9.heap.size X9 W) => alive_s (hHx.out.under hW) (by have e1 := hLN.out; omega) (by have e2 := hSN.out; omega) ((L : Int) - S + 1) (by have e1 := hLN.out; have e2 := hSN.out; omega))
            have hsum : (((L : Int)) != ((S0 : Int)) + ((L : Int) - S + 1)) = false := by simp; omega
            have hmost : ¬ most < ((L : Int)) := by omega
            have hgt : ¬ (L : Int) < (L : Int) - S + 1 := by omega
            go_wp2_with fail
            refine (hal.out X9 (Below.refl _ X9)).mono ?_
            rintro e Y1 ⟨rfl, hY1⟩
            replace hY1 := hid_of hY1
            go_wp2_with fail
            refine (hmd.out Y1 hY1.out).mono ?_
            rintro e Z ⟨rfl, hz⟩
            obtain rfl : Y1 = Z := hz.symm
            clear hz
            go_wp2_with fail
            refine (hpo.out Y1 hY1.out).mono ?_
            rintro e Y2 ⟨rfl, hY2⟩
            have hY02 : Hid (Below X9.heap.size X9 Y2) := hY1.out.trans (hY2.mono hY1.out.size)
            clear hY2
            go_wp2_with fail
            refine (hal.out Y2 hY02.out).mono ?_
            rintro e Y3 ⟨rfl, hY3⟩
            have hY03 : Hid (Below X9.heap.size X9 Y3) := hY02.out.trans (hY3.mono hY02.out.size)
            clear hY3
            go_wp2_with fail
            refine (hmd.out Y3 hY03.out).mono ?_
            rintro e Z ⟨rfl, hz⟩
            obtain rfl : Y3 = Z := hz.symm
            clear hz
            go_wp2_with fail
            refine (hmd.out Y3 hY03.out).mono ?_
            rintro e Z ⟨rfl, hz⟩
            obtain rfl : Y3 = Z := hz.symm
            clear hz
            have hfin : Hid (∃ (i' L' S' : Nat) (ns' : List Nd) (st' : List Int) (told' : List (Int × Int)) (ta' : Option Addr) (tc' : Nat), Value.int .i64 ((L : Int) - S + 1) = .int .i64 ((L' : Int) - S') ∧ Value.int .i64 ((L : Int)) = .int .i64 L' ∧ Value.int .i64 ((i : Int) + 1) = .int .i64 i' ∧ i' ≤ n ∧ ns'.length = L' ∧ st'.length = S' ∧ HInv i' ns' st' ∧ (L' : Int) ≤ most ∧ told'.length ≤ i' ∧ HeapS lo Y3 hb 5 most ns' st' ∧ ToldAt lo Y3 pl hb lb told' ta' tc' ∧ Below lo w Y3) :=
              ⟨i + 1, L, S0, _, _, _, _, _, by go_num, by go_num, by go_num, by omega, hLN.out, hSN.out, hIx.out, by omega, hTl.out, hHx.out.under hY03.out, hTx.out.cold (FT.of_below hY03.out hlx.out), hBx.out.trans (hY03.out.mono hlx.out)⟩
            clear hmd hpo hal hY1 hY02 hY03
            go_wp2_with fail
            exact ⟨hfin.out, by simp [intOf]; omega⟩
        | nil =>
          have hS0 : S ≤ 0 := Nat.le_of_eq hS.out.symm
          by_cases hlt : (L : Int) < most
          · have hIx := hid_of (hI.out.make ev)
            have hLN : Hid ((ns ++ [(⟨1, true, ev⟩ : Nd)]).length = L + 1) := by unfold Hid; rw [List.length_append]; exact congrArg (· + 1) hL.out
            have hSN := hS
            have hac : Hid (Calls Try.prog 11 #[.pointer (some ⟨hb, 0, none⟩), .pointer none, .int .i64 ev] X0 (AllocPost lo X0 hb 5 most ((L : Int) + 1) 1 0 (ns ++ [⟨1, true, ev⟩]) [])) := ((alloc_rest hH0.out hl0.out (by have := hL.out; omega) ev).mono (fun e w9 h => by rw [hL.out] at h; rwa [if_pos hlt] at h))
            go_upto_region 14 with fail
            refine hac.out.mono ?_
            rintro e X1 ⟨rfl, hT1, hS1⟩
            obtain ⟨X2, hX2⟩ : ∃ X2, Hid (X1.alloc (.cells #[.int .i64 ((L : Int) + 1), .int .i64 (1)] 35) = X2) := ⟨_, rfl⟩
            have hB12 : Below X1.heap.size X1 X2 := by rw [← hX2.out]; exact (Below.refl _ X1).alloc (Nat.le_refl _) _
            have hl1 : lo ≤ X1.heap.size := Nat.le_trans hl0.out hT1.size
            have hF02 : FT lo X0 X2 := hT1.trans (FT.of_below hB12 hl1)
            have zr : X2.heap[X1.heap.size]? = some (.cells #[.int .i64 ((L : Int) + 1), .int .i64 (1)] 35 (0, 0)) := by rw [← hX2.out]; exact heap_alloc_new X1 _
            have r0 : X2.cell? ⟨X1.heap.size, 0, none⟩ = some (.int .i64 ((L : Int) + 1)) := cell_of zr rfl
            have r1 : X2.cell? ⟨X1.heap.size, 1, none⟩ = some (.int .i64 (1)) := cell_of zr rfl
            have hT2 := hT0.out.cold hF02
            have hH2 := hS1.under hB12
            have zo2 := hF02.cold _ _ zo.out rfl
            have hB2 : Hid (Below lo w X2) := hBX.out.trans hF02.below
            have hl2 : lo ≤ X2.heap.size := Nat.le_trans hl1 hB12.size
            have hor : (Value.slice ta told.length tc).ownBlock ≠ some X1.heap.size := fun e => by have := (hT0.out.own _ e).1; have := hT1.size; omega
            have hoo : (Value.slice ta told.length tc).ownBlock ≠ some wr.heap.size := fun e => by
              obtain ⟨-, cs, h⟩ := hT2.own _ e
              rw [zo2] at h
              cases h
            have hop : wr.heap.size ≠ pl := fun e => by
              have h := hT2.blk
              rw [← e, zo2] at h
              cases h
            have hrp : X1.heap.size ≠ pl := fun e => by
              have h := hT2.blk
              rw [← e, zr] at h
              cases h
            have hap : Hid (∀ w0 g4 c4 w4, Below X2.heap.size X2 w0 → w4.ownsRow lo 35 2 (.slice (some ⟨g4, 0, none⟩) (told.length + 1) c4) (told.length + 1) (flatT told ++ [.int .i64 ((L : Int) + 1), .int .i64 (1)]) → w0.grownBy w4 (Value.slice ta told.length tc).ownBlock → (∃ v, w4.cell? ⟨pl, 8, none⟩ = some v) ∧ w4.frozen? ⟨pl, 8, none⟩ = false ∧ ∃ W5, w4.setCell ⟨pl, 8, none⟩ (.slice (some ⟨g4, 0, none⟩) (told.length + 1) c4) = W5 ∧ ToldAt lo W5 pl hb lb (told ++ [(((L : Int) + 1), (1))]) (some ⟨g4, 0, none⟩) c4 ∧ HeapS lo W5 hb 5 most (ns ++ [⟨1, true, ev⟩]) ([]) ∧ Below lo w W5 ∧ W5.cell? ⟨wr.heap.size, 0, none⟩ = some (.int .i64 1) ∧ W5.cell? ⟨X1.heap.size, 0, none⟩ = some (.int .i64 ((L : Int) + 1)) ∧ lo ≤ W5.heap.size) := fun w0 g4 c4 w4 h1 h2 h3 => by
              obtain ⟨a1, a2, a3, a4, a5⟩ := hT2.more hl2 h1 hH2 (u := (((L : Int) + 1), (1))) h2 h3
              exact ⟨a1, a2, _, rfl, a3, a4, hB2.out.trans a5, cell_of (other_keeps _ h1 h3 hoo hop zo2) rfl, cell_of (other_keeps _ h1 h3 hor hrp zr) rfl, Nat.le_trans hl2 a5.size⟩
            replace hl2 := hid_of hl2
            have y8 := hT2.cell
            have hrow := hid_of hT2.row
            have hTl : Hid ((told ++ [(((L : Int) + 1), (1))]).length ≤ i + 1) := by unfold Hid; rw [List.length_append]; exact Nat.succ_le_succ htl.out
            obtain ⟨m, hm⟩ : ∃ m, Hid (told.length = m) := ⟨_, rfl⟩
            rw [hm.out] at y8 hrow hap
            have hone : Hid (∀ v ∈ [Value.int .i64 ((L : Int) + 1), .int .i64 (1)], v.oneCell' = true) := fun v hv => flatT_one [(((L : Int) + 1), (1))] v (by simpa [flatT] using hv)
            have hm3 : m ≤ 2000 := by have := hm.out; have := htl.out; omega
            have y8a : ∀ o, (X2.alloc o).cell? ⟨pl, 8, none⟩ = some (.slice ta m tc) := fun o => by rw [World.cell?_alloc_lt _ _ _ (World.block_lt_of_cell? X2 _ y8)]; exact y8
            clear hac hT1 hS1 hB12 hl1 hF02 hT0 hH0 c0 c1 c2 c3 c4 hBX hT2 hH2 zo2 zr hB2 hor hoo hop hrp zo htl hm
            go_upto_region 14 with (rw [hX2.out])
            clear hX2
            go_upto_region 15 with fail
            refine (hnum.out 0 X2).mono ?_
            rintro e Z ⟨rfl, hz⟩
            obtain rfl : X2 = Z := hz.symm
            clear hz
            go_upto_region 15 with fail
            go_region_law (refine step_append_lies _ (by rfl) _ _ 31 (by rfl) lo 35 ri _ 2 16 refs_u hri hri1 hri2 hri3 (by rfl) (by decide) _ m (flatT told) (by rfl) (by exact World.ownsRow.alloc hrow.out _) _ 1 1 [.int .i64 ((L : Int) + 1), .int .i64 (1)] (by rfl) (by rfl) (World.news_of_block (heap_alloc_new X2 _)) hone.out (by decide) (by unfold maxLen; omega) (by omega) (Nat.le_trans hl2.out (below_drew ((Below.refl _ X2).alloc (Nat.le_refl _) _)).size) _ rfl ?_; intro g4 c4 w4 hown4 hgrow4 hat4 hlt4; obtain ⟨⟨v8, u1⟩, u2, W5, hW5, hTx, hHx, hBx, s0, s1, hlx⟩ := hap.out _ g4 c4 w4 (below_drew ((Below.refl _ X2).alloc (Nat.le_refl _) _)) hown4 hgrow4; replace hTx := hid_of hTx; replace hHx := hid_of hHx; replace hBx := hid_of hBx; replace hlx := hid_of hlx; replace hW5 := hid_of hW5; clear hown4 hgrow4 hat4 hlt4)
            all_goals
              rw [hW5.out]
              clear hap hrow hone y8 y8a u1 u2 hW5 r0 r1 hl2
              have hpos : decide (0 < (L : Int) + 1) = true := decide_eq_true (by omega)
              go_upto_region 17 with fail
              go_quiet ((go_at_call 9; exact Calls.quiet_of_same (hnum.out 0 _)))
              obtain ⟨X8, hX8⟩ : ∃ X8, Hid (W5.drewN nq = X8) := ⟨_, rfl⟩
              rw [hX8.out]
              have hB8 : Hid (Below W5.heap.size W5 X8) := by unfold Hid; rw [← hX8.out]; exact below_drewN (Below.refl _ W5) nq
              have s2 : X8.cell? ⟨wr.heap.size, 0, none⟩ = some (.int .i64 1) := stay hB8.out s0
              clear hX8 s0 s1
              go_upto_region 19 with fail
              go_quiet (fail)
              obtain ⟨X9, hX9⟩ : ∃ X9, Hid (X8.drewN nq = X9) := ⟨_, rfl⟩
              rw [hX9.out]
              have hB9 : Below W5.heap.size W5 X9 := by rw [← hX9.out]; exact below_drewN hB8.out nq
              replace hHx : Hid (HeapS lo X9 hb 5 most (ns ++ [⟨1, true, ev⟩]) ([])) := hHx.out.under hB9
              replace hTx : Hid (ToldAt lo X9 pl hb lb (told ++ [(((L : Int) + 1), (1))]) (some ⟨g4, 0, none⟩) c4) := hTx.out.cold (FT.of_below hB9 hlx.out)
              replace hBx : Hid (Below lo w X9) := hBx.out.trans (hB9.mono hlx.out)
              replace hlx : Hid (lo ≤ X9.heap.size) := Nat.le_trans hlx.out hB9.size
              clear hX9 hB8 hB9 s2
              have hmd := hid_of (fun W (hW : Below X9.heap.size X9 W) => made_s (hHx.out.under hW) ((L : Int) - S + 1) (by have e1 := hLN.out; have e2 := hSN.out; omega))
              have hpo := hid_of (fun W (hW : Below X9.heap.size X9 W) => pooled_s (hHx.out.under hW) ((S : Int)) (by have e1 := hLN.out; have e2 := hSN.out; omega))
              have hal := hid_of (fun W (hW : Below X9.heap.size X9 W) => alive_s (hHx.out.under hW) (by have e1 := hLN.out; omega) (by have e2 := hSN.out; omega) ((L : Int) - S + 1) (by have e1 := hLN.out; have e2 := hSN.out; omega))
              have hsum : (((L : Int) - S + 1) != ((S : Int)) + ((L : Int) - S + 1)) = false := by simp; omega
              have hmost : ¬ most < ((L : Int) - S + 1) := by omega
              have hgt : (L : Int) < (L : Int) - S + 1 := by omega
              go_wp2_with fail
              refine (hal.out X9 (Below.refl _ X9)).mono ?_
              rintro e Y1 ⟨rfl, hY1⟩
              replace hY1 := hid_of hY1
              go_wp2_with fail
              refine (hmd.out Y1 hY1.out).mono ?_
              rintro e Z ⟨rfl, hz⟩
              obtain rfl : Y1 = Z := hz.symm
              clear hz
              go_wp2_with fail
              refine (hpo.out Y1 hY1.out).mono ?_
              rintro e Y2 ⟨rfl, hY2⟩
              have hY02 : Hid (Below X9.heap.size X9 Y2) := hY1.out.trans (hY2.mono hY1.out.size)
              clear hY2
              go_wp2_with fail
              refine (hal.out Y2 hY02.out).mono ?_
              rintro e Y3 ⟨rfl, hY3⟩
              have hY03 : Hid (Below X9.heap.size X9 Y3) := hY02.out.trans (hY3.mono hY02.out.size)
              clear hY3
              go_wp2_with fail
              refine (hmd.out Y3 hY03.out).mono ?_
              rintro e Z ⟨rfl, hz⟩
              obtain rfl : Y3 = Z := hz.symm
              clear hz
              go_wp2_with fail
              refine (hmd.out Y3 hY03.out).mono ?_
              rintro e Z ⟨rfl, hz⟩
              obtain rfl : Y3 = Z := hz.symm
              clear hz
              have hfin : Hid (∃ (i' L' S' : Nat) (ns' : List Nd) (st' : List Int) (told' : List (Int × Int)) (ta' : Option Addr) (tc' : Nat), Value.int .i64 ((L : Int) - S + 1) = .int .i64 ((L' : Int) - S') ∧ Value.int .i64 ((L : Int) - S + 1) = .int .i64 L' ∧ Value.int .i64 ((i : Int) + 1) = .int .i64 i' ∧ i' ≤ n ∧ ns'.length = L' ∧ st'.length = S' ∧ HInv i' ns' st' ∧ (L' : Int) ≤ most ∧ told'.length ≤ i' ∧ HeapS lo Y3 hb 5 most ns' st' ∧ ToldAt lo Y3 pl hb lb told' ta' tc' ∧ Below lo w Y3) :=
                ⟨i + 1, (L + 1), S, _, _, _, _, _, by go_num, by go_num, by go_num, by omega, hLN.out, hSN.out, hIx.out, by omega, hTl.out, hHx.out.under hY03.out, hTx.out.cold (FT.of_below hY03.out hlx.out), hBx.out.trans (hY03.out.mono hlx.out)⟩
              clear hmd hpo hal hY1 hY02 hY03
              go_wp2_with fail
              exact ⟨hfin.out, by simp [intOf]; omega⟩
          · have hac : Hid (Calls Try.prog 11 #[.pointer (some ⟨hb, 0, none⟩), .pointer none, .int .i64 ev] X0 (AllocPost lo X0 hb 5 most 0 0 5 ns [])) := (alloc_rest hH0.out hl0.out (by have := hL.out; omega) ev).mono (fun e w9 h => by rw [hL.out] at h; rwa [if_neg hlt] at h)
            have hIx := hid_of hI.out.mono
            have hLN := hL
            have hSN := hS
            have hTl : Hid (told.length ≤ i + 1) := Nat.le_succ_of_le htl.out
            have hgt : ¬ (L : Int) < (L : Int) - S := by omega
            have hnm : ((L : Int) - S != most) = false := by simp; omega
            go_upto_region 14 with fail
            refine hac.out.mono ?_
            rintro e X1 ⟨rfl, hT1, hS1⟩
            obtain ⟨X2, hX2⟩ : ∃ X2, Hid (X1.alloc (.cells #[.int .i64 0, .int .i64 0] 35) = X2) := ⟨_, rfl⟩
            have hB12 : Below X1.heap.size X1 X2 := by rw [← hX2.out]; exact (Below.refl _ X1).alloc (Nat.le_refl _) _
            have hl1 : lo ≤ X1.heap.size := Nat.le_trans hl0.out hT1.size
            have hF02 : FT lo X0 X2 := hT1.trans (FT.of_below hB12 hl1)
            have zr : X2.heap[X1.heap.size]? = some (.cells #[.int .i64 0, .int .i64 0] 35 (0, 0)) := by rw [← hX2.out]; exact heap_alloc_new X1 _
            have r0 : X2.cell? ⟨X1.heap.size, 0, none⟩ = some (.int .i64 0) := cell_of zr rfl
            have hTx := hid_of (hT0.out.cold hF02)
            have hHx := hid_of (hS1.under hB12)
            have zo2 := hF02.cold _ _ zo.out rfl
            have s0 : X2.cell? ⟨wr.heap.size, 0, none⟩ = some (.int .i64 1) := cell_of zo2 rfl
            have hBx : Hid (Below lo w X2) := hBX.out.trans hF02.below
            have hlx : Hid (lo ≤ X2.heap.size) := Nat.le_trans hl1 hB12.size
            clear hac hT1 hS1 hB12 hl1 hF02 hT0 hH0 c0 c1 c2 c3 c4 hBX zo2 zr zo htl
            go_upto_region 14 with fail
            rw [hX2.out]
            clear hX2
            go_upto_region 15 with fail
            refine (hnum.out 5 X2).mono ?_
            rintro e Z ⟨rfl, hz⟩
            obtain rfl : X2 = Z := hz.symm
            clear hz
            go_upto_region 17 with fail
            go_quiet ((go_at_call 9; exact Calls.quiet_of_same (hnum.out 5 _)))
            obtain ⟨X8, hX8⟩ : ∃ X8, Hid (X2.drewN nq = X8) := ⟨_, rfl⟩
            rw [hX8.out]
            have hB8 : Hid (Below X2.heap.size X2 X8) := by unfold Hid; rw [← hX8.out]; exact below_drewN (Below.refl _ X2) nq
            have s2 : X8.cell? ⟨wr.heap.size, 0, none⟩ = some (.int .i64 1) := stay hB8.out s0
            clear hX8 s0
            go_upto_region 19 with fail
            go_quiet (fail)
            obtain ⟨X9, hX9⟩ : ∃ X9, Hid (X8.drewN nq = X9) := ⟨_, rfl⟩
            rw [hX9.out]
            have hB9 : Below X2.heap.size X2 X9 := by rw [← hX9.out]; exact below_drewN hB8.out nq
            replace hHx : Hid (HeapS lo X9 hb 5 most ns []) := hHx.out.under hB9
            replace hTx : Hid (ToldAt lo X9 pl hb lb told ta tc) := hTx.out.cold (FT.of_below hB9 hlx.out)
            replace hBx : Hid (Below lo w X9) := hBx.out.trans (hB9.mono hlx.out)
            replace hlx : Hid (lo ≤ X9.heap.size) := Nat.le_trans hlx.out hB9.size
            clear hX9 hB8 hB9 s2 hnm r0
            have hmd := hid_of (fun W (hW : Below X9.heap.size X9 W) => made_s (hHx.out.under hW) ((L : Int)) (by have e1 := hLN.out; have e2 := hSN.out; omega))
            have hpo := hid_of (fun W (hW : Below X9.heap.size X9 W) => pooled_s (hHx.out.under hW) ((S : Int)) (by have e1 := hLN.out; have e2 := hSN.out; omega))
            have hal := hid_of (fun W (hW : Below X9.heap.size X9 W) => alive_s (hHx.out.under hW) (by have e1 := hLN.out; omega) (by have e2 := hSN.out; omega) ((L : Int) - S) (by have e1 := hLN.out; have e2 := hSN.out; omega))
            have hsum : (((L : Int)) != ((S : Int)) + ((L : Int) - S)) = false := by simp; omega
            have hmost : ¬ most < ((L : Int)) := by omega
            go_wp2_with fail
            refine (hal.out X9 (Below.refl _ X9)).mono ?_
            rintro e Y1 ⟨rfl, hY1⟩
            replace hY1 := hid_of hY1
            go_wp2_with fail
            refine (hmd.out Y1 hY1.out).mono ?_
            rintro e Z ⟨rfl, hz⟩
            obtain rfl : Y1 = Z := hz.symm
            clear hz
            go_wp2_with fail
            refine (hpo.out Y1 hY1.out).mono ?_
            rintro e Y2 ⟨rfl, hY2⟩
            have hY02 : Hid (Below X9.heap.size X9 Y2) := hY1.out.trans (hY2.mono hY1.out.size)
            clear hY2
            go_wp2_with fail
            refine (hal.out Y2 hY02.out).mono ?_
            rintro e Y3 ⟨rfl, hY3⟩
            have hY03 : Hid (Below X9.heap.size X9 Y3) := hY02.out.trans (hY3.mono hY02.out.size)
            clear hY3
            go_wp2_with fail
            refine (hmd.out Y3 hY03.out).mono ?_
            rintro e Z ⟨rfl, hz⟩
            obtain rfl : Y3 = Z := hz.symm
            clear hz
            go_wp2_with fail
            refine (hmd.out Y3 hY03.out).mono ?_
            rintro e Z ⟨rfl, hz⟩
            obtain rfl : Y3 = Z := hz.symm
            clear hz
            have hfin : Hid (∃ (i' L' S' : Nat) (ns' : List Nd) (st' : List Int) (told' : List (Int × Int)) (ta' : Option Addr) (tc' : Nat), Value.int .i64 ((L : Int) - S) = .int .i64 ((L' : Int) - S') ∧ Value.int .i64 ((L : Int)) = .int .i64 L' ∧ Value.int .i64 ((i : Int) + 1) = .int .i64 i' ∧ i' ≤ n ∧ ns'.length = L' ∧ st'.length = S' ∧ HInv i' ns' st' ∧ (L' : Int) ≤ most ∧ told'.length ≤ i' ∧ HeapS lo Y3 hb 5 most ns' st' ∧ ToldAt lo Y3 pl hb lb told' ta' tc' ∧ Below lo w Y3) :=
              ⟨i + 1, L, S, _, _, _, _, _, by go_num, by go_num, by go_num, by omega, hLN.out, hSN.out, hIx.out, by omega, hTl.out, hHx.out.under hY03.out, hTx.out.cold (FT.of_below hY03.out hlx.out), hBx.out.trans (hY03.out.mono hlx.out)⟩
            clear hmd hpo hal hY1 hY02 hY03
            go_wp2_with fail
            exact ⟨hfin.out, by simp [intOf]; omega⟩
      · have hd1 : decide (ek = 1) = false := decide_eq_false k1
        by_cases k2 : ek = 2
        · subst k2
          cases hlv2 : isLive ns (named told ⟨2, ev, eh, em, eg⟩).1 (named told ⟨2, ev, eh, em, eg⟩).2 with
          | true =>
            obtain ⟨nx, ng, hnx⟩ : ∃ nx ng, Hid (named told ⟨2, ev, eh, em, eg⟩ = (nx, ng)) := ⟨_, _, rfl⟩
            rw [hnx.out] at hlv2
            simp only at hlv2
            have hnm := hid_of (fun W (hW : Below X0.heap.size X0 W) => named_any lo ta tc told ⟨2, ev, eh, em, eg⟩ W (hT0.out.cold (FT.of_below hW hl0.out)).row)
            rw [hnx.out] at hnm
            have y8 := hT0.out.cell
            obtain ⟨m, hm⟩ : ∃ m, Hid (told.length = m) := ⟨_, rfl⟩
            rw [hm.out] at y8 hnm
            simp only at hnm
            obtain ⟨k, v, hk1, hk2⟩ := isLive_some hlv2
            subst hk1
            have hgb := hI.out.gen _ (List.mem_of_getElem? hk2)
            simp only at hgb
            have hfr := hid_of (fun W (hW : Below X0.heap.size X0 W) => free_s (hH0.out.under hW) k ng v hk2 (Nat.le_trans hl0.out hW.size) (by omega) (by have := hS.out; omega))
            have hIx : Hid (HInv (i + 1) (ns.set k ⟨ng + 1, false, 0⟩) (((k : Int) + 1) :: st)) := hI.out.free hk2
            have hLN : Hid ((ns.set k (⟨ng + 1, false, 0⟩ : Nd)).length = L) := by unfold Hid; rw [List.length_set]; exact hL.out
            have hSN : Hid ((((k : Int) + 1) :: st).length = S + 1) := by unfold Hid; rw [List.length_cons, hS.out]
            have hTl : Hid (told.length ≤ i + 1) := Nat.le_succ_of_le htl.out
            have hgt : ¬ (L : Int) < (L : Int) - S - 1 := by omega
            clear hlv2 hgb hk2
            go_upto_region 19 with fail
            go_region_held3 (fun w' => w'.cell? ⟨wr.heap.size, 0, none⟩ = some (.int .i64 2) ∧ w'.cell? ⟨wr.heap.size, 1, none⟩ = some (.int .i64 ev) ∧ w'.cell? ⟨wr.heap.size, 2, none⟩ = some (.int .i64 eh) ∧ w'.cell? ⟨wr.heap.size, 3, none⟩ = some (.int .i64 em) ∧ w'.cell? ⟨wr.heap.size, 4, none⟩ = some (.int .i64 eg) ∧ w'.cell? ⟨pl, 8, none⟩ = some (.slice ta m tc)) (go_keep) (first
              | (go_at_call 10; refine (hnm.out X0.drew (below_drew (Below.refl _ X0))).mono ?_; rintro e Z1 ⟨rfl, hz1⟩; have t0 : Z1.cell? ⟨wr.heap.size, 0, none⟩ = some (.int .i64 2) := stay hz1 c0; have t1 : Z1.cell? ⟨wr.heap.size, 1, none⟩ = some (.int .i64 ev) := stay hz1 c1; have t2 : Z1.cell? ⟨wr.heap.size, 2, none⟩ = some (.int .i64 eh) := stay hz1 c2; have t3 : Z1.cell? ⟨wr.heap.size, 3, none⟩ = some (.int .i64 em) := stay hz1 c3; have t4 : Z1.cell? ⟨wr.heap.size, 4, none⟩ = some (.int .i64 eg) := stay hz1 c4; have t5 : Z1.cell? ⟨pl, 8, none⟩ = some (.slice ta m tc) := stay hz1 y8; have hzz : Hid (Below X0.heap.size X0 Z1) := (below_drew (Below.refl _ X0)).trans hz1; clear hz1)
              | (go_at_call 12; refine (hfr.out Z1 hzz.out).mono ?_; rintro e X9 ⟨rfl, hz2, hS9⟩; have s0 : X9.cell? ⟨wr.heap.size, 0, none⟩ = some (.int .i64 2) := cell_of (hz2.cold _ _ ((hzz.out.block _ (Array.getElem?_eq_some_iff.1 zo.out).1).trans zo.out) rfl) rfl; have s1 : X9.cell? ⟨wr.heap.size, 1, none⟩ = some (.int .i64 ev) := cell_of (hz2.cold _ _ ((hzz.out.block _ (Array.getElem?_eq_some_iff.1 zo.out).1).trans zo.out) rfl) rfl; have s2 : X9.cell? ⟨wr.heap.size, 2, none⟩ = some (.int .i64 eh) := cell_of (hz2.cold _ _ ((hzz.out.block _ (Array.getElem?_eq_some_iff.1 zo.out).1).trans zo.out) rfl) rfl; have s3 : X9.cell? ⟨wr.heap.size, 3, none⟩ = some (.int .i64 em) := cell_of (hz2.cold _ _ ((hzz.out.block _ (Array.getElem?_eq_some_iff.1 zo.out).1).trans zo.out) rfl) rfl; have s4 : X9.cell? ⟨wr.heap.size, 4, none⟩ = some (.int .i64 eg) := cell_of (hz2.cold _ _ ((hzz.out.block _ (Array.getElem?_eq_some_iff.1 zo.out).1).trans zo.out) rfl) rfl; have hT9 : Hid (ToldAt lo X9 pl hb lb told ta tc) := (hT0.out.cold (FT.of_below hzz.out hl0.out)).cold hz2; have s5 : X9.cell? ⟨pl, 8, none⟩ = some (.slice ta m tc) := (by have := hT9.out.cell; rw [hm.out] at this; exact this); have hF9 : Hid (FT lo X0 X9) := (FT.of_below hzz.out hl0.out).trans hz2; replace hS9 := hid_of hS9; clear hz2))
            have hHx := hS9
            have hTx := hT9
            have hBx : Hid (Below lo w X9) := hBX.out.trans hF9.out.below
            have hlx : Hid (lo ≤ X9.heap.size) := Nat.le_trans hl0.out hF9.out.size
            clear hH0 hT0 hBX hl0 hF9 t0 t1 t2 t3 t4 t5 s0 s1 s2 s3 s4 s5 c0 c1 c2 c3 c4 y8 hnm hfr hzz hS9 hT9
            have hmd := hid_of (fun W (hW : Below X9.heap.size X9 W) => made_s (hHx.out.under hW) ((L : Int)) (by have e1 := hLN.out; have e2 := hSN.out; omega))
            have hpo := hid_of (fun W (hW : Below X9.heap.size X9 W) => pooled_s (hHx.out.under hW) ((S : Int) + 1) (by have e1 := hLN.out; have e2 := hSN.out; omega))
            have hal := hid_of (fun W (hW : Below X9.heap.size X9 W) => alive_s (hHx.out.under hW) (by have e1 := hLN.out; omega) (by have e2 := hSN.out; omega) ((L : Int) - S - 1) (by have e1 := hLN.out; have e2 := hSN.out; omega))
            have hsum : (((L : Int)) != ((S : Int) + 1) + ((L : Int) - S - 1)) = false := by simp; omega
            have hmost : ¬ most < ((L : Int)) := by omega
            go_wp2_with fail
            refine (hal.out X9 (Below.refl _ X9)).mono ?_
            rintro e Y1 ⟨rfl, hY1⟩
            replace hY1 := hid_of hY1
            go_wp2_with fail
            refine (hmd.out Y1 hY1.out).mono ?_
            rintro e Z ⟨rfl, hz⟩
            obtain rfl : Y1 = Z := hz.symm
            clear hz
            go_wp2_with fail
            refine (hpo.out Y1 hY1.out).mono ?_
            rintro e Y2 ⟨rfl, hY2⟩
            have hY02 : Hid (Below X9.heap.size X9 Y2) := hY1.out.trans (hY2.mono hY1.out.size)
            clear hY2
            go_wp2_with fail
            refine (hal.out Y2 hY02.out).mono ?_
            rintro e Y3 ⟨rfl, hY3⟩
            have hY03 : Hid (Below X9.heap.size X9 Y3) := hY02.out.trans (hY3.mono hY02.out.size)
            clear hY3
            go_wp2_with fail
            refine (hmd.out Y3 hY03.out).mono ?_
            rintro e Z ⟨rfl, hz⟩
            obtain rfl : Y3 = Z := hz.symm
            clear hz
            go_wp2_with fail
            refine (hmd.out Y3 hY03.out).mono ?_
            rintro e Z ⟨rfl, hz⟩
            obtain rfl : Y3 = Z := hz.symm
            clear hz
            have hfin : Hid (∃ (i' L' S' : Nat) (ns' : List Nd) (st' : List Int) (told' : List (Int × Int)) (ta' : Option Addr) (tc' : Nat), Value.int .i64 ((L : Int) - S - 1) = .int .i64 ((L' : Int) - S') ∧ Value.int .i64 ((L : Int)) = .int .i64 L' ∧ Value.int .i64 ((i : Int) + 1) = .int .i64 i' ∧ i' ≤ n ∧ ns'.length = L' ∧ st'.length = S' ∧ HInv i' ns' st' ∧ (L' : Int) ≤ most ∧ told'.length ≤ i' ∧ HeapS lo Y3 hb 5 most ns' st' ∧ ToldAt lo Y3 pl hb lb told' ta' tc' ∧ Below lo w Y3) :=
              ⟨i + 1, L, S + 1, _, _, _, _, _, by go_num, by go_num, by go_num, by omega, hLN.out, hSN.out, hIx.out, by omega, hTl.out, hHx.out.under hY03.out, hTx.out.cold (FT.of_below hY03.out hlx.out), hBx.out.trans (hY03.out.mono hlx.out)⟩
            clear hmd hpo hal hY1 hY02 hY03
            go_wp2_with fail
            exact ⟨hfin.out, by simp [intOf]; omega⟩
          | false =>
            obtain ⟨nx, ng, hnx⟩ : ∃ nx ng, Hid (named told ⟨2, ev, eh, em, eg⟩ = (nx, ng)) := ⟨_, _, rfl⟩
            rw [hnx.out] at hlv2
            simp only at hlv2
            have hnm := hid_of (fun W (hW : Below X0.heap.size X0 W) => named_any lo ta tc told ⟨2, ev, eh, em, eg⟩ W (hT0.out.cold (FT.of_below hW hl0.out)).row)
            rw [hnx.out] at hnm
            have y8 := hT0.out.cell
            obtain ⟨m, hm⟩ : ∃ m, Hid (told.length = m) := ⟨_, rfl⟩
            rw [hm.out] at y8 hnm
            simp only at hnm
            have hfr := hid_of (fun W (hW : Below X0.heap.size X0 W) => free_no (hH0.out.under hW) nx ng hlv2)
            have hIx : Hid (HInv (i + 1) ns st) := hI.out.mono
            have hLN := hL
            have hSN := hS
            have hTl : Hid (told.length ≤ i + 1) := Nat.le_succ_of_le htl.out
            have hgt : ¬ (L : Int) < (L : Int) - S := by omega
            clear hlv2
            go_upto_region 19 with fail
            go_region_held3 (fun w' => w'.cell? ⟨wr.heap.size, 0, none⟩ = some (.int .i64 2) ∧ w'.cell? ⟨wr.heap.size, 1, none⟩ = some (.int .i64 ev) ∧ w'.cell? ⟨wr.heap.size, 2, none⟩ = some (.int .i64 eh) ∧ w'.cell? ⟨wr.heap.size, 3, none⟩ = some (.int .i64 em) ∧ w'.cell? ⟨wr.heap.size, 4, none⟩ = some (.int .i64 eg) ∧ w'.cell? ⟨pl, 8, none⟩ = some (.slice ta m tc)) (go_keep) (first
              | (go_at_call 10; refine (hnm.out X0.drew (below_drew (Below.refl _ X0))).mono ?_; rintro e Z1 ⟨rfl, hz1⟩; have t0 : Z1.cell? ⟨wr.heap.size, 0, none⟩ = some (.int .i64 2) := stay hz1 c0; have t1 : Z1.cell? ⟨wr.heap.size, 1, none⟩ = some (.int .i64 ev) := stay hz1 c1; have t2 : Z1.cell? ⟨wr.heap.size, 2, none⟩ = some (.int .i64 eh) := stay hz1 c2; have t3 : Z1.cell? ⟨wr.heap.size, 3, none⟩ = some (.int .i64 em) := stay hz1 c3; have t4 : Z1.cell? ⟨wr.heap.size, 4, none⟩ = some (.int .i64 eg) := stay hz1 c4; have t5 : Z1.cell? ⟨pl, 8, none⟩ = some (.slice ta m tc) := stay hz1 y8; have hzz : Hid (Below X0.heap.size X0 Z1) := (below_drew (Below.refl _ X0)).trans hz1; clear hz1)
              | (go_at_call 12; refine (hfr.out Z1 hzz.out).mono ?_; rintro e X9 ⟨rfl, hz2⟩; have s0 : X9.cell? ⟨wr.heap.size, 0, none⟩ = some (.int .i64 2) := stay hz2 t0; have s1 : X9.cell? ⟨wr.heap.size, 1, none⟩ = some (.int .i64 ev) := stay hz2 t1; have s2 : X9.cell? ⟨wr.heap.size, 2, none⟩ = some (.int .i64 eh) := stay hz2 t2; have s3 : X9.cell? ⟨wr.heap.size, 3, none⟩ = some (.int .i64 em) := stay hz2 t3; have s4 : X9.cell? ⟨wr.heap.size, 4, none⟩ = some (.int .i64 eg) := stay hz2 t4; have s5 : X9.cell? ⟨pl, 8, none⟩ = some (.slice ta m tc) := stay hz2 t5; have hB9 : Hid (Below X0.heap.size X0 X9) := hzz.out.trans (hz2.mono hzz.out.size); clear hz2))
            have hHx : Hid (HeapS lo X9 hb 5 most ns st) := hH0.out.under hB9.out
            have hTx : Hid (ToldAt lo X9 pl hb lb told ta tc) := hT0.out.cold (FT.of_below hB9.out hl0.out)
            have hBx : Hid (Below lo w X9) := hBX.out.trans (hB9.out.mono hl0.out)
            have hlx : Hid (lo ≤ X9.heap.size) := Nat.le_trans hl0.out hB9.out.size
            clear hH0 hT0 hBX hl0 hB9 t0 t1 t2 t3 t4 t5 s0 s1 s2 s3 s4 s5 c0 c1 c2 c3 c4 y8 hnm hfr hzz
            have hmd := hid_of (fun W (hW : Below X9.heap.size X9 W) => made_s (hHx.out.under hW) ((L : Int)) (by have e1 := hLN.out; have e2 := hSN.out; omega))
            have hpo := hid_of (fun W (hW : Below X9.heap.size X9 W) => pooled_s (hHx.out.under hW) ((S : Int)) (by have e1 := hLN.out; have e2 := hSN.out; omega))
            have hal := hid_of (fun W (hW : Below X9.heap.size X9 W) => alive_s (hHx.out.under hW) (by have e1 := hLN.out; omega) (by have e2 := hSN.out; omega) ((L : Int) - S) (by have e1 := hLN.out; have e2 := hSN.out; omega))
            have hsum : (((L : Int)) != ((S : Int)) + ((L : Int) - S)) = false := by simp; omega
            have hmost : ¬ most < ((L : Int)) := by omega
            go_wp2_with fail
            refine (hal.out X9 (Below.refl _ X9)).mono ?_
            rintro e Y1 ⟨rfl, hY1⟩
            replace hY1 := hid_of hY1
            go_wp2_with fail
            refine (hmd.out Y1 hY1.out).mono ?_
            rintro e Z ⟨rfl, hz⟩
            obtain rfl : Y1 = Z := hz.symm
            clear hz
            go_wp2_with fail
            refine (hpo.out Y1 hY1.out).mono ?_
            rintro e Y2 ⟨rfl, hY2⟩
            have hY02 : Hid (Below X9.heap.size X9 Y2) := hY1.out.trans (hY2.mono hY1.out.size)
            clear hY2
            go_wp2_with fail
            refine (hal.out Y2 hY02.out).mono ?_
            rintro e Y3 ⟨rfl, hY3⟩
            have hY03 : Hid (Below X9.heap.size X9 Y3) := hY02.out.trans (hY3.mono hY02.out.size)
            clear hY3
            go_wp2_with fail
            refine (hmd.out Y3 hY03.out).mono ?_
            rintro e Z ⟨rfl, hz⟩
            obtain rfl : Y3 = Z := hz.symm
            clear hz
            go_wp2_with fail
            refine (hmd.out Y3 hY03.out).mono ?_
            rintro e Z ⟨rfl, hz⟩
            obtain rfl : Y3 = Z := hz.symm
            clear hz
            have hfin : Hid (∃ (i' L' S' : Nat) (ns' : List Nd) (st' : List Int) (told' : List (Int × Int)) (ta' : Option Addr) (tc' : Nat), Value.int .i64 ((L : Int) - S) = .int .i64 ((L' : Int) - S') ∧ Value.int .i64 ((L : Int)) = .int .i64 L' ∧ Value.int .i64 ((i : Int) + 1) = .int .i64 i' ∧ i' ≤ n ∧ ns'.length = L' ∧ st'.length = S' ∧ HInv i' ns' st' ∧ (L' : Int) ≤ most ∧ told'.length ≤ i' ∧ HeapS lo Y3 hb 5 most ns' st' ∧ ToldAt lo Y3 pl hb lb told' ta' tc' ∧ Below lo w Y3) :=
              ⟨i + 1, L, S, _, _, _, _, _, by go_num, by go_num, by go_num, by omega, hLN.out, hSN.out, hIx.out, by omega, hTl.out, hHx.out.under hY03.out, hTx.out.cold (FT.of_below hY03.out hlx.out), hBx.out.trans (hY03.out.mono hlx.out)⟩
            clear hmd hpo hal hY1 hY02 hY03
            go_wp2_with fail
            exact ⟨hfin.out, by simp [intOf]; omega⟩
        · have hd2 : decide (ek = 2) = false := decide_eq_false k2
          have hIx : Hid (HInv (i + 1) ns st) := hI.out.mono
          have hLN := hL
          have hSN := hS
          have hTl : Hid (told.length ≤ i + 1) := Nat.le_succ_of_le htl.out
          have hgt : ¬ (L : Int) < (L : Int) - S := by omega
          go_upto_region 19 with fail
          go_quiet (fail)
          obtain ⟨X9, hX9⟩ : ∃ X9, X0.drewN nq = X9 := ⟨_, rfl⟩
          rw [hX9]
          have hB9 : Below X0.heap.size X0 X9 := by rw [← hX9]; exact below_drewN (Below.refl _ X0) nq
          have hHx : Hid (HeapS lo X9 hb 5 most ns st) := hH0.out.under hB9
          have hTx : Hid (ToldAt lo X9 pl hb lb told ta tc) := hT0.out.cold (FT.of_below hB9 hl0.out)
          have hBx : Hid (Below lo w X9) := hBX.out.trans (hB9.mono hl0.out)
          have hlx : Hid (lo ≤ X9.heap.size) := Nat.le_trans hl0.out hB9.size
          clear hH0 hT0 hBX hl0 hX9 hB9
          have hmd := hid_of (fun W (hW : Below X9.heap.size X9 W) => made_s (hHx.out.under hW) ((L : Int)) (by have e1 := hLN.out; have e2 := hSN.out; omega))
          have hpo := hid_of (fun W (hW : Below X9.heap.size X9 W) => pooled_s (hHx.out.under hW) ((S : Int)) (by have e1 := hLN.out; have e2 := hSN.out; omega))
          have hal := hid_of (fun W (hW : Below X9.heap.size X9 W) => alive_s (hHx.out.under hW) (by have e1 := hLN.out; omega) (by have e2 := hSN.out; omega) ((L : Int) - S) (by have e1 := hLN.out; have e2 := hSN.out; omega))
          have hsum : (((L : Int)) != ((S : Int)) + ((L : Int) - S)) = false := by simp; omega
          have hmost : ¬ most < ((L : Int)) := by omega
          go_wp2_with fail
          refine (hal.out X9 (Below.refl _ X9)).mono ?_
          rintro e Y1 ⟨rfl, hY1⟩
          replace hY1 := hid_of hY1
          go_wp2_with fail
          refine (hmd.out Y1 hY1.out).mono ?_
          rintro e Z ⟨rfl, hz⟩
          obtain rfl : Y1 = Z := hz.symm
          clear hz
          go_wp2_with fail
          refine (hpo.out Y1 hY1.out).mono ?_
          rintro e Y2 ⟨rfl, hY2⟩
          have hY02 : Hid (Below X9.heap.size X9 Y2) := hY1.out.trans (hY2.mono hY1.out.size)
          clear hY2
          go_wp2_with fail
          refine (hal.out Y2 hY02.out).mono ?_
          rintro e Y3 ⟨rfl, hY3⟩
          have hY03 : Hid (Below X9.heap.size X9 Y3) := hY02.out.trans (hY3.mono hY02.out.size)
          clear hY3
          go_wp2_with fail
          refine (hmd.out Y3 hY03.out).mono ?_
          rintro e Z ⟨rfl, hz⟩
          obtain rfl : Y3 = Z := hz.symm
          clear hz
          go_wp2_with fail
          refine (hmd.out Y3 hY03.out).mono ?_
          rintro e Z ⟨rfl, hz⟩
          obtain rfl : Y3 = Z := hz.symm
          clear hz
          have hfin : Hid (∃ (i' L' S' : Nat) (ns' : List Nd) (st' : List Int) (told' : List (Int × Int)) (ta' : Option Addr) (tc' : Nat), Value.int .i64 ((L : Int) - S) = .int .i64 ((L' : Int) - S') ∧ Value.int .i64 ((L : Int)) = .int .i64 L' ∧ Value.int .i64 ((i : Int) + 1) = .int .i64 i' ∧ i' ≤ n ∧ ns'.length = L' ∧ st'.length = S' ∧ HInv i' ns' st' ∧ (L' : Int) ≤ most ∧ told'.length ≤ i' ∧ HeapS lo Y3 hb 5 most ns' st' ∧ ToldAt lo Y3 pl hb lb told' ta' tc' ∧ Below lo w Y3) :=
            ⟨i + 1, L, S, _, _, _, _, _, by go_num, by go_num, by go_num, by omega, hLN.out, hSN.out, hIx.out, by omega, hTl.out, hHx.out.under hY03.out, hTx.out.cold (FT.of_below hY03.out hlx.out), hBx.out.trans (hY03.out.mono hlx.out)⟩
          clear hmd hpo hal hY1 hY02 hY03
          go_wp2_with fail
          exact ⟨hfin.out, by simp [intOf]; omega⟩
    · obtain rfl : i = n := by omega
      have hl := hid_of (live_any wr)
      replace hB := hid_of hB
      clear hH hT hI
      go_wp2_with fail
      refine hl.out.mono ?_
      rintro e Z ⟨rfl, hZ⟩
      go_wp2_with fail
      exact bodyPost_ret (v := .bool true) (by simp [results, Try.results5, go_sem]) rfl ⟨rfl, hB.out.trans (hZ.mono hlw)⟩
end Go.Proofs.Ytpmlfgdhandpeaa
