import Derived.Test.YtaipgdnbaifhdaaHT
import Derived.Deep.DeepBigQuietO
import Derived.Deep.CutRange
/-! HeapOnce. -/
namespace Go.Proofs.Ytaipgdnbaifhdaa
open Go Go.RowKit
set_option maxRecDepth 100000 in
set_option maxHeartbeats 16000000 in
theorem once_true (a : Option Addr) (cap : Nat) (ops : List Hop) (most : Int) (w : World) (hO : OpsAt w a ops) (hcap : ops.length ≤ cap) :
    Calls Try.prog 3 #[.int .i64 most, .slice a ops.length cap] w fun e w' => e = .returned (.bool true) ∧ Below w.heap.size w w' := by
  obtain ⟨n, hn⟩ : ∃ n, Hid (ops.length = n) := ⟨_, rfl⟩
  obtain ⟨lo, hlo⟩ : ∃ lo, Hid (w.heap.size = lo) := ⟨_, rfl⟩
  rw [hn.out] at hcap ⊢
  replace hO := hid_of hO
  have hlv := hid_of live_any
  go_enter Try.func3, Try.ntmps3
  by_cases q1 : 300 < n
  · go_wp2_with fail
    refine (hlv.out w).mono ?_
    rintro e Z ⟨rfl, hZ⟩
    go_wp2_with fail
    exact bodyPost_ret (v := .bool true) (by simp [results, Try.results3, go_sem]) rfl ⟨rfl, hZ⟩
  by_cases q2 : most < 1
  · go_wp2_with fail
    refine (hlv.out w).mono ?_
    rintro e Z ⟨rfl, hZ⟩
    go_wp2_with fail
    exact bodyPost_ret (v := .bool true) (by simp [results, Try.results3, go_sem]) rfl ⟨rfl, hZ⟩
  by_cases q3 : 1048576 < most
  · go_wp2_with fail
    refine (hlv.out w).mono ?_
    rintro e Z ⟨rfl, hZ⟩
    go_wp2_with fail
    exact bodyPost_ret (v := .bool true) (by simp [results, Try.results3, go_sem]) rfl ⟨rfl, hZ⟩
  have hn2 : n ≤ 300 := by omega
  have hm1 : 1 ≤ most := by omega
  have hm2 : most ≤ 1048576 := by omega
  have hnum := hid_of num_any
  have hsc := hid_of (scripted_any w)
  obtain ⟨W1, hW1⟩ : ∃ W1, Hid (w.alloc (.cells #[.bool false] 76) = W1) := ⟨_, rfl⟩
  have z1 : W1.heap[w.heap.size]? = some (.cells #[.bool false] 76 (0, 0)) := by rw [← hW1.out]; exact heap_alloc_new w _
  have hB1 : Below w.heap.size w W1 := by rw [← hW1.out]; exact (Below.refl _ w).alloc (Nat.le_refl _) _
  rw [hW1.out] at hsc
  have hnew := hid_of (new_any w.heap.size w.heap.size 5 most W1 hB1.size z1 hm1 hm2)
  rw [hlo.out] at hnew hB1 hsc ⊢
  replace hB1 := hid_of hB1
  clear z1 hW1 q1 q2 q3
  go_wp2_with fail
  refine hsc.out.mono ?_
  rintro e Z ⟨rfl, hz⟩
  obtain rfl : W1 = Z := hz.symm
  clear hsc hz
  go_wp2_with fail
  refine hnew.out.mono ?_
  rintro e W2 ⟨hb, rfl, hB2, hS2⟩
  have hl2 : lo ≤ W2.heap.size := by have := hB1.out.size; have := hB2.size; have := hlo.out; omega
  have hB02 : Hid (Below lo w W2) := hB1.out.trans (hB2.mono (by have := hB1.out.size; have := hlo.out; omega))
  replace hS2 := hid_of hS2
  clear hnew hB1 hB2
  go_upto_region 6 with fail
  refine (hnum.out 0 W2).mono ?_
  rintro e Z ⟨rfl, hz⟩
  obtain rfl : W2 = Z := hz.symm
  clear hz
  go_wp2_with fail
  go_loopw [7, 8, 9, 10] (fun sa sv sg iv wr => ∃ (i : Nat) (ns : List Nd) (st : List Int) (tv : List Tk), iv = .int .i64 i ∧ i ≤ n ∧ HInv (2 * i) ns st ∧ OInv ns st tv ∧ tv.length ≤ i ∧ HeapS lo wr hb 5 most ns st ∧ Tbl lo wr tv sa sv sg ∧ Below lo w wr) (fun _ _ _ iv _ => n - (intOf iv).toNat)
  case atStart => exact ⟨0, [], [], [], rfl, Nat.zero_le _, HInv.zero, OInv.zero, Nat.le_refl _, hS2.out, Tbl.zero lo W2, hB02.out⟩
  case round =>
    clear hS2 hB02 hl2
    obtain ⟨wo, hwo⟩ : ∃ wo : World, wo = wr := ⟨_, rfl⟩
    subst hwo
    obtain ⟨i, ns, st, tv, rfl, hin, hI, hJ, htl, hH, hT, hB⟩ := hrel
    have hlw : lo ≤ wo.heap.size := by have := hB.size; have := hlo.out; omega
    by_cases hi : i < n
    · obtain ⟨e, he⟩ : ∃ e, Hid (ops[i]? = some e) := ⟨ops[i]'(by have := hn.out; omega), List.getElem?_eq_getElem (by have := hn.out; omega)⟩
      obtain ⟨b, o, hba, x0, x1, x2, x3, x4⟩ := (hO.out.keep (hlo.out ▸ hB)) i e he.out
      subst hba
      obtain ⟨ek, ev, eh, em, eg⟩ := e
      simp only at x0 x1 x2 x3 x4
      obtain ⟨aa, ca, ha, -, -, -⟩ := ownsRow_form hT.told
      subst ha
      obtain ⟨X0, hX0⟩ : ∃ X0, Hid (wo.alloc (.cells #[.int .i64 ek, .int .i64 ev, .int .i64 eh, .int .i64 em, .int .i64 eg] 37) = X0) := ⟨_, rfl⟩
      have hB0 : Below wo.heap.size wo X0 := by rw [← hX0.out]; exact (Below.refl _ wo).alloc (Nat.le_refl _) _
      have zo : X0.heap[wo.heap.size]? = some (.cells (hopCs ⟨ek, ev, eh, em, eg⟩) 37 (0, 0)) := by rw [← hX0.out]; exact heap_alloc_new wo _
      obtain ⟨c0, c1, c2, c3, c4⟩ := hop_cells zo
      simp only at c0 c1 c2 c3 c4
      have hF0 : FT lo wo X0 := FT.of_below hB0 hlw
      have hnm := named_any lo aa ca (tv.map (·.u)) ⟨ek, ev, eh, em, eg⟩ X0 (by rw [List.length_map]; exact (hT.cold hF0).told)
      obtain ⟨rx, rg, hrn⟩ : ∃ rx rg, Hid (named (tv.map (·.u)) ⟨ek, ev, eh, em, eg⟩ = (rx, rg)) := ⟨_, _, rfl⟩
      rw [hrn.out, List.length_map] at hnm
      simp only at hnm
      replace hnm := hid_of hnm
      have hl0 : lo ≤ X0.heap.size := Nat.le_trans hlw hB0.size
      have hS0 := hid_of (St3.mk (hT.cold hF0).told (hT.cold hF0).vals (hT.cold hF0).gone (hH.under hB0) zo (hB.trans hF0.below) hl0)
      obtain ⟨m, hm⟩ : ∃ m, Hid (tv.length = m) := ⟨_, rfl⟩
      rw [hm.out] at hnm
      rw [hm.out]
      replace hI := hid_of hI
      replace hJ := hid_of hJ
      replace htl := hid_of htl
      clear hT hH hB hB0 hF0 zo hrn hl0
      go_upto_region 13 with (rw [hX0.out])
      clear hX0 x0 x1 x2 x3 x4
      go_upto_region 14 with fail
      refine hnm.out.mono ?_
      rintro e X1 ⟨rfl, hz1⟩
      obtain ⟨X2, hX2⟩ : ∃ X2, Hid (X1.alloc (.cells #[.int .i64 rx, .int .i64 rg] 35) = X2) := ⟨_, rfl⟩
      have hB12 : Below X1.heap.size X1 X2 := by rw [← hX2.out]; exact (Below.refl _ X1).alloc (Nat.le_refl _) _
      have hB02 : Below X0.heap.size X0 X2 := hz1.trans (hB12.mono hz1.size)
      have zr : X2.heap[X1.heap.size]? = some (.cells #[.int .i64 rx, .int .i64 rg] 35 (0, 0)) := by rw [← hX2.out]; exact heap_alloc_new X1 _
      have hA0 : Hid (AftA lo w hb most (2 * i) i wo.heap.size X1.heap.size ⟨ek, ev, eh, em, eg⟩ rx rg (.slice aa m ca) u8 u9 X2 ns st tv) := by
        have h := hS0.out.below hB02
        refine ⟨htl.out, hI.out, hJ.out, ?_, fun _ => zr⟩
        rw [← hm.out]
        exact h
      go_upto_region 14 with (rw [hX2.out])
      clear hX2 hS0 hI hJ htl hnm zr hB12 hB02 hz1 c0 c1 c2 c3 c4 hm
      obtain ⟨c0, c1, -, -, -⟩ := hop_cells hA0.out.st3.op
      simp only at c0 c1
      go_upto_if 61 with fail
      go_cut [7, 8, 9] from 46 to 167 (fun sa sv sg wx => ∃ (ns : List Nd) (st : List Int) (tv : List Tk), Hid (AftA lo w hb most (2 * i + 1) (i + 1) wo.heap.size X1.heap.size ⟨ek, ev, eh, em, eg⟩ rx rg sa sv sg wx ns st tv))
      case first =>
        by_cases k1 : ek = 1
        · subst k1
          have hac := hid_of (alloc_once hA0.out.st3.heap hA0.out.st3.lo hA0.out.inv (by omega) hA0.out.once ev)
          go_upto_region 16 with fail
          refine hac.out.mono ?_
          rintro e X3 ⟨num, gen, er, ns3, st3, hAO⟩
          obtain ⟨rfl, hT3, hS3⟩ := hAO.post
          clear hac
          obtain ⟨X4, hX4⟩ : ∃ X4, Hid (X3.alloc (.cells #[.int .i64 num, .int .i64 gen] 35) = X4) := ⟨_, rfl⟩
          have hB34 : Below X3.heap.size X3 X4 := by rw [← hX4.out]; exact (Below.refl _ X3).alloc (Nat.le_refl _) _
          have zr4 : X4.heap[X3.heap.size]? = some (.cells #[.int .i64 num, .int .i64 gen] 35 (0, 0)) := by rw [← hX4.out]; exact heap_alloc_new X3 _
          have r0 : X4.cell? ⟨X3.heap.size, 0, none⟩ = some (.int .i64 num) := cell_of zr4 rfl
          have r1 : X4.cell? ⟨X3.heap.size, 1, none⟩ = some (.int .i64 gen) := cell_of zr4 rfl
          have h3 := hA0.out.st3
          have hS4 : Hid (St3 lo w hb most ns3 st3 wo.heap.size ⟨1, ev, eh, em, eg⟩ tv.length tv.length tv.length (flatT (tv.map (·.u))) (tv.map fun t => .int .i64 t.v) (tv.map fun t => .bool t.g) (.slice aa m ca) u8 u9 X4) :=
            (St3.mk (ownsRow_keep h3.r1 (fun _ _ e => (hT3.cold _ _ e rfl).trans e.symm)) (ownsRow_keep h3.r2 (fun _ _ e => (hT3.cold _ _ e rfl).trans e.symm)) (ownsRow_keep h3.r3 (fun _ _ e => (hT3.cold _ _ e rfl).trans e.symm)) hS3 (hT3.cold _ _ h3.op rfl) (h3.bel.trans hT3.below) (Nat.le_trans h3.lo hT3.size)).below hB34
          have hne7 : Hid ((Value.slice aa m ca).ownBlock ≠ some X3.heap.size) := fun e => by
            obtain ⟨-, cs, h⟩ := row_own h3.r1 _ e
            have := (Array.getElem?_eq_some_iff.1 h).1
            have := hT3.size
            omega
          replace zr4 := hid_of zr4
          have o1 : X4.cell? ⟨wo.heap.size, 1, none⟩ = some (.int .i64 ev) := (hop_cells hS4.out.op).2.1
          obtain ⟨aa', ca', e7, -, -, -⟩ := ownsRow_form hS4.out.r1
          have hlen : tv.length = m := by cases e7; rfl
          obtain ⟨av, cv, e8, -, -, -⟩ := ownsRow_form hS4.out.r2
          obtain ⟨ag, cg, e9, -, -, -⟩ := ownsRow_form hS4.out.r3
          subst e8 e9
          have hml : m ≤ i := by have := hA0.out.len; omega
          have hIx := hid_of hAO.inv
          have hW := hid_of hAO.what
          clear hAO hT3 hS3 hB34 h3 e7 hA0 c0 c1
          rw [hlen] at hS4 ⊢
          replace hlen := hid_of hlen
          go_upto_region 16 with (rw [hX4.out])
          clear hX4
          rcases hW.out with ⟨rfl, hfr, hJx⟩ | ⟨rfl, hJx⟩
          · replace hfr := hid_of hfr
            replace hJx := hid_of hJx
            clear hW
            go_wp2_with fail
            go_loopw [15] (fun kv wr => ∃ k : Nat, kv = .int .i64 k ∧ k ≤ m ∧ Below X4.heap.size X4 wr) (fun kv _ => m - (intOf kv).toNat)
            case atStart => exact ⟨0, rfl, Nat.zero_le _, Below.refl _ _⟩
            case round =>
              obtain ⟨k, rfl, hk, hBk⟩ := hrel
              by_cases hkm : k < m
              · obtain ⟨t, ht⟩ : ∃ t, Hid (tv[k]? = some t) := ⟨tv[k]'(by have := hlen.out; omega), List.getElem?_eq_getElem (by have := hlen.out; omega)⟩
                obtain ⟨ga, hga, u0, u1⟩ : ∃ ga, aa = some ⟨ga, 0, none⟩ ∧ wr.cell? ⟨ga, k * 2, none⟩ = some (.int .i64 t.u.1) ∧ wr.cell? ⟨ga, k * 2 + 1, none⟩ = some (.int .i64 t.u.2) := by
                  have hrow := (hS4.out.below hBk).r1
                  obtain ⟨_, _, hf, _, _, hg⟩ := ownsRow_form hrow
                  cases hf
                  obtain ⟨ga, rfl⟩ := hg (by omega)
                  obtain ⟨f1, f2⟩ := flatT_at (tv.map (·.u)) k t.u (by rw [List.getElem?_map, ht.out]; rfl)
                  exact ⟨ga, rfl, ownsRow_cell hrow f1, ownsRow_cell hrow f2⟩
                subst hga
                have q0 := stay hBk r0
                have q1 := stay hBk r1
                have hne : (decide (t.u.1 = num) && decide (t.u.2 = gen)) = false := by
                  have := hfr.out t (List.mem_of_getElem? ht.out)
                  cases h : (decide (t.u.1 = num) && decide (t.u.2 = gen)) with
                  | false => rfl
                  | true => simp at h; exact absurd h this
                have heq := eq_ref t.u.1 t.u.2 num gen
                rw [hne] at heq
                clear hne
                replace hBk := hid_of hBk
                go_upto_region 19 with fail
                go_quiet ((go_at_call 9; exact Calls.quiet_of_same (hnum.out 0 _)))
                have hfin : Hid (∃ k' : Nat, Value.int .i64 ((k : Int) + 1) = .int .i64 k' ∧ k' ≤ m ∧ Below X4.heap.size X4 (wr.drewN nq)) := ⟨k + 1, by go_num, by omega, below_drewN hBk.out nq⟩
                go_wp2_with fail
                exact ⟨hfin.out, by simp [intOf]; omega⟩
              · obtain rfl : k = m := by omega
                obtain ⟨X5, hX5⟩ : ∃ X5 : World, X5 = wr := ⟨_, rfl⟩
                subst hX5
                have hS5 := hid_of (hS4.out.below hBk)
                replace r0 := stay hBk r0
                replace r1 := stay hBk r1
                replace o1 := stay hBk o1
                have hz5 := hid_of ((hBk.block _ (Array.getElem?_eq_some_iff.1 zr4.out).1).trans zr4.out)
                clear hBk hS4
                go_upto_region 22 with fail
                refine (hnum.out 0 X5).mono ?_
                rintro e Z ⟨rfl, hz⟩
                obtain rfl : X5 = Z := hz.symm
                clear hz
                go_upto_region 22 with fail
                obtain ⟨ri, hri, hri1, hri2, hri3⟩ := ref_info
                obtain ⟨ii, hii, hii1, hii2, hii3⟩ := int64_info
                obtain ⟨bi, hbi, hbi1, hbi2, hbi3⟩ := bool_info
                have hone : Hid (∀ v ∈ [Value.int .i64 num, .int .i64 gen], v.oneCell' = true) := fun v hv => flatT_one [(num, gen)] v (by simpa [flatT] using hv)
                have hone2 : Hid (∀ v ∈ [Value.int .i64 ev], v.oneCell' = true) := fun v hv => by simp only [List.mem_cons, List.not_mem_nil, or_false] at hv; rw [hv]; rfl
                have hone3 : Hid (∀ v ∈ [Value.bool false], v.oneCell' = true) := fun v hv => by simp only [List.mem_cons, List.not_mem_nil, or_false] at hv; rw [hv]; rfl
                have hm300 : k ≤ 300 := by omega
                replace hml := hid_of hml
                clear hkm hk hin hi
                go_region_held3 (fun w' => w'.cell? ⟨X3.heap.size, 0, none⟩ = some (.int .i64 num) ∧ w'.cell? ⟨X3.heap.size, 1, none⟩ = some (.int .i64 gen) ∧ w'.cell? ⟨wo.heap.size, 1, none⟩ = some (.int .i64 ev)) (refine ⟨?_, ?_, ?_⟩ <;> repeat (first | exact r0 | exact r1 | exact o1 | refine cell_alloc _ ?_ | refine cell_drew ?_)) (first | (refine step_append_lies _ (by rfl) _ _ 31 (by rfl) lo 35 ri _ 2 16 refs_u hri hri1 hri2 hri3 (by rfl) (by decide) _ k _ (by rfl) (hS5.out.below (by repeat (first | exact below_drew (Below.refl _ _) | exact Below.refl _ _ | refine below_drew ?_ | refine Below.al ?_ _))).r1 _ 1 1 [.int .i64 num, .int .i64 gen] (by rfl) (by rfl) (World.news_of_block (cs := #[.int .i64 num, .int .i64 gen]) (t := 35) (fr := (0, 0)) (by repeat (first | exact heap_alloc_new _ _ | exact nb_new _ (by simp only [World.size_alloc]) | refine hk2 _ _ _ ?_ (by decide) | refine hk1 _ _ _ ?_ (by decide) | refine nb_alloc _ ?_))) hone.out (by decide) (by unfold maxLen; omega) (by omega) (hS5.out.below (by repeat (first | exact below_drew (Below.refl _ _) | exact Below.refl _ _ | refine below_drew ?_ | refine Below.al ?_ _))).lo _ rfl ?_; intro g1 c1 w1 hown1 hgrow1 hat1 hlt1; obtain ⟨hS6, hk1⟩ := (hS5.out.below (by repeat (first | exact below_drew (Below.refl _ _) | exact Below.refl _ _ | refine below_drew ?_ | refine Below.al ?_ _))).app1 hown1 hgrow1; replace hS6 := hid_of hS6; have hz1 := hid_of (far_block (by repeat (first | exact below_drew (Below.refl _ _) | exact Below.refl _ _ | refine below_drew ?_ | refine Below.al ?_ _)) hgrow1 hne7.out hz5.out); have r0 : w1.cell? ⟨X3.heap.size, 0, none⟩ = some (.int .i64 num) := cell_of hz1.out rfl; have r1 : w1.cell? ⟨X3.heap.size, 1, none⟩ = some (.int .i64 gen) := cell_of hz1.out rfl; have o1 : w1.cell? ⟨wo.heap.size, 1, none⟩ = some (.int .i64 ev) := (hop_cells hS6.out.op).2.1; clear hS5 hown1 hgrow1 hat1 hlt1) | (refine step_append_lies _ (by rfl) _ _ 32 (by rfl) lo 2 ii _ 1 8 ints_u hii hii1 hii2 hii3 (by rfl) (by decide) _ k _ (by rfl) (hS6.out.below (by repeat (first | exact below_drew (Below.refl _ _) | exact Below.refl _ _ | refine below_drew ?_ | refine Below.al ?_ _))).r2 _ 1 1 [.int .i64 ev] (by rfl) (by rfl) (World.news_of_block (cs := #[.int .i64 ev]) (t := 2) (fr := (0, 0)) (by repeat (first | exact heap_alloc_new _ _ | exact nb_new _ (by simp only [World.size_alloc]) | refine hk2 _ _ _ ?_ (by decide) | refine hk1 _ _ _ ?_ (by decide) | refine nb_alloc _ ?_))) hone2.out (by decide) (by unfold maxLen; omega) (by omega) (hS6.out.below (by repeat (first | exact below_drew (Below.refl _ _) | exact Below.refl _ _ | refine below_drew ?_ | refine Below.al ?_ _))).lo _ rfl ?_; intro g2 c2 w2 hown2 hgrow2 hat2 hlt2; obtain ⟨hS7, hk2⟩ := (hS6.out.below (by repeat (first | exact below_drew (Below.refl _ _) | exact Below.refl _ _ | refine below_drew ?_ | refine Below.al ?_ _))).app2 hown2 hgrow2; replace hS7 := hid_of hS7; have hz2 := hid_of (hk2 X3.heap.size #[.int .i64 num, .int .i64 gen] 35 (by repeat (first | exact hz1.out | refine nb_alloc _ ?_)) (by decide)); have r0 : w2.cell? ⟨X3.heap.size, 0, none⟩ = some (.int .i64 num) := cell_of hz2.out rfl; have r1 : w2.cell? ⟨X3.heap.size, 1, none⟩ = some (.int .i64 gen) := cell_of hz2.out rfl; have o1 : w2.cell? ⟨wo.heap.size, 1, none⟩ = some (.int .i64 ev) := (hop_cells hS7.out.op).2.1; clear hS6 hown2 hgrow2 hat2 hlt2) | (refine step_append_lies _ (by rfl) _ _ 33 (by rfl) lo 4 bi _ 1 1 bools_u hbi hbi1 hbi2 hbi3 (by rfl) (by decide) _ k _ (by rfl) (hS7.out.below (by repeat (first | exact below_drew (Below.refl _ _) | exact Below.refl _ _ | refine below_drew ?_ | refine Below.al ?_ _))).r3 _ 1 1 [.bool false] (by rfl) (by rfl) (World.news_of_block (cs := #[.bool false]) (t := 4) (fr := (0, 0)) (by repeat (first | exact heap_alloc_new _ _ | exact nb_new _ (by simp only [World.size_alloc]) | refine hk2 _ _ _ ?_ (by decide) | refine hk1 _ _ _ ?_ (by decide) | refine nb_alloc _ ?_))) hone3.out (by decide) (by unfold maxLen; omega) (by omega) (hS7.out.below (by repeat (first | exact below_drew (Below.refl _ _) | exact Below.refl _ _ | refine below_drew ?_ | refine Below.al ?_ _))).lo _ rfl ?_; intro g3 c3 w3 hown3 hgrow3 hat3 hlt3; obtain ⟨hS8, hk3⟩ := (hS7.out.below (by repeat (first | exact below_drew (Below.refl _ _) | exact Below.refl _ _ | refine below_drew ?_ | refine Below.al ?_ _))).app3 hown3 hgrow3; replace hS8 := hid_of hS8; have hz3 := hid_of (hk3 X3.heap.size #[.int .i64 num, .int .i64 gen] 35 (by repeat (first | exact hz2.out | refine nb_alloc _ ?_)) (by decide)); have r0 : w3.cell? ⟨X3.heap.size, 0, none⟩ = some (.int .i64 num) := cell_of hz3.out rfl; have r1 : w3.cell? ⟨X3.heap.size, 1, none⟩ = some (.int .i64 gen) := cell_of hz3.out rfl; have o1 : w3.cell? ⟨wo.heap.size, 1, none⟩ = some (.int .i64 ev) := (hop_cells hS8.out.op).2.1; clear hS7 hown3 hgrow3 hat3 hlt3))
                all_goals
                  have hend : Hid (∃ (ns : List Nd) (st : List Int) (tv : List Tk), Hid (AftA lo w hb most (2 * i + 1) (i + 1) wo.heap.size X1.heap.size ⟨1, ev, eh, em, eg⟩ rx rg (.slice (some ⟨g1, 0, none⟩) (k + 1) c1) (.slice (some ⟨g2, 0, none⟩) (k + 1) c2) (.slice (some ⟨g3, 0, none⟩) (k + 1) c3) w3 ns st tv)) := ⟨_, _, _, aft_more hS8.out hlen.out hml.out hIx.out hJx.out (show ¬ ((1 : Int) = 2) by decide)⟩
                  clear hS8 hk1 hk2 hk3 hz1 hz2 hz3 hz5 r0 r1 o1 hone hone2 hone3
                  go_wp2_with fail
                  go_meet
                  exact hend.out
          · replace hJx := hid_of hJx
            clear hW
            have h50 : ((5 : Int) == 0) = false := by decide
            go_wp2_with fail
            go_loopw [15] (fun kv wr => ∃ k : Nat, kv = .int .i64 k ∧ k ≤ m ∧ Below X4.heap.size X4 wr) (fun kv _ => m - (intOf kv).toNat)
            case atStart => exact ⟨0, rfl, Nat.zero_le _, Below.refl _ _⟩
            case round =>
              obtain ⟨k, rfl, hk, hBk⟩ := hrel
              by_cases hkm : k < m
              · replace hBk := hid_of hBk
                go_upto_region 19 with fail
                go_quiet ((go_at_call 9; exact Calls.quiet_of_same (hnum.out 5 _)))
                have hfin : Hid (∃ k' : Nat, Value.int .i64 ((k : Int) + 1) = .int .i64 k' ∧ k' ≤ m ∧ Below X4.heap.size X4 (wr.drewN nq)) := ⟨k + 1, by go_num, by omega, below_drewN hBk.out nq⟩
                go_wp2_with fail
                exact ⟨hfin.out, by simp [intOf]; omega⟩
              · obtain rfl : k = m := by omega
                have hend : Hid (∃ (ns : List Nd) (st : List Int) (tv : List Tk), Hid (AftA lo w hb most (2 * i + 1) (i + 1) wo.heap.size X1.heap.size ⟨1, ev, eh, em, eg⟩ rx rg (.slice aa k ca) (.slice av k cv) (.slice ag k cg) wr ns st tv)) := ⟨_, _, tv, by have := hlen.out; omega, hIx.out, hJx.out, by rw [hlen.out]; exact hS4.out.below hBk, fun h => absurd (show (1 : Int) = 2 from h) (by decide)⟩
                clear hBk
                go_wp2_with fail
                refine (hnum.out 5 wr).mono ?_
                rintro e Z ⟨rfl, hz⟩
                obtain rfl : wr = Z := hz.symm
                clear hz
                go_wp2_with fail
                go_meet
                exact hend.out
        · have hd1 : decide (ek = 1) = false := decide_eq_false k1
          have hend : Hid (∃ (ns : List Nd) (st : List Int) (tv : List Tk), Hid (AftA lo w hb most (2 * i + 1) (i + 1) wo.heap.size X1.heap.size ⟨ek, ev, eh, em, eg⟩ rx rg (.slice aa m ca) u8 u9 X2 ns st tv)) := ⟨ns, st, tv, Nat.le_succ_of_le hA0.out.len, hA0.out.inv.mono, hA0.out.once, hA0.out.st3, hA0.out.ref⟩
          go_wp2_with fail
          go_meet
          exact hend.out
      case rest =>
        clear hA0 c0 c1
        obtain ⟨ns1, st1, tv1, hA1⟩ := hcut
        obtain ⟨Y1, hY1⟩ : ∃ Y1 : World, Y1 = wc := ⟨_, rfl⟩
        subst hY1
        obtain ⟨c0, -, -, -, -⟩ := hop_cells hA1.out.st3.op
        simp only at c0
        obtain ⟨aa1, ca1, e7, -, -, -⟩ := ownsRow_form hA1.out.st3.r1
        obtain ⟨av1, cv1, e8, -, -, -⟩ := ownsRow_form hA1.out.st3.r2
        obtain ⟨ag1, cg1, e9, -, -, -⟩ := ownsRow_form hA1.out.st3.r3
        subst e7 e8 e9
        obtain ⟨m1, hm1⟩ : ∃ m1, Hid (tv1.length = m1) := ⟨_, rfl⟩
        have hmi : m1 ≤ i + 1 := by have := hm1.out; have := hA1.out.len; omega
        have h3 := hid_of hA1.out.st3
        rw [hm1.out] at h3 ⊢
        go_upto_if 103 with fail
        go_cut [] from 46 to 167 (fun wx => ∃ (ns : List Nd) (st : List Int) (tv : List Tk), Hid (AftA lo w hb most (2 * i + 2) (i + 1) wo.heap.size X1.heap.size ⟨ek, ev, eh, em, eg⟩ rx rg (.slice aa1 m1 ca1) (.slice av1 m1 cv1) (.slice ag1 m1 cg1) wx ns st tv))
        case first =>
          by_cases k2 : ek = 2
          · subst k2
            have zr := hid_of (hA1.out.ref rfl)
            have r0 : Y1.cell? ⟨X1.heap.size, 0, none⟩ = some (.int .i64 rx) := cell_of zr.out rfl
            have r1 : Y1.cell? ⟨X1.heap.size, 1, none⟩ = some (.int .i64 rg) := cell_of zr.out rfl
            have hfr := hid_of (free_once hA1.out.st3.heap hA1.out.st3.lo hA1.out.inv (by omega) hA1.out.once rx rg)
            obtain ⟨ok, hok⟩ : ∃ ok, Hid (isLive ns1 rx rg = ok) := ⟨_, rfl⟩
            rw [hok.out] at hfr
            have hsee := hid_of (fun t (ht : t ∈ tv1) => (hA1.out.once.told ht).1)
            clear hA1
            go_upto_region 25 with fail
            refine hfr.out.mono ?_
            rintro e X3 ⟨rfl, ns3, st3, hF⟩
            have hS3 : Hid (St3 lo w hb most ns3 st3 wo.heap.size ⟨2, ev, eh, em, eg⟩ m1 m1 m1 (flatT (tv1.map (·.u))) (tv1.map fun t => .int .i64 t.v) (tv1.map fun t => .bool t.g) (.slice aa1 m1 ca1) (.slice av1 m1 cv1) (.slice ag1 m1 cg1) X3) :=
              St3.mk (ownsRow_keep h3.out.r1 (fun _ _ e => (hF.ft.cold _ _ e rfl).trans e.symm)) (ownsRow_keep h3.out.r2 (fun _ _ e => (hF.ft.cold _ _ e rfl).trans e.symm)) (ownsRow_keep h3.out.r3 (fun _ _ e => (hF.ft.cold _ _ e rfl).trans e.symm)) hF.heap (hF.ft.cold _ _ h3.out.op rfl) (h3.out.bel.trans hF.ft.below) (Nat.le_trans h3.out.lo hF.ft.size)
            have zr3 := hid_of (hF.ft.cold _ _ zr.out rfl)
            have hIx := hid_of hF.inv
            have hJx := hid_of hF.once
            clear hF hfr h3 r0 r1 zr c0
            go_wp2_with fail
            go_loopw [17] (fun kv wr => ∃ (k : Nat) (gl : List Bool), kv = .int .i64 k ∧ k ≤ m1 ∧ GoneK (rx, rg) k tv1 gl ∧ St3 lo w hb most ns3 st3 wo.heap.size ⟨2, ev, eh, em, eg⟩ m1 m1 m1 (flatT (tv1.map (·.u))) (tv1.map fun t => .int .i64 t.v) (gl.map .bool) (.slice aa1 m1 ca1) (.slice av1 m1 cv1) (.slice ag1 m1 cg1) wr ∧ wr.heap[X1.heap.size]? = some (.cells #[.int .i64 rx, .int .i64 rg] 35 (0, 0))) (fun kv _ => m1 - (intOf kv).toNat)
            case atStart => exact ⟨0, tv1.map (·.g), rfl, Nat.zero_le _, GoneK.zero _ _, by rw [List.map_map]; exact hS3.out, zr3.out⟩
            case round =>
              clear hS3 zr3
              obtain ⟨k, gl, rfl, hk, hG, hSk, hzk⟩ := hrel
              by_cases hkm : k < m1
              · obtain ⟨t, ht⟩ : ∃ t, Hid (tv1[k]? = some t) := ⟨tv1[k]'(by have := hm1.out; omega), List.getElem?_eq_getElem (by have := hm1.out; omega)⟩
                obtain ⟨ga, gg, hga, hgg, u0, u1, g0, gf⟩ : ∃ ga gg, aa1 = some ⟨ga, 0, none⟩ ∧ ag1 = some ⟨gg, 0, none⟩ ∧ wr.cell? ⟨ga, k * 2, none⟩ = some (.int .i64 t.u.1) ∧ wr.cell? ⟨ga, k * 2 + 1, none⟩ = some (.int .i64 t.u.2) ∧ wr.cell? ⟨gg, k, none⟩ = some (.bool t.g) ∧ wr.frozen? ⟨gg, k, none⟩ = false := by
                  obtain ⟨_, _, hf, _, _, hg⟩ := ownsRow_form hSk.r1
                  cases hf
                  obtain ⟨ga, rfl⟩ := hg (by omega)
                  obtain ⟨_, _, hf2, _, _, hg2⟩ := ownsRow_form hSk.r3
                  cases hf2
                  obtain ⟨gg, rfl⟩ := hg2 (by omega)
                  obtain ⟨f1, f2⟩ := flatT_at (tv1.map (·.u)) k t.u (by rw [List.getElem?_map, ht.out]; rfl)
                  exact ⟨ga, gg, rfl, rfl, ownsRow_cell hSk.r1 f1, ownsRow_cell hSk.r1 f2, ownsRow_cell hSk.r3 (by rw [List.getElem?_map, hG.at ht.out]; rfl), hSk.r3.frozenAt k⟩
                subst hga hgg
                have q0 : wr.cell? ⟨X1.heap.size, 0, none⟩ = some (.int .i64 rx) := cell_of hzk rfl
                have q1 : wr.cell? ⟨X1.heap.size, 1, none⟩ = some (.int .i64 rg) := cell_of hzk rfl
                have heq := eq_ref t.u.1 t.u.2 rx rg
                have hsk := hsee.out t (List.mem_of_getElem? ht.out)
                obtain ⟨tu, tx, tg⟩ := t
                obtain ⟨t1, t2⟩ := tu
                simp only at u0 u1 g0 heq hsk
                replace hsk := hid_of hsk
                replace hG := hid_of hG
                replace hSk := hid_of hSk
                replace hzk := hid_of hzk
                cases hq : (decide (t1 = rx) && decide (t2 = rg)) with
                | true =>
                  rw [hq] at heq
                  have hG2 := hid_of (hG.out.mark ht.out hq)
                  have hbe : (ok == tg) = false := by
                    simp at hq
                    have h1 := hsk.out
                    rw [hq.1, hq.2, hok.out] at h1
                    rw [h1]
                    cases tg <;> rfl
                  clear hq
                  go_upto_region 28 with fail
                  go_quiet (fail)
                  obtain ⟨Z, hZ⟩ : ∃ Z, Hid (wr.drewN nq = Z) := ⟨_, rfl⟩
                  rw [hZ.out]
                  have hBz : Below wr.heap.size wr Z := by rw [← hZ.out]; exact below_drewN (Below.refl _ wr) nq
                  have hSz := hid_of (hSk.out.below hBz)
                  have hzz := hid_of ((hBz.block _ (Array.getElem?_eq_some_iff.1 hzk.out).1).trans hzk.out)
                  have g1 := stay hBz g0
                  have gf1 := hSz.out.r3.frozenAt k
                  have hst := hid_of (hSz.out.app3 (row_set (k := k) hSz.out.r3 true) (hSz.out.r3.stored k (.bool true)).2)
                  have hfin : Hid (∃ (k' : Nat) (gl : List Bool), Value.int .i64 ((k : Int) + 1) = .int .i64 k' ∧ k' ≤ m1 ∧ GoneK (rx, rg) k' tv1 gl ∧ St3 lo w hb most ns3 st3 wo.heap.size ⟨2, ev, eh, em, eg⟩ m1 m1 m1 (flatT (tv1.map (·.u))) (tv1.map fun t => .int .i64 t.v) (gl.map .bool) (.slice (some ⟨ga, 0, none⟩) m1 ca1) (.slice av1 m1 cv1) (.slice (some ⟨gg, 0, none⟩) m1 cg1) (Z.setCell ⟨gg, k, none⟩ (.bool true)) ∧ (Z.setCell ⟨gg, k, none⟩ (.bool true)).heap[X1.heap.size]? = some (.cells #[.int .i64 rx, .int .i64 rg] 35 (0, 0))) := ⟨k + 1, gl.set k true, by go_num, by omega, hG2.out, hst.out.1, hst.out.2 _ _ _ hzz.out (by decide)⟩
                  clear hG2 hst hZ hBz hSz hzz g0 gf u0 u1 q0 q1
                  go_wp2_with fail
                  exact ⟨hfin.out, by simp [intOf]; omega⟩
                | false =>
                  rw [hq] at heq
                  have hG2 := hid_of (hG.out.skip ht.out hq)
                  clear hq
                  go_upto_region 28 with fail
                  go_quiet (fail)
                  have hfin : Hid (∃ (k' : Nat) (gl : List Bool), Value.int .i64 ((k : Int) + 1) = .int .i64 k' ∧ k' ≤ m1 ∧ GoneK (rx, rg) k' tv1 gl ∧ St3 lo w hb most ns3 st3 wo.heap.size ⟨2, ev, eh, em, eg⟩ m1 m1 m1 (flatT (tv1.map (·.u))) (tv1.map fun t => .int .i64 t.v) (gl.map .bool) (.slice (some ⟨ga, 0, none⟩) m1 ca1) (.slice av1 m1 cv1) (.slice (some ⟨gg, 0, none⟩) m1 cg1) (wr.drewN nq) ∧ (wr.drewN nq).heap[X1.heap.size]? = some (.cells #[.int .i64 rx, .int .i64 rg] 35 (0, 0))) := ⟨k + 1, gl, by go_num, by omega, hG2.out, hSk.out.below (below_drewN (Below.refl _ _) nq), hzk.out⟩
                  go_wp2_with fail
                  exact ⟨hfin.out, by simp [intOf]; omega⟩
              · obtain rfl : k = m1 := by omega
                have hend : Hid (∃ (ns : List Nd) (st : List Int) (tv : List Tk), Hid (AftA lo w hb most (2 * i + 2) (i + 1) wo.heap.size X1.heap.size ⟨2, ev, eh, em, eg⟩ rx rg (.slice aa1 k ca1) (.slice av1 k cv1) (.slice ag1 k cg1) wr ns st tv)) := ⟨_, _, _, aft_gone hSk hm1.out hmi hIx.out hJx.out hG (fun _ => hzk)⟩
                clear hSk hzk hG
                go_wp2_with fail
                go_meet
                exact hend.out
          · have hd2 : decide (ek = 2) = false := decide_eq_false k2
            have hend : Hid (∃ (ns : List Nd) (st : List Int) (tv : List Tk), Hid (AftA lo w hb most (2 * i + 2) (i + 1) wo.heap.size X1.heap.size ⟨ek, ev, eh, em, eg⟩ rx rg (.slice aa1 m1 ca1) (.slice av1 m1 cv1) (.slice ag1 m1 cg1) Y1 ns st tv)) := ⟨ns1, st1, tv1, hA1.out.len, hA1.out.inv.mono, hA1.out.once, by rw [hm1.out]; exact h3.out, hA1.out.ref⟩
            go_wp2_with fail
            go_meet
            exact hend.out
        case rest =>
          clear hA1 c0 h3 hmi hm1
          obtain ⟨ns2, st2, tv2, hA2⟩ := hcut
          obtain ⟨Y2, hY2⟩ : ∃ Y2 : World, Y2 = wc := ⟨_, rfl⟩
          subst hY2
          obtain ⟨_a, _c, e7, -, -, -⟩ := ownsRow_form hA2.out.st3.r1
          have hm2 : Hid (tv2.length = m1) := by cases e7; rfl
          clear e7
          have hmi : m1 ≤ i + 1 := by have := hm2.out; have := hA2.out.len; omega
          have hJx := hid_of hA2.out.once
          have hIx := hid_of hA2.out.inv
          have hS3 := hid_of hA2.out.st3
          rw [hm2.out] at hS3
          clear hA2
          go_wp2_with fail
          go_loopw [18] (fun kv wr => ∃ (k : Nat), kv = .int .i64 k ∧ k ≤ m1 ∧ Below Y2.heap.size Y2 wr) (fun kv _ => m1 - (intOf kv).toNat)
          case atStart => exact ⟨0, rfl, Nat.zero_le _, Below.refl _ _⟩
          case round =>
            obtain ⟨k, rfl, hk, hBk⟩ := hrel
            by_cases hkm : k < m1
            · obtain ⟨t, ht⟩ : ∃ t, Hid (tv2[k]? = some t) := ⟨tv2[k]'(by have := hm2.out; omega), List.getElem?_eq_getElem (by have := hm2.out; omega)⟩
              have hSk := hS3.out.below hBk
              obtain ⟨ga, gv, gg, hga, hgv, hgg, hc⟩ : ∃ ga gv gg, aa1 = some ⟨ga, 0, none⟩ ∧ av1 = some ⟨gv, 0, none⟩ ∧ ag1 = some ⟨gg, 0, none⟩ ∧ Hid (wr.cell? ⟨ga, k * 2, none⟩ = some (.int .i64 t.u.1) ∧ wr.cell? ⟨ga, k * 2 + 1, none⟩ = some (.int .i64 t.u.2) ∧ wr.cell? ⟨gv, k, none⟩ = some (.int .i64 t.v) ∧ wr.cell? ⟨gg, k, none⟩ = some (.bool t.g)) := by
                obtain ⟨_, _, hf, _, _, hg⟩ := ownsRow_form hSk.r1
                cases hf
                obtain ⟨ga, rfl⟩ := hg (by omega)
                obtain ⟨_, _, hf2, _, _, hg2⟩ := ownsRow_form hSk.r3
                cases hf2
                obtain ⟨gg, rfl⟩ := hg2 (by omega)
                obtain ⟨_, _, hf3, _, _, hg3⟩ := ownsRow_form hSk.r2
                cases hf3
                obtain ⟨gv, rfl⟩ := hg3 (by omega)
                obtain ⟨f1, f2⟩ := flatT_at (tv2.map (·.u)) k t.u (by rw [List.getElem?_map, ht.out]; rfl)
                exact ⟨ga, gv, gg, rfl, rfl, rfl, ownsRow_cell hSk.r1 f1, ownsRow_cell hSk.r1 f2, ownsRow_cell hSk.r2 (by rw [List.getElem?_map, ht.out]; rfl), ownsRow_cell hSk.r3 (by rw [List.getElem?_map, ht.out]; rfl)⟩
              subst hga hgv hgg
              obtain ⟨w0, w1, w2, w3⟩ := hc.out
              have htd := hJx.out.told (List.mem_of_getElem? ht.out)
              have hgt := get_s hSk.heap t.u.1 t.u.2
              rw [htd.1, htd.2] at hgt
              obtain ⟨⟨t1, t2⟩, tx, tg⟩ := t
              simp only at w0 w1 w2 w3 hgt
              replace hgt := hid_of hgt
              replace hBk := hid_of hBk
              clear htd hSk hc
              cases tg with
              | false =>
                simp only [Bool.not_false, Bool.false_eq_true, if_false] at hgt
                go_wp2_with fail
                refine hgt.out.mono ?_
                rintro e Z ⟨rfl, hZ⟩
                have v2 := stay hZ w2
                have v3 := stay hZ w3
                have hfin : Hid (∃ k' : Nat, Value.int .i64 ((k : Int) + 1) = .int .i64 k' ∧ k' ≤ m1 ∧ Below Y2.heap.size Y2 Z) := ⟨k + 1, by go_num, by omega, hBk.out.trans (hZ.mono hBk.out.size)⟩
                clear hgt hZ w0 w1 w2 w3
                go_wp2_with fail
                exact ⟨hfin.out, by simp [intOf]; omega⟩
              | true =>
                simp only [Bool.not_true, if_true] at hgt
                go_wp2_with fail
                refine hgt.out.mono ?_
                rintro e Z ⟨rfl, hZ⟩
                have v2 := stay hZ w2
                have v3 := stay hZ w3
                have hfin : Hid (∃ k' : Nat, Value.int .i64 ((k : Int) + 1) = .int .i64 k' ∧ k' ≤ m1 ∧ Below Y2.heap.size Y2 Z) := ⟨k + 1, by go_num, by omega, hBk.out.trans (hZ.mono hBk.out.size)⟩
                clear hgt hZ w0 w1 w2 w3
                go_wp2_with fail
                exact ⟨hfin.out, by simp [intOf]; omega⟩
            · obtain rfl : k = m1 := by omega
              have hSk := hS3.out.below hBk
              have hfin : Hid (∃ (i' : Nat) (ns : List Nd) (st : List Int) (tv : List Tk), Value.int .i64 ((i : Int) + 1) = .int .i64 i' ∧ i' ≤ n ∧ HInv (2 * i') ns st ∧ OInv ns st tv ∧ tv.length ≤ i' ∧ HeapS lo wr hb 5 most ns st ∧ Tbl lo wr tv (.slice aa1 k ca1) (.slice av1 k cv1) (.slice ag1 k cg1) ∧ Below lo w wr) := ⟨i + 1, ns2, st2, tv2, by go_num, by omega, hIx.out, hJx.out, by have := hm2.out; omega, hSk.heap, by have e := hm2.out; subst e; exact ⟨hSk.r1, hSk.r2, hSk.r3⟩, hSk.bel⟩
              clear hSk hBk
              go_wp2_with fail
              exact ⟨hfin.out, by simp [intOf]; omega⟩
    · obtain rfl : i = n := by omega
      have hl := hid_of (live_any wo)
      replace hB := hid_of hB
      clear hH hT hI hJ
      go_wp2_with fail
      refine hl.out.mono ?_
      rintro e Z ⟨rfl, hZ⟩
      go_wp2_with fail
      exact bodyPost_ret (v := .bool true) (by simp [results, Try.results3, go_sem]) rfl ⟨rfl, hB.out.trans (hZ.mono hlw)⟩
end Go.Proofs.Ytaipgdnbaifhdaa
