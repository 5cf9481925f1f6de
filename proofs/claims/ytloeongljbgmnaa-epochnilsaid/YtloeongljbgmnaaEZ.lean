import Derived.Test.YtloeongljbgmnaaEY
/-! epoch: the law's own run. -/
namespace Go.Proofs.Ytloeongljbgmnaa
open Go Go.RowKit
theorem live_g1 {lo hb : Nat} {w : World} (h : HeapS lo w hb 5 1048576 [⟨1, true, 7⟩] []) : Calls Try.prog 31 #[.pointer (some ⟨hb, 0, none⟩), .pointer none, .agg #[.int .i64 1, .int .i64 1]] w fun e w' => e = .returned (.tuple #[.int .i64 7, .bool true]) ∧ Below w.heap.size w w' := get_s h 1 1
theorem live_g2 {lo hb : Nat} {w : World} (h : HeapS lo w hb 5 1048576 [⟨2, false, 0⟩] [1]) : Calls Try.prog 31 #[.pointer (some ⟨hb, 0, none⟩), .pointer none, .agg #[.int .i64 1, .int .i64 1]] w fun e w' => e = .returned (.tuple #[.int .i64 0, .bool false]) ∧ Below w.heap.size w w' := get_s h 1 1
/-- A row of Refs whose first is 1, 1. -/
def Ref11 (w : World) (gn : Nat) : Prop := ∃ cur, w.heap[gn]? = some (.cells cur 82 (0, 0)) ∧ cur[0]? = some (.int .i64 1) ∧ cur[1]? = some (.int .i64 1)
theorem Ref11.of_owns {w : World} {lo gn nc : Nat} (h : w.ownsRow lo 82 2 (.slice (some ⟨gn, 0, none⟩) 1 nc) 1 [.int .i64 1, .int .i64 1]) : Ref11 w gn := by
  obtain ⟨-, h2⟩ := h
  rcases h2 with ⟨hv, -⟩ | ⟨g2, cap', cur, hv, hg, hh, -, -, -, hr⟩
  · cases hv
  · cases hv
    refine ⟨cur, hh, ?_, ?_⟩
    · have := congrArg (fun l => l[0]?) hr
      simpa [List.getElem?_take] using this
    · have := congrArg (fun l => l[1]?) hr
      simpa [List.getElem?_take] using this
theorem Ref11.cells {w : World} {gn : Nat} (h : Ref11 w gn) : w.cell? ⟨gn, 0, none⟩ = some (.int .i64 1) ∧ w.cell? ⟨gn, 1, none⟩ = some (.int .i64 1) := by
  obtain ⟨cur, h1, h2, h3⟩ := h
  exact ⟨cell_of h1 h2, cell_of h1 h3⟩
theorem Ref11.keep {w w' : World} {gn : Nat} (h : Ref11 w gn) (hk : ∀ vs, w.heap[gn]? = some (.cells vs 82 (0, 0)) → w'.heap[gn]? = some (.cells vs 82 (0, 0))) : Ref11 w' gn := by
  obtain ⟨cur, h1, h2, h3⟩ := h
  exact ⟨cur, hk _ h1, h2, h3⟩
theorem LW.cells {w : World} {wl cb : Nat} {x : Kx} (h : LW w wl cb x) : w.cell? ⟨wl, 0, none⟩ = some (.pointer (some ⟨x.hb, 0, none⟩)) ∧ w.cell? ⟨wl, 1, none⟩ = some (.pointer (some ⟨x.kb, 0, none⟩)) := by
  obtain ⟨cg, cc, cur, h1, h2, h3⟩ := h.at_
  exact ⟨cell_of h1 rfl, cell_of h1 rfl⟩
set_option maxRecDepth 100000 in
set_option maxHeartbeats 8000000 in
theorem live_any (w : World) : Calls Try.prog 13 #[] w fun e w' => e = .returned (.bool true) ∧ Below w.heap.size w w' := by
  obtain ⟨lo, hlo⟩ : ∃ lo, Hid (w.heap.size = lo) := ⟨_, rfl⟩
  have hmd := hid_of (made_law lo w (by rw [hlo.out]; exact Nat.le_refl _))
  rw [hlo.out] at hmd ⊢
  go_enter Try.func13, Try.ntmps13
  go_wp2_with fail
  refine hmd.out.mono ?_
  rintro e W1 ⟨hB1, wl, cb, x, rfl, hL1, hcb, hC1, hK1, hH1⟩
  have hlo1 : lo ≤ W1.heap.size := by rw [← hlo.out]; exact hB1.size
  have hda := hid_of (does_a lo wl cb x W1 hlo1 hL1 hcb hC1 hK1 hH1)
  obtain ⟨cg, cc, cur, q1, q2, q3⟩ := hL1.at_
  have c2 : W1.cell? ⟨wl, 2, none⟩ = some (.slice (some ⟨cg, 0, none⟩) 1 cc) := cell_of q1 rfl
  have cg0 : W1.cell? ⟨cg, 0, none⟩ = some (.pointer (some ⟨cb, 0, none⟩)) := cell_of q2 q3
  replace hB1 := hid_of hB1
  unfold opA at hda
  clear hmd hC1 hK1 hH1 q1 q2 q3 hL1
  go_wp2_with fail
  refine hda.out.mono ?_
  rintro e W2 ⟨gn, nc, log, rfl, hB2, hown, hL2, hC2, hK2, hH2⟩
  have hr2 := Ref11.of_owns hown
  have hlo2 : lo ≤ W2.heap.size := Nat.le_trans hlo1 hB2.size
  obtain ⟨W3, hW3⟩ : ∃ W3, Hid (W2.alloc (.cells #[.int .i64 1, .slice (some ⟨gn, 0, none⟩) 1 nc, .int .i64 0] 28) = W3) := ⟨_, rfl⟩
  have z3 := heap_alloc_new W2 (.cells #[.int .i64 1, .slice (some ⟨gn, 0, none⟩) 1 nc, .int .i64 0] 28)
  have hB3 : Below W2.heap.size W2 W3 := by rw [← hW3.out]; exact (Below.refl _ W2).alloc (Nat.le_refl _) _
  rw [hW3.out] at z3
  have hL3 := hL2.under hB3
  have hK3 := hK2.under hB3
  have hH3 := hH2.under hB3
  have hC3 := hC2.under hB3
  have hr3 := hr2.keep (fun _ e => up_below hB3 e)
  have hlo3 : lo ≤ W3.heap.size := Nat.le_trans hlo2 hB3.size
  have hb3 : Below lo w W3 := hB1.out.trans (hB2.trans (hB3.mono hlo2))
  obtain ⟨-, w1⟩ := hL3.cells
  have hpn := hid_of (pin_any hK3 ⟨show (0 : Int) ≤ 1 by decide, show (1 : Int) ≤ 4611686018427387904 by decide⟩)
  replace hL3 := hid_of hL3
  replace hH3 := hid_of hH3
  replace hC3 := hid_of hC3
  replace hr3 := hid_of hr3
  replace hb3 := hid_of hb3
  replace z3 := hid_of z3
  clear hda hB2 hown hL2 hC2 hK2 hH2 hr2 hlo2 hB3 hK3 c2 cg0 hB1 hlo1
  go_upto_region 7 with (rw [hW3.out])
  refine hpn.out.mono ?_
  rintro e W4 ⟨rfl, hK4, hT4⟩
  have hK4' : KS lo W4 x (vP gn nc) := hK4
  have hlo4 : lo ≤ W4.heap.size := Nat.le_trans hlo3 hT4.size
  have hL4 := hL3.out.keep (w' := W4) (fun b vs t e ht => hT4.cold b vs t e (hot3_K _ (hotK_L _ ht)))
  have hH4 := hH3.out.keepK hT4
  have hC4 := hC3.out.keep (hT4.up hot3_K)
  have hr4 := hr3.out.keep (w' := W4) (fun _ e => hT4.cold _ _ _ e rfl)
  have z4 := hT4.cold _ _ _ z3.out rfl
  obtain ⟨W5, hW5⟩ : ∃ W5, Hid (W4.alloc (.cells #[.int .i64 1, .slice (some ⟨gn, 0, none⟩) 1 nc, .int .i64 0] 28) = W5) := ⟨_, rfl⟩
  have p5 := heap_alloc_new W4 (.cells #[.int .i64 1, .slice (some ⟨gn, 0, none⟩) 1 nc, .int .i64 0] 28)
  have hB5 : Below W4.heap.size W4 W5 := by rw [← hW5.out]; exact (Below.refl _ W4).alloc (Nat.le_refl _) _
  rw [hW5.out] at p5
  obtain ⟨W6, hW6⟩ : ∃ W6, Hid (W5.alloc (.cells #[.int .i64 0] 3) = W6) := ⟨_, rfl⟩
  have g6 := heap_alloc_new W5 (.cells #[.int .i64 0] 3)
  have hB56 : Below W5.heap.size W5 W6 := by rw [← hW6.out]; exact (Below.refl _ W5).alloc (Nat.le_refl _) _
  rw [hW6.out] at g6
  have hB6 : Below W4.heap.size W4 W6 := hB5.trans (hB56.mono hB5.size)
  have p6 := up_below hB56 p5
  obtain ⟨rt0, rt1, rt2⟩ := cells3 (up_below hB6 z4)
  have hr6 := hr4.keep (fun _ e => up_below hB6 e)
  obtain ⟨n0, n1⟩ := hr6.cells
  have hlo6 : lo ≤ W6.heap.size := Nat.le_trans hlo4 hB6.size
  have hdb := hid_of (does_b lo wl cb W5.heap.size gn nc x log W6 hlo6 (hL4.under hB6) (hC4.under hB6) (hK4'.under hB6) (hH4.under hB6) (cell_of g6 rfl) n0 n1)
  have hb6 : Hid (Below lo w W6) := hb3.out.trans (hT4.below.trans (hB6.mono hlo4))
  replace p6 := hid_of p6
  replace hr6 := hid_of hr6
  unfold opB at hdb
  clear hpn hK4 hK4' hT4 hL4 hH4 hC4 hr4 z4 hB5 hB56 hB6 p5 g6 hL3 hH3 hC3 hr3 hb3 z3 w1 n0 n1 hlo3 hlo4
  go_upto_region 7 with (rw [hW5.out])
  go_wp2_with (rw [hW6.out])
  refine hdb.out.mono ?_
  rintro e W7 ⟨rfl, hB7, hrk, hL7, hH7, la, gr, hone, hK7⟩
  have hlo7 : lo ≤ W7.heap.size := Nat.le_trans hlo6 hB7.size
  have p7 := hrk.2 _ _ p6.out
  obtain ⟨P0, P1, P2⟩ := cells3 p7
  have hr7 := hr6.out.keep (w' := W7) (fun _ e => hrk.1 _ _ e)
  obtain ⟨n0, n1⟩ := hr7.cells
  obtain ⟨w0, w1⟩ := hL7.cells
  have hg1 := hid_of (live_g1 (hH7.under (below_drew (Below.refl _ W7))))
  have hb7 : Hid (Below lo w W7) := hb6.out.trans hB7
  replace p7 := hid_of p7
  replace hr7 := hid_of hr7
  replace hL7 := hid_of hL7
  replace hH7 := hid_of hH7
  replace hone := hid_of hone
  replace hK7 := hid_of hK7
  clear hdb hB7 hrk p6 hr6 hb6 rt0 rt1 rt2 hlo6 hW6 hW5 hW3
  go_upto_region 10 with fail
  go_region_held3 (fun w' => w'.cell? ⟨wl, 0, none⟩ = some (.pointer (some ⟨x.hb, 0, none⟩)) ∧ w'.cell? ⟨W4.heap.size, 1, none⟩ = some (.slice (some ⟨gn, 0, none⟩) 1 nc) ∧ w'.cell? ⟨gn, 0, none⟩ = some (.int .i64 1) ∧ w'.cell? ⟨gn, 1, none⟩ = some (.int .i64 1)) (go_keep) (first
    | (go_at_call 31; refine hg1.out.mono ?_; rintro e W8 ⟨rfl, hz8⟩; have t0 : W8.cell? ⟨wl, 0, none⟩ = some (.pointer (some ⟨x.hb, 0, none⟩)) := stay hz8 w0; have t1 : W8.cell? ⟨W4.heap.size, 1, none⟩ = some (.slice (some ⟨gn, 0, none⟩) 1 nc) := stay hz8 P1; have t2 : W8.cell? ⟨gn, 0, none⟩ = some (.int .i64 1) := stay hz8 n0; have t3 : W8.cell? ⟨gn, 1, none⟩ = some (.int .i64 1) := stay hz8 n1; replace hz8 := hid_of hz8))
  have hB8 : Below W7.heap.size W7 W8 := (below_drew (Below.refl _ W7)).trans hz8.out
  have hlo8 : lo ≤ W8.heap.size := Nat.le_trans hlo7 hB8.size
  have hL8 := hL7.out.under hB8
  have hK8 := hK7.out.under hB8
  have hH8 := hH7.out.under hB8
  have ho8 := hone.out.under hB8
  have hr8 := hr7.out.keep (w' := W8) (fun _ e => up_below hB8 e)
  have p8 := up_below hB8 p7.out
  have hb8 : Hid (Below lo w W8) := hb7.out.trans (hB8.mono hlo7)
  obtain ⟨-, w1⟩ := hL8.cells
  have hrt := hid_of (retired_any hK8)
  replace hL8 := hid_of hL8
  replace hK8 := hid_of hK8
  replace hH8 := hid_of hH8
  replace ho8 := hid_of ho8
  replace hr8 := hid_of hr8
  replace p8 := hid_of p8
  clear hg1 hz8 hB8 t0 t1 t2 t3 n0 n1 w0 P0 P1 P2 hL7 hK7 hH7 hone hr7 p7 hb7 hlo7
  go_wp2_with fail
  refine hrt.out.mono ?_
  rintro e W9 ⟨rfl, hB9⟩
  have hlo9 : lo ≤ W9.heap.size := Nat.le_trans hlo8 hB9.size
  have hL9 := hL8.out.under hB9
  have hK9 := hK8.out.under hB9
  have hH9 := hH8.out.under hB9
  have ho9 := ho8.out.under hB9
  have hr9 := hr8.out.keep (w' := W9) (fun _ e => up_below hB9 e)
  have p9 := up_below hB9 p8.out
  have hb9 : Hid (Below lo w W9) := hb8.out.trans (hB9.mono hlo8)
  obtain ⟨-, w1⟩ := hL9.cells
  have hun := hid_of (unpin_any hK9)
  replace hL9 := hid_of hL9
  replace hH9 := hid_of hH9
  replace ho9 := hid_of ho9
  replace hr9 := hid_of hr9
  replace p9 := hid_of p9
  clear hrt hB9 hL8 hK8 hH8 ho8 hr8 p8 hb8 hlo8 hK9
  go_wp2_with fail
  refine hun.out.mono ?_
  rintro e Wa ⟨rfl, hKa, hTa⟩
  have hloa : lo ≤ Wa.heap.size := Nat.le_trans hlo9 hTa.size
  have hLa := hL9.out.keep (w' := Wa) (fun b vs t e ht => hTa.cold b vs t e (hot3_K _ (hotK_L _ ht)))
  have hHa := hH9.out.keepK hTa
  have hoa := ho9.out.keep (w' := Wa) (fun b vs t e ht => hTa.cold b vs t e (hot3_K _ (hotK_L _ ht)))
  have hra := hr9.out.keep (w' := Wa) (fun _ e => hTa.cold _ _ _ e rfl)
  have pa := hTa.cold _ _ _ p9.out rfl
  have hba : Hid (Below lo w Wa) := hb9.out.trans hTa.below
  obtain ⟨-, w1⟩ := hLa.cells
  have hps := hid_of (passk_any hKa hloa rfl rfl rfl rfl rfl gr 3 hoa hHa)
  replace hLa := hid_of hLa
  replace hra := hid_of hra
  replace pa := hid_of pa
  clear hun hTa hL9 hH9 ho9 hr9 p9 hb9 hlo9 hKa hHa hoa
  go_wp2_with fail
  refine hps.out.mono ?_
  rintro e Wb ⟨rfl, hTb, hHb, lb', hKb⟩
  have hlob : lo ≤ Wb.heap.size := Nat.le_trans hloa hTb.size
  have hLb := hLa.out.keep (w' := Wb) (fun b vs t e ht => hTb.cold b vs t e (hotK_L _ ht))
  have hrb := hra.out.keep (w' := Wb) (fun _ e => hTb.cold _ _ _ e rfl)
  have pb := hTb.cold _ _ _ pa.out rfl
  have hbb : Hid (Below lo w Wb) := hba.out.trans hTb.below
  obtain ⟨n0, n1⟩ := hrb.cells
  obtain ⟨w0, w1⟩ := hLb.cells
  obtain ⟨P0, P1, P2⟩ := cells3 pb
  have hg2 := hid_of (live_g2 (hHb.under (below_drew (Below.refl _ Wb))))
  replace hLb := hid_of hLb
  replace hKb := hid_of hKb
  clear hps hTb hHb hLa hra pa hba hloa hrb pb
  go_upto_region 14 with fail
  go_region_held3 (fun w' => w'.cell? ⟨wl, 0, none⟩ = some (.pointer (some ⟨x.hb, 0, none⟩)) ∧ w'.cell? ⟨W4.heap.size, 1, none⟩ = some (.slice (some ⟨gn, 0, none⟩) 1 nc) ∧ w'.cell? ⟨gn, 0, none⟩ = some (.int .i64 1) ∧ w'.cell? ⟨gn, 1, none⟩ = some (.int .i64 1)) (go_keep) (first
    | (go_at_call 31; refine hg2.out.mono ?_; rintro e Wc ⟨rfl, hzc⟩; have t0 : Wc.cell? ⟨wl, 0, none⟩ = some (.pointer (some ⟨x.hb, 0, none⟩)) := stay hzc w0; have t1 : Wc.cell? ⟨W4.heap.size, 1, none⟩ = some (.slice (some ⟨gn, 0, none⟩) 1 nc) := stay hzc P1; have t2 : Wc.cell? ⟨gn, 0, none⟩ = some (.int .i64 1) := stay hzc n0; have t3 : Wc.cell? ⟨gn, 1, none⟩ = some (.int .i64 1) := stay hzc n1; replace hzc := hid_of hzc))
  have hBc : Below Wb.heap.size Wb Wc := (below_drew (Below.refl _ Wb)).trans hzc.out
  have hLc := hLb.out.under hBc
  have hKc := hKb.out.under hBc
  have hbc : Hid (Below lo w Wc) := hbb.out.trans (hBc.mono hlob)
  have hloc : Hid (lo ≤ Wc.heap.size) := Nat.le_trans hlob hBc.size
  obtain ⟨-, w1⟩ := hLc.cells
  have hrt := hid_of (retired_any hKc)
  clear hg2 hzc hBc t0 t1 t2 t3 n0 n1 w0 P0 P1 P2 hLb hKb hLc hKc hbb hlob
  go_wp2_with fail
  refine hrt.out.mono ?_
  rintro e Wd ⟨rfl, hBd⟩
  have hfin : Hid (Below lo w Wd) := hbc.out.trans (hBd.mono hloc.out)
  clear hrt hBd hbc hloc
  go_wp2_with fail
  go_ret
  exact ⟨rfl, hfin.out⟩
end Go.Proofs.Ytloeongljbgmnaa
