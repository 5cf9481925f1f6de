import Derived.Test.YtbhjbicbgmeboaaD8
/-! live. -/
namespace Go.Proofs.Ytbhjbicbgmeboaa
open Go Go.RowKit

theorem reads_ab {w : World} {gp cp : Nat} (q0 : Hid (w.cell? ⟨gp, 0, none⟩ = some (.string tA))) (q1 : Hid (w.cell? ⟨gp, 0 + 1, none⟩ = some (.string tB))) (hcp : 2 ≤ cp) (hcp2 : cp ≤ 9223372036854775807) : Reads w (.slice (some ⟨gp, 0, none⟩) 2 cp) [tA, tB] := ⟨_, cp, rfl, ⟨hcp, hcp2⟩, .inr ⟨gp, 0, rfl, cell_lt q0.out, fun j u hj => by
    rcases j with _ | _ | j
    · cases hj; exact q0.out
    · cases hj; exact q1.out
    · simp at hj⟩⟩
theorem owns_max {w : World} {lo : Nat} {e : TypeId} {size g cap n : Nat} {xs : List Value} (h : w.ownsRow lo e size (.slice (some ⟨g, 0, none⟩) n cap) n xs) : cap ≤ 9223372036854775807 := by
  obtain ⟨h1, h2⟩ := h
  rcases h2 with ⟨hv, _⟩ | ⟨g', cap', cur, hv, hg, hh, hc, hm, hs, hr⟩
  · cases hv
  · cases hv
    exact hm
theorem seven_sl {w : World} {cs : List Value} (h : VRep w seven cs) : ∃ an ln cn ai li ci, cs = five 3 7 ⟨#[]⟩ (.slice an ln cn) (.slice ai li ci) := by
  obtain ⟨k, x, s, an, ln, cn, ai, li, ci, h1⟩ := vrep_five h
  obtain ⟨nm, it, h2⟩ := seven_is h
  rw [h1] at h2
  simp only [five, List.cons.injEq, Value.int.injEq, Value.string.injEq] at h2
  obtain ⟨⟨-, h3⟩, ⟨-, h4⟩, h5, -⟩ := h2
  subst h3 h4 h5
  exact ⟨_, _, _, _, _, _, h1⟩
theorem cells_ab {w : World} {gp : Nat} (q0 : Hid (w.cell? ⟨gp, 0, none⟩ = some (.string tA))) (q1 : Hid (w.cell? ⟨gp, 0 + 1, none⟩ = some (.string tB))) : ∀ j, j < [tA, tB].length → w.cell? ⟨gp, 0 + j, none⟩ = some (.string ([tA, tB].getD j ByteArray.empty)) := fun j hj => by
    rcases j with _ | _ | j
    · exact q0.out
    · exact q1.out
    · simp at hj; omega
theorem cells_a {w : World} {gp : Nat} {t : ByteArray} (q0 : Hid (w.cell? ⟨gp, 0, none⟩ = some (.string t))) : ∀ j, j < [t].length → w.cell? ⟨gp, 0 + j, none⟩ = some (.string ([t].getD j ByteArray.empty)) := fun j hj => by
    rcases j with _ | j
    · exact q0.out
    · simp at hj
theorem new_b (w : World) (f : TypeId) : ∀ j, j < [tB].length → (w.alloc (.cells #[.string ⟨#[98]⟩] f)).cell? ⟨w.heap.size, 0 + j, none⟩ = some (.string ([tB].getD j ByteArray.empty)) := cells_a (hid_of (by
  have h := heap_alloc_new w (.cells #[.string ⟨#[98]⟩] f)
  simp only [World.cell?, h]
  rfl))
theorem tab : (!decide (tA = tB)) = true := by decide
set_option maxHeartbeats 4000000 in
set_option maxRecDepth 100000 in
theorem live_true (w : World) : Calls Try.prog 8 #[] w fun e w' => e = .returned (.bool true) ∧ Below w.heap.size w w' := by
  have hpa := hid_of (parse_any ⟨#[97, 46, 98]⟩ (by decide) w)
  rw [parsed_ab] at hpa
  go_enter Try.func8, Try.ntmps8
  go_wp2_with fail
  go_fit hpa.out
  clear hpa
  rintro e w1 ⟨sl, rfl, hown, hb1⟩
  obtain ⟨gp, cp, rfl, hgg, hgl⟩ := hown.form (by decide)
  obtain ⟨hcl, -, -, hcap⟩ := owns_cells hown
  have hmax := owns_max hown
  have p0 : w1.cell? ⟨gp, 0, none⟩ = some (.string tA) := hcl 0 _ rfl
  have p1 : w1.cell? ⟨gp, 0 + 1, none⟩ = some (.string tB) := hcl 1 _ rfl
  have hnu := hid_of (number_any 7 w1)
  have hse : ∀ p, Hid _ := fun p => hid_of (set_a 0 ⟨#[]⟩ none 0 none 0 3 7 ⟨#[]⟩ none 0 0 none 0 0 seven gp 0 cp tA tB (by decide) idx_a (by decide) hcap (w1.alloc p) (cell_alloc' p0 p) (cell_alloc' p1 p) (seven_rep _))
  replace p0 := hid_of p0
  replace p1 := hid_of p1
  clear hcl hown
  go_wp2_with fail
  go_fit hnu.out
  clear hnu
  rintro e w2 ⟨rfl, hw2⟩
  subst hw2
  go_wp2_with fail
  go_fit (hse _).out
  clear hse
  rintro e w3 ⟨hb3, cs3, rfl, hV3⟩
  obtain ⟨b, o, cn, b2, o2, ci, cs', rfl, hs1, hC1, hV2, hcn, hci⟩ := obj_open hV3
  obtain ⟨b3, o3, cn3, b4, o4, ci4, cs'', rfl, hs2, hC2, hV7, hcn3, hci4⟩ := obj_open hV2
  obtain ⟨nm7, it7, rfl⟩ := seven_is hV7
  obtain ⟨k5, x5, t5, an5, ln5, cn5, ai5, li5, ci5, h5⟩ := vrep_five hV7
  have hB3 : Below w.heap.size w w3 := hb1.trans ((below_box hb3).mono hb1.size)
  have q0 : w3.cell? ⟨gp, 0, none⟩ = some (.string tA) := ((below_box hb3).cell (cell_lt p0.out)).trans p0.out
  have q1 : w3.cell? ⟨gp, 0 + 1, none⟩ = some (.string tB) := ((below_box hb3).cell (cell_lt p1.out)).trans p1.out
  clear p0 p1 hb3 hb1 hgg hgl
  rw [h5] at hC2 hV7
  clear h5
  replace q0 := hid_of q0
  replace q1 := hid_of q1
  replace hs1 := hid_of hs1
  replace hs2 := hid_of hs2
  replace hC1 := hid_of hC1
  replace hC2 := hid_of hC2
  replace hV2 := hid_of hV2
  replace hV3 := hid_of hV3
  replace hV7 := hid_of hV7
  simp only [five]
  go_wp2_with fail
  have hSz : Hid (Sized [tA, tB]) := fun s hs => by
    have : s = tA ∨ s = tB := by simpa using hs
    rcases this with rfl | rfl <;> decide
  have hg1 : ∀ p, Hid _ := fun p => hid_of (get_any tV1 _ (.slice (some ⟨gp, 0, none⟩) 2 cp) [tA, tB] (w3.alloc p) (VRep.keep ((Below.refl _ w3).alloc (Nat.le_refl _) p) tV1 _ hV3.out) (Reads.keep (reads_ab q0 q1 hcap hmax) ((Below.refl _ w3).alloc (Nat.le_refl _) p)) (by decide) hSz)
  rw [get_1] at hg1
  go_fit (hg1 _).out
  clear hg1
  rintro e w4 ⟨hb4, cs4, rfl, hV4⟩
  obtain ⟨a7, l7, c7, d7, i7, j7, rfl⟩ := seven_sl hV4
  clear hV4
  have hv4 : Row5 w4 w3.heap.size (.int .i64 6) (.int .i64 0) (.string ⟨#[]⟩) (.slice (some ⟨b, o, none⟩) 1 cn) (.slice (some ⟨b2, o2, none⟩) 1 ci) := row5_of ((hb4.block _ (by simp)).trans (heap_alloc_new _ _))
  have hB34 : Below w3.heap.size w3 w4 := below_box hb4
  have hs34 : w3.heap.size + 1 ≤ w4.heap.size := by have := hb4.size; simp at this; omega
  clear hb4
  simp only [five]
  have z0 := fun o => (hv4.alloc o).1.1; have z1 := fun o => (hv4.alloc o).2.1.1; have z2 := fun o => (hv4.alloc o).2.2.1.1; have z3 := fun o => (hv4.alloc o).2.2.2.1.1; have z4 := fun o => (hv4.alloc o).2.2.2.2.1
  go_wp2_with fail
  have hun : ∀ p, Hid _ := fun p => hid_of (unset_b 0 ⟨#[]⟩ b o cn b2 o2 ci 0 ⟨#[]⟩ b3 o3 cn3 b4 o4 ci4 k5 x5 t5 an5 ln5 cn5 ai5 li5 ci5 tA tB gp 0 cp tV1 seven (w4.alloc p) (cell_alloc' ((hB34.cell (cell_lt q0.out)).trans q0.out) p) (cell_alloc' ((hB34.cell (cell_lt q1.out)).trans q1.out) p) (cell_alloc' ((hB34.cell (cell_lt hs1.out)).trans hs1.out) p) (cell_alloc' ((hB34.cell (cell_lt hs2.out)).trans hs2.out) p) (fun j u hj => cell_alloc' ((hB34.cell (cell_lt (hC1.out j u hj))).trans (hC1.out j u hj)) p) (fun j u hj => cell_alloc' ((hB34.cell (cell_lt (hC2.out j u hj))).trans (hC2.out j u hj)) p) hcn hcn3 hci hci4 ⟨hcap, hmax⟩ (by decide) (VRep.keep (hB34.alloc hB34.size p) tV1 _ hV3.out) get_1)
  go_fit (hun _).out
  clear hun
  rintro e w5 ⟨hb5, cs5, rfl, hV5⟩
  obtain ⟨k6, x6, t6, an6, ln6, cn6, ai6, li6, ci6, h6⟩ := vrep_five hV5
  subst h6
  have hB35 : Below w3.heap.size w3 w5 := hB34.trans ((below_box hb5).mono hB34.size)
  have hv5 := hv4.below (below_box hb5)
  have hr5 : Row5 w5 w4.heap.size (.int .i64 3) (.int .i64 7) (.string ⟨#[]⟩) (.slice a7 l7 c7) (.slice d7 i7 j7) := row5_of ((hb5.block _ (by simp)).trans (heap_alloc_new _ _))
  have hs45 : w4.heap.size + 1 ≤ w5.heap.size := by have := hb5.size; simp at this; omega
  clear hb5 z0 z1 z2 z3 z4 hv4 hB34
  simp only [five]
  have hg2 : ∀ p, Hid _ := fun p => hid_of (get_any (.node 6 0 ⟨#[]⟩ [tA] [emptyObj]) _ (.slice (some ⟨gp, 0, none⟩) 2 cp) [tA, tB] (w5.alloc p) (VRep.keep ((Below.refl _ w5).alloc (Nat.le_refl _) p) _ _ hV5) (Reads.keep (reads_ab q0 q1 hcap hmax) (hB35.alloc hB35.size p)) (by decide) hSz)
  rw [get_2] at hg2
  clear hV5
  go_wp2_with fail
  go_fit (hg2 _).out
  clear hg2
  rintro e w6 ⟨hb6, rfl⟩
  have hB36 : Below w3.heap.size w3 w6 := hB35.trans ((below_box hb6).mono hB35.size)
  have hv6 := hv5.below (below_box hb6)
  have hr6 := hr5.below (below_box hb6)
  have hs56 : w5.heap.size + 1 ≤ w6.heap.size := by have := hb6.size; simp at this; omega
  clear hb6 hv5 hr5 hB35
  unfold zeroV
  go_wp2_with fail
  have hnn : ∀ W, Hid _ := fun W => hid_of (num_any 0 W)
  have z0 := fun o => (hv6.alloc o).1.1; have z1 := fun o => (hv6.alloc o).2.1.1; have z2 := fun o => (hv6.alloc o).2.2.1.1; have z3 := fun o => (hv6.alloc o).2.2.2.1.1; have z4 := fun o => (hv6.alloc o).2.2.2.2.1
  have y1 := fun o => (hr6.alloc o).2.1.1
  have hal : ∀ p, Hid _ := fun p => hid_of (all_b 0 ⟨#[]⟩ b o cn b2 o2 ci 0 ⟨#[]⟩ b3 o3 cn3 b4 o4 ci4 k5 x5 t5 an5 ln5 cn5 ai5 li5 ci5 tA tB gp 0 cp (w6.alloc p) (cell_alloc' ((hB36.cell (cell_lt q0.out)).trans q0.out) p) (cell_alloc' ((hB36.cell (cell_lt q1.out)).trans q1.out) p) (cell_alloc' ((hB36.cell (cell_lt hs1.out)).trans hs1.out) p) (cell_alloc' ((hB36.cell (cell_lt hs2.out)).trans hs2.out) p) (fun j u hj => cell_alloc' ((hB36.cell (cell_lt (hC1.out j u hj))).trans (hC1.out j u hj)) p) (fun j u hj => cell_alloc' ((hB36.cell (cell_lt (hC2.out j u hj))).trans (hC2.out j u hj)) p) hcn hcn3)
  go_fit (hnn _).out
  rintro e w7 ⟨rfl, hw7⟩
  subst hw7
  go_wp2_with fail
  go_fit (hnn _).out
  rintro e w7 ⟨rfl, hw7⟩
  subst hw7
  clear hnn
  go_wp2_with fail
  go_fit (hal _).out
  clear hal
  rintro e w7 ⟨hb7, g7, cap7, rfl⟩
  have hB37 : Below w3.heap.size w3 w7 := hB36.trans ((below_box hb7).mono hB36.size)
  clear hb7 z0 z1 z2 z3 z4 y1 hv6 hr6
  have r0 := (hB37.cell (cell_lt q0.out)).trans q0.out
  have r1 := (hB37.cell (cell_lt q1.out)).trans q1.out
  replace r0 := hid_of r0
  replace r1 := hid_of r1
  have hcp1 : (1 : Int) ≤ (cp : Int) := by simp at hcap; omega
  have hcp2 : 1 ≤ cp := by simp at hcap; omega
  have hcl1 := hid_of (clash_any 2 cp 1 cp gp 0 gp 0 [tA, tB] [tA] 1 (by decide) hcap (by simp at hcap; omega) (by decide) (by decide) (by decide) w7 (cells_ab r0 r1) (cells_a r0))
  go_wp2_with fail
  go_fit hcl1.out
  clear hcl1
  rintro e w8 ⟨rfl, k8, hw8⟩
  subst hw8
  have hcl2 : ∀ q, Hid _ := fun q => hid_of (clash_any 2 cp 1 1 gp 0 w7.heap.size 0 [tA, tB] [tB] 1 (by decide) hcap (by decide) (by decide) (by decide) (by decide) ((w7.drewN q).alloc (.cells #[.string ⟨#[98]⟩] 9)) (cells_ab (hid_of (cell_alloc' (W := w7.drewN q) r0.out _)) (hid_of (cell_alloc' (W := w7.drewN q) r1.out _))) (new_b _ _))
  go_wp2_with fail
  go_fit (hcl2 _).out
  clear hcl2
  rintro e w9 ⟨rfl, k9, hw9⟩
  subst hw9
  go_wp2_with fail
  go_ret
  refine ⟨congrArg (fun b => Ending.returned (.bool b)) tab, ?_⟩
  have hB7 := hB3.trans (hB37.mono hB3.size)
  exact below_drewN ((below_drewN hB7 k8).alloc hB7.size _) k9
end Go.Proofs.Ytbhjbicbgmeboaa
