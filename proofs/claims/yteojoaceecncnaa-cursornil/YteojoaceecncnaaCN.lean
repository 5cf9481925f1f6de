import Derived.Test.YteojoaceecncnaaCM
/-! cursor: three documents in two pages. -/
namespace Go.Proofs.Yteojoaceecncnaa
open Go Go.RowKit

def kA : Nat → ByteArray
  | 0 => ⟨#[97]⟩
  | 1 => ⟨#[98]⟩
  | 2 => ⟨#[99]⟩
  | _ => ⟨#[]⟩
def nA : Nat → Int
  | 0 => 1
  | 1 => 2
  | 2 => 3
  | _ => 0
theorem turnedA : Turned kA := by
  refine ⟨by decide +kernel, by decide +kernel, by decide +kernel, fun i => ?_⟩
  rcases i with _ | _ | _ | i
  all_goals simp [kA, ByteArray.size]
def pg0 : Pg := ⟨0, 0, ⟨#[]⟩, []⟩
def pg1 : Pg := ⟨2, rankK ⟨#[98]⟩, ⟨#[98]⟩, []⟩
theorem runA0 : pg0.run kA 2 3 = ⟨2, rankK ⟨#[98]⟩, ⟨#[98]⟩, [2, 1]⟩ := by
  have h0 : ¬ cmpP (rankK (kA 2)) (kA 2) 0 ⟨#[]⟩ ≤ 0 := by decide +kernel
  have h1 : ¬ cmpP (rankK (kA 1)) (kA 1) (rankK (kA 2)) (kA 2) ≤ 0 := by decide +kernel
  simp [Pg.run, Pg.step, pg0, h0, h1]
  exact ⟨rfl, rfl⟩
theorem runA1 : pg1.run kA 2 3 = ⟨3, rankK ⟨#[97]⟩, ⟨#[97]⟩, [0]⟩ := by
  have h0 : cmpP (rankK (kA 2)) (kA 2) (rankK ⟨#[98]⟩) ⟨#[98]⟩ ≤ 0 := by decide +kernel
  have h1 : cmpP (rankK (kA 1)) (kA 1) (rankK ⟨#[98]⟩) ⟨#[98]⟩ ≤ 0 := by decide +kernel
  have h2 : ¬ cmpP (rankK (kA 0)) (kA 0) (rankK ⟨#[98]⟩) ⟨#[98]⟩ ≤ 0 := by decide +kernel
  simp [Pg.run, Pg.step, pg1, h0, h1, h2]
  exact ⟨rfl, rfl⟩
/-- The cells of the three items. -/
def csA : List Value := itCs (kA 0) (nA 0) ++ itCs (kA 1) (nA 1) ++ itCs (kA 2) (nA 2)
theorem its_of {w : World} {g : Nat} (h : ∀ j u, csA[j]? = some u → w.cell? ⟨g, j, none⟩ = some u) : ItsAt w g kA nA := fun i hi => by
  rcases i with _ | _ | _ | i
  · exact ⟨h 0 _ rfl, h 1 _ rfl, h 2 _ rfl, h 3 _ rfl, h 4 _ rfl, h 5 _ rfl, h 6 _ rfl⟩
  · exact ⟨h 7 _ rfl, h 8 _ rfl, h 9 _ rfl, h 10 _ rfl, h 11 _ rfl, h 12 _ rfl, h 13 _ rfl⟩
  · exact ⟨h 14 _ rfl, h 15 _ rfl, h 16 _ rfl, h 17 _ rfl, h 18 _ rfl, h 19 _ rfl, h 20 _ rfl⟩
  · omega
theorem raw_of {w : World} {b : Nat} (h : w.heap[b]? = some (.cells csA.toArray 50 (0, 0))) : RawAt w (some ⟨b, 0, none⟩) 3 csA :=
  ⟨rfl, fun j u hj => ⟨b, 0, rfl, by rw [Nat.zero_add, cell_of_row w b j _ _ _ h]; simpa using hj⟩, by simp [csA, itCs, Value.oneCell']⟩
theorem RawAt.frame {S : Nat → Prop} {w w' : World} {b n : Nat} {cs : List Value} (h : RawAt w (some ⟨b, 0, none⟩) n cs) (hf : Fr S w w') (hS : ¬ S b) : RawAt w' (some ⟨b, 0, none⟩) n cs :=
  ⟨h.len, fun j u hj => by
    obtain ⟨b', o, e, hc⟩ := h.at' j u hj
    cases e
    exact ⟨b, 0, rfl, hf.cell hc hS⟩, h.one⟩
set_option maxHeartbeats 8000000 in
set_option maxRecDepth 100000 in
theorem live_any (w : World) : Calls Try.prog 6 #[] w fun e w' => e = .returned (.bool true) ∧ Below w.heap.size w w' := by
  have hnw := hid_of (new2 w)
  have hnum := fun W => hid_of (num_any 0 W)
  go_enter Try.func6, Try.ntmps6
  go_wp2_with fail
  refine hnw.out.mono ?_
  rintro e X1 ⟨rfl, hB1, hC1⟩
  obtain ⟨cb, hcb⟩ : ∃ n, Hid (w.heap.size = n) := ⟨_, rfl⟩
  rw [hcb.out] at hC1 ⊢
  have hF1 := hid_of (Fr.of_below (S := fun b => b = cb) hB1)
  have hlc := hid_of (Array.getElem?_eq_some_iff.1 hC1).1
  replace hC1 := hid_of hC1
  clear hnw hB1
  go_wp2_with fail
  refine (hnum _).out.mono ?_
  rintro e Z ⟨rfl, hZ⟩
  obtain rfl : X1 = Z := hZ.symm
  clear hZ
  go_wp2_with fail
  refine (item_any ⟨#[97]⟩ 1 _).mono ?_
  rintro e X2 ⟨rfl, hX2⟩
  replace hX2 := hid_of hX2
  go_wp2_with fail
  refine (item_any ⟨#[98]⟩ 2 _).mono ?_
  rintro e X3 ⟨rfl, hX3⟩
  replace hX3 := hid_of hX3
  go_wp2_with fail
  refine (item_any ⟨#[99]⟩ 3 _).mono ?_
  rintro e X4 ⟨rfl, hX4⟩
  have hB4 := hX2.out.trans ((hX3.out.trans (hX4.mono hX3.out.size)).mono hX2.out.size)
  have hB5 := hid_of (hB4.alloc hB4.size (.cells csA.toArray 50))
  have hraw := hid_of (raw_of (heap_alloc_new X4 (.cells csA.toArray 50)))
  have hlb := hid_of (show cb < X4.heap.size from Nat.lt_of_lt_of_le hlc.out hB4.size)
  obtain ⟨X5, hX5⟩ : ∃ X5, Hid (X4.alloc (.cells csA.toArray 50) = X5) := ⟨_, rfl⟩
  rw [hX5.out] at hB5 hraw
  unfold csA itCs kA nA at hX5
  simp only [List.cons_append, List.nil_append] at hX5
  clear hX2 hX3 hX4 hB4
  go_upto_region 5 with (rw [hX5.out])
  obtain ⟨lb, hlbn⟩ : ∃ n, Hid (X4.heap.size = n) := ⟨_, rfl⟩
  rw [hlbn.out] at hraw hlb ⊢
  clear hX5 hlbn
  replace hC1 := hid_of (hC1.out.frame (Fr.of_below (S := fun _ => False) hB5.out) (fun h => h))
  replace hF1 := hid_of (hF1.out.trans (Fr.of_below hB5.out))
  have how := hid_of (own_any (some ⟨lb, 0, none⟩) 3 3 csA X5 hraw.out (by decide))
  clear hB5
  go_wp2_with fail
  refine how.out.mono ?_
  rintro e X6 ⟨hB6, g1, c1, rfl, hg1, hI1⟩
  have hC2 := hC1.out.frame (Fr.of_below (S := fun _ => False) hB6) (fun h => h)
  have hfr := hid_of (from3 g1 c1 cb 2 kA nA pg0 X6 turnedA (its_of hI1) (by decide) rfl hC2)
  rw [runA0] at hfr
  replace hraw := hid_of (hraw.out.frame (Fr.of_below (S := fun _ => False) hB6) (fun h => h))
  replace hF1 := hid_of (hF1.out.trans (Fr.of_below hB6))
  have hlc6 := hid_of (Array.getElem?_eq_some_iff.1 hC2).1
  clear hC2 hC1 how hI1 hB6 hg1 hlc
  go_wp2_with fail
  refine hfr.out.mono ?_
  rintro e X7 ⟨a1, cc1, rfl, hP1⟩
  have hC3 : CuAt X7 cb 2 2 (rankK ⟨#[98]⟩) ⟨#[98]⟩ false := hP1.cu
  obtain ⟨pb, po, rfl, hpb, d0⟩ := hP1.row.cell (j := 0) (u := .string ⟨#[99]⟩) rfl
  obtain ⟨pb', po', e', -, d1⟩ := hP1.row.cell (j := 7) (u := .string ⟨#[98]⟩) rfl
  cases e'
  replace hraw := hid_of (hraw.out.frame hP1.fr (by have := hlb.out; omega))
  replace hF1 := hid_of (hF1.out.trans hP1.fr)
  have hpc := hid_of (show ¬ pb = cb by have := hlc6.out; omega)
  replace hC3 := hid_of hC3
  replace d0 := hid_of d0
  replace d1 := hid_of d1
  have hcc1 := hid_of hP1.row.le
  have how := hid_of (own_any (some ⟨lb, 0, none⟩) 3 3 csA X7 hraw.out (by decide))
  clear hfr hP1 hlc6
  go_wp2_with fail
  refine how.out.mono ?_
  rintro e X8 ⟨hB8, g2, c2, rfl, hg2, hI2⟩
  have hC4 := hC3.out.frame (Fr.of_below (S := fun _ => False) hB8) (fun h => h)
  have hfr := hid_of (from3 g2 c2 cb 2 kA nA pg1 X8 turnedA (its_of hI2) (by decide) rfl hC4)
  rw [runA1] at hfr
  replace hF1 := hid_of (hF1.out.trans (Fr.of_below hB8))
  replace d0 := hid_of (stay hB8 d0.out)
  replace d1 := hid_of (stay hB8 d1.out)
  clear hC4 hC3 how hI2 hB8 hg2
  go_wp2_with fail
  refine hfr.out.mono ?_
  rintro e X9 ⟨a2, cc2, rfl, hP2⟩
  have hC5 : CuAt X9 cb 2 3 (rankK ⟨#[97]⟩) ⟨#[97]⟩ true := hP2.cu
  obtain ⟨qb, qo, rfl, hqb, d2⟩ := hP2.row.cell (j := 0) (u := .string ⟨#[97]⟩) rfl
  have d0' := hP2.fr.cell d0.out hpc.out
  have d1' := hP2.fr.cell d1.out hpc.out
  rw [Nat.add_zero] at d0' d2
  replace hF1 := hid_of ((hF1.out.trans hP2.fr).to_below (fun i e => by rw [e, hcb.out]; exact Nat.le_refl _))
  have hlk := hid_of (looked_any cb 2 3 (rankK ⟨#[97]⟩) ⟨#[97]⟩ true X9 hC5)
  clear hfr hP2 d0 d1 hC5 hraw hcb
  go_wp2_with fail
  refine hlk.out.mono ?_
  rintro e Z ⟨rfl, hZ⟩
  obtain rfl : X9 = Z := hZ.symm
  clear hZ hlk
  go_wp2_with fail
  go_ret
  exact ⟨rfl, hF1.out⟩
end Go.Proofs.Yteojoaceecncnaa
