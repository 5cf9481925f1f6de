import Derived.Test.YtnlljodmkacmlaaGreatDoorJU
/-! Ids of two needs over two entries. -/
namespace Go.Proofs.YtnlljodmkacmlaaGreatDoor
open Go Go.RowKit

def T1 (W : World) (g : Nat) : Prop := W.cell? ⟨g, 0, none⟩ = some (.string ⟨#[97]⟩)
def T2 (W : World) (g : Nat) : Prop := W.cell? ⟨g, 0, none⟩ = some (.string ⟨#[97]⟩) ∧ W.cell? ⟨g, 1, none⟩ = some (.string ⟨#[98]⟩)
theorem ids_gte (lo yb e1 e2 : Nat) (nm pt : ByteArray) (pv : Value) (w : World) (hX : Ix2 w lo yb nm pt pv e1 e2 5 7 ⟨#[98]⟩ ⟨#[97]⟩) :
    Calls Tryz.prog 13 #[.pointer (some ⟨yb, 0, none⟩), .int .i64 3, .agg #[.int .i64 3, .int .i64 6, .string ⟨#[]⟩, .slice none 0 0, .slice none 0 0]] w fun e w' => ∃ g c, e = .returned (.slice (some ⟨g, 0, none⟩) 1 c) ∧ Below w.heap.size w w' ∧ T1 w' g := by
  refine ids_any 3 1 1 rfl T1 lo yb e1 e2 5 7 6 _ _ nm pt pv w (by decide) hX (.inr rfl) (fun W hW => reaches_3 lo yb e1 e2 5 7 6 1 _ _ nm pt pv W (hX.keep hW) (by decide)) (fun W g c h => ?_) (fun W g c _ => compactT1 g c W) (fun W W' g h hk => ?_)
  · refine (sortT1 g c W).mono ?_
    rintro e W' ⟨rfl, rfl⟩
    exact ⟨rfl, ⟨rfl, rfl, rfl, Nat.le_refl _, fun _ _ _ => rfl⟩, (h 0).1⟩
  · exact (World.cell?_of_block (w := W) (a := ⟨g, 0, none⟩) (hk (lt_of_cell (p := ⟨g, 0, none⟩) h))).trans h
theorem ids_gt (lo yb e1 e2 : Nat) (nm pt : ByteArray) (pv : Value) (w : World) (hX : Ix2 w lo yb nm pt pv e1 e2 5 7 ⟨#[98]⟩ ⟨#[97]⟩) :
    Calls Tryz.prog 13 #[.pointer (some ⟨yb, 0, none⟩), .int .i64 2, .agg #[.int .i64 3, .int .i64 0, .string ⟨#[]⟩, .slice none 0 0, .slice none 0 0]] w fun e w' => ∃ g c, e = .returned (.slice (some ⟨g, 0, none⟩) 2 c) ∧ Below w.heap.size w w' ∧ T2 w' g := by
  refine ids_any 2 0 2 rfl T2 lo yb e1 e2 5 7 0 _ _ nm pt pv w (by decide) hX (.inl rfl) (fun W hW => reaches_2 lo yb e1 e2 5 7 0 0 _ _ nm pt pv W (hX.keep hW) (by decide)) (fun W g c h => ?_) (fun W g c h => compactT2 g c W h.1 h.2) (fun W W' g h hk => ?_)
  · refine (sortT2 g c W ⟨(h 0).1, (h 1).1, (h 0).2, (h 1).2⟩).mono ?_
    rintro e W' ⟨rfl, h1, h2, h3⟩
    exact ⟨rfl, h1, h2, h3⟩
  · have hb := hk (lt_of_cell (p := ⟨g, 0, none⟩) h.1)
    exact ⟨(World.cell?_of_block (w := W) (a := ⟨g, 0, none⟩) hb).trans h.1, (World.cell?_of_block (w := W) (a := ⟨g, 1, none⟩) hb).trans h.2⟩
end Go.Proofs.YtnlljodmkacmlaaGreatDoor
/-! Two documents in an index. -/
namespace Go.Proofs.YtnlljodmkacmlaaGreatDoor
open Go Go.RowKit

theorem ownsRow_form {w : World} {lo : Nat} {e : TypeId} {size n : Nat} {v : Value} {xs : List Value} (h : w.ownsRow lo e size v n xs) : ∃ (a : Option Addr) (cap : Nat), v = .slice a n cap ∧ n ≤ cap ∧ cap ≤ maxLen ∧ (0 < n → ∃ g, a = some ⟨g, 0, none⟩) := by
  obtain ⟨h1, h2⟩ := h
  rcases h2 with ⟨hv, h0⟩ | ⟨g', cap', cur, hv, hg, hh, hc, hm, hs, hr⟩
  · subst h0
    exact ⟨none, 0, hv, by omega, by unfold maxLen; omega, fun h => by omega⟩
  · exact ⟨_, cap', hv, hc, hm, fun _ => ⟨g', rfl⟩⟩
theorem name_n : nameOk ⟨#[110]⟩ = true := by decide +kernel
theorem path_t : parseR ⟨#[116]⟩ 0 [] = ([nameA], 0, (parseR ⟨#[116]⟩ 0 []).2.2) := by decide +kernel
theorem new_nt (w : World) : Calls Tryz.prog 15 #[.agg #[.string ⟨#[110]⟩, .string ⟨#[116]⟩, .bool false]] w fun e w' => Below w.heap.size w w' ∧ ∃ xb bp cp, e = .returned (.tuple #[.pointer (some ⟨xb, 0, none⟩), .int .i64 0]) ∧ IxAt w' xb ⟨#[110]⟩ ⟨#[116]⟩ false (.slice (some ⟨bp, 0, none⟩) 1 cp) (.slice none 0 0) (.slice none 0 0) ∧ w'.cell? ⟨bp, 0, none⟩ = some (.string nameA) := by
  refine (new_any ⟨#[110]⟩ ⟨#[116]⟩ false (by decide) (by decide) w).mono ?_
  rintro e w' ⟨hB, h | h | h⟩
  · rw [name_n] at h; cases h.1
  · exact absurd (by rw [path_t]) h.2.1
  · obtain ⟨-, -, xb, pv, he, hI, hR⟩ := h
    rw [path_t] at hR
    obtain ⟨a, c, rfl, -, -, hg⟩ := ownsRow_form hR
    obtain ⟨g, rfl⟩ := hg (by decide)
    exact ⟨hB, xb, g, c, he, hI, hR.cellAt 0 (by decide)⟩
set_option maxHeartbeats 8000000 in
set_option maxRecDepth 100000 in
theorem live_any (w : World) : Calls Tryz.prog 7 #[] w fun e w' => e = .returned (.bool true) ∧ Below w.heap.size w w' := by
  have hnw := hid_of (new_nt w)
  have hnum := fun W => hid_of (num17 0 W)
  go_enter Tryz.func7, Tryz.ntmps7
  go_wp2_with fail
  refine hnw.out.mono ?_
  rintro e X1 ⟨hB1, xb, bp, cp, rfl, hI, hp⟩
  replace hB1 := hid_of hB1
  replace hI := hid_of hI
  replace hp := hid_of hp
  clear hnw
  go_wp2_with fail
  refine (hnum _).out.mono ?_
  rintro e Z ⟨rfl, hZ⟩
  obtain rfl : X1 = Z := hZ.symm
  clear hZ
  go_wp2_with fail
  refine (item_any ⟨#[98]⟩ 5 _).mono ?_
  rintro e X2 ⟨hX2, bn, bi, rfl, hn1, hI1⟩
  replace hX2 := hid_of hX2
  replace hn1 := hid_of hn1
  replace hI1 := hid_of hI1
  go_wp2_with fail
  refine (item_any ⟨#[97]⟩ 7 _).mono ?_
  rintro e X3 ⟨hX3, bn', bi', rfl, hn2, hI2⟩
  have hB3 := hX2.out.trans (hX3.mono hX2.out.size)
  have hA := (Below.refl _ X3).alloc (Nat.le_refl _) (nowC bn bi bn' bi')
  have hB4 := hB3.trans (hA.mono hB3.size)
  have hch := hid_of (change2 xb X3.heap.size bn bi bn' bi' bp cp ⟨#[110]⟩ ⟨#[116]⟩ _ (hI.out.keep hB4) (stay hB4 hp.out) (heap_alloc_new X3 _) (stay (hX3.trans (hA.mono hX3.size)) hn1.out) (hI1.out.keep (hX3.trans (hA.mono hX3.size))) (stay hA hn2) (hI2.keep hA))
  have hI4 := hid_of (hI.out.keep hB4)
  have hB5 := hid_of (hB1.out.trans (hB4.mono hB1.out.size))
  unfold nowC at hch hI4 hB5
  clear hX2 hX3 hn1 hn2 hI1 hI2 hI hp hB1 hB3 hA hB4
  go_wp2_with fail
  refine hch.out.mono ?_
  rintro e X5 ⟨hB6, yb, e1, e2, rfl, hY⟩
  have hB7 := hid_of (hB5.out.trans (hB6.mono hB5.out.size))
  have hI5 := hid_of (hI4.out.keep hB6)
  replace hY := hid_of hY
  obtain ⟨ge, ce, kv, hY1, -⟩ := hY.out
  have hs1 := hid_of (size_any yb _ _ _ _ _ _ 2 _ X5 hY1)
  have hs0 := hid_of (size_any xb _ _ _ _ _ _ 0 _ X5 hI5.out)
  clear hch hB5 hI4 hB6 hY1
  go_wp2_with fail
  refine (hnum _).out.mono ?_
  rintro e Z ⟨rfl, hZ⟩
  obtain rfl : X5 = Z := hZ.symm
  clear hZ
  go_wp2_with fail
  refine hs1.out.mono ?_
  rintro e Z ⟨rfl, hZ⟩
  obtain rfl : X5 = Z := hZ.symm
  clear hZ
  go_wp2_with fail
  refine hs0.out.mono ?_
  rintro e Z ⟨rfl, hZ⟩
  obtain rfl : X5 = Z := hZ.symm
  clear hZ hs1 hs0
  go_wp2_with fail
  refine (ids_gte _ yb e1 e2 _ _ _ X5 hY.out).mono ?_
  rintro e X6 ⟨g1, c1, rfl, hB8, hT1⟩
  have hA6 := (Below.refl _ X6).alloc (Nat.le_refl _) (.cells #[.string ⟨#[97]⟩] 9)
  have ht := hid_of (texts1 g1 c1 X6.heap.size 1 ⟨#[97]⟩ _ (stay hA6 hT1) (cell_of_one (heap_alloc_new X6 (.cells #[.string ⟨#[97]⟩] 9))))
  have hB9 := hid_of (hB8.trans (hA6.mono hB8.size))
  clear hB8 hT1 hA6
  go_wp2_with fail
  refine ht.out.mono ?_
  rintro e X7 ⟨rfl, hX7⟩
  have hB10 := hB9.out.trans (hX7.mono hB9.out.size)
  replace hY := hid_of (hY.out.keep hB10)
  replace hB7 := hid_of (hB7.out.trans (hB10.mono hB7.out.size))
  clear ht hB9 hX7 hB10
  go_wp2_with fail
  refine (ids_gt _ yb e1 e2 _ _ _ X7 hY.out).mono ?_
  rintro e X8 ⟨g2, c2, rfl, hB11, hT2⟩
  have hA8 := (Below.refl _ X8).alloc (Nat.le_refl _) (.cells #[.string ⟨#[97]⟩, .string ⟨#[98]⟩] 9)
  have hnew := heap_alloc_new X8 (.cells #[.string ⟨#[97]⟩, .string ⟨#[98]⟩] 9)
  have ht := hid_of (texts2 g2 c2 X8.heap.size 2 ⟨#[97]⟩ ⟨#[98]⟩ _ (stay hA8 hT2.1) (stay hA8 hT2.2) ((row14 hnew 0).trans rfl) ((row14 hnew 1).trans rfl))
  have hB12 := hB11.trans (hA8.mono hB11.size)
  replace hB7 := hid_of (hB7.out.trans (hB12.mono hB7.out.size))
  clear hB11 hT2 hA8 hnew hB12 hY
  go_wp2_with fail
  refine ht.out.mono ?_
  rintro e X9 ⟨rfl, hX9⟩
  replace hB7 := hid_of (hB7.out.trans (hX9.mono hB7.out.size))
  clear ht hX9
  go_wp2_with fail
  go_ret
  exact ⟨rfl, hB7.out⟩
end Go.Proofs.YtnlljodmkacmlaaGreatDoor
