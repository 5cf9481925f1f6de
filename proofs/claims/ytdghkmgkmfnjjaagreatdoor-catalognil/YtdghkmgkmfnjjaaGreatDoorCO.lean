import Derived.Test.YtdghkmgkmfnjjaaGreatDoorCN
/-! One collection, its index, its documents. -/
namespace Go.Proofs.YtdghkmgkmfnjjaaGreatDoor
open Go Go.RowKit Go.Maps

set_option maxHeartbeats 8000000 in
set_option maxRecDepth 100000 in
theorem live_any (w : World) : Calls Tryz.prog 9 #[] w fun e w' => e = .returned (.bool true) ∧ Below w.heap.size w w' := by
  have hnum := fun e W => hid_of (num17 e W)
  have hnw := hid_of (new_cat w)
  go_enter Tryz.func9, Tryz.ntmps9
  go_wp2_with fail
  refine hnw.out.mono ?_
  rintro e X1 ⟨rfl, hC, hB1⟩
  have hcr := hid_of (create_c _ X1 hC)
  replace hB1 := hid_of hB1
  clear hnw hC
  go_wp2_with fail
  refine hcr.out.mono ?_
  rintro e X2 ⟨cb, kb, rfl, hC, hK, hb⟩
  replace hB1 := hid_of (hB1.out.trans (hb.mono hB1.out.size))
  have hix := hid_of (index_c cb kb X2 hC hK)
  clear hcr hC hK hb
  go_wp2_with fail
  refine (hnum _ _).out.mono ?_
  rintro e Z ⟨rfl, hZ⟩
  obtain rfl : X2 = Z := hZ.symm
  clear hZ
  go_wp2_with fail
  refine hix.out.mono ?_
  rintro e X3 ⟨cb2, kb2, xb, rfl, hC, hK, hX, hb⟩
  replace hB1 := hid_of (hB1.out.trans (hb.mono hB1.out.size))
  replace hC := hid_of hC
  replace hK := hid_of hK
  replace hX := hid_of hX
  clear hix hb
  go_wp2_with fail
  refine (hnum _ _).out.mono ?_
  rintro e Z ⟨rfl, hZ⟩
  obtain rfl : X3 = Z := hZ.symm
  clear hZ
  go_wp2_with fail
  refine (item_any ⟨#[98]⟩ 5 _).mono ?_
  rintro e X4 ⟨hX4, bn, bi, rfl, hn1, hI1⟩
  replace hX4 := hid_of hX4
  replace hn1 := hid_of hn1
  replace hI1 := hid_of hI1
  go_wp2_with fail
  refine (item_any ⟨#[97]⟩ 7 _).mono ?_
  rintro e X5 ⟨hX5, bn', bi', rfl, hn2, hI2⟩
  have hb5 := hX4.out.trans (hX5.mono hX4.out.size)
  have hA := (Below.refl _ X5).alloc (Nat.le_refl _) (nowC bn bi bn' bi')
  have hb6 := hb5.trans (hA.mono hb5.size)
  have hb7 := hX5.trans (hA.mono hX5.size)
  have hcm := hid_of (commit_ok cb2 kb2 xb X5.heap.size bn bi bn' bi' _ (hC.out.keep hb6) (hK.out.keep hb6) (hX.out.keep hb6) (heap_alloc_new X5 _) (stay hb7 hn1.out) (hI1.out.keep hb7) (stay hA hn2) (hI2.keep hA))
  replace hB1 := hid_of (hB1.out.trans (hb6.mono hB1.out.size))
  unfold nowC at hcm hB1
  clear hX4 hX5 hn1 hn2 hI1 hI2 hb5 hA hb6 hb7 hC hK hX
  go_wp2_with fail
  refine hcm.out.mono ?_
  rintro e X6 ⟨cb3, kb3, yb, rfl, hC, hK, hY, hb⟩
  replace hB1 := hid_of (hB1.out.trans (hb.mono hB1.out.size))
  replace hC := hid_of hC
  replace hK := hid_of hK
  replace hY := hid_of hY
  clear hcm hb
  go_wp2_with fail
  refine (hnum _ _).out.mono ?_
  rintro e Z ⟨rfl, hZ⟩
  obtain rfl : X6 = Z := hZ.symm
  clear hZ
  have hA := (Below.refl _ X6).alloc (Nat.le_refl _) (.cells #[.string nameA, .int .i64 1, .int .i64 3, .int .i64 7, .string ⟨#[]⟩, .slice none 0 0, .slice none 0 0] 70)
  have hch := hid_of (choose_c cb3 kb3 yb X6.heap.size 1 _ (hC.out.keep hA) (hK.out.keep hA) (hY.out.keep hA) (heap_alloc_new X6 _))
  replace hA := hid_of hA
  go_wp2_with fail
  refine hch.out.mono ?_
  rintro e X7 ⟨g, c, rfl, hT, hb⟩
  have hb7 := hA.out.trans (hb.mono hA.out.size)
  replace hB1 := hid_of (hB1.out.trans (hb7.mono hB1.out.size))
  replace hC := hid_of (hC.out.keep hb7)
  replace hK := hid_of (hK.out.keep hb7)
  replace hY := hid_of (hY.out.keep hb7)
  replace hT := hid_of hT
  clear hch hA hb hb7
  go_wp2_with fail
  refine (item_any ⟨#[120]⟩ 1 _).mono ?_
  rintro e X8 ⟨hX8, bn, bi, rfl, -, -⟩
  have hA := (Below.refl _ X8).alloc (Nat.le_refl _) (oneC bn bi)
  have hb8 := hX8.trans (hA.mono hX8.size)
  have hno := hid_of (commit_no cb3 kb3 yb X8.heap.size bn bi _ (hC.out.keep hb8) (hK.out.keep hb8) (heap_alloc_new X8 _))
  replace hB1 := hid_of (hB1.out.trans (hb8.mono hB1.out.size))
  replace hC := hid_of (hC.out.keep hb8)
  replace hK := hid_of (hK.out.keep hb8)
  replace hY := hid_of (hY.out.keep hb8)
  replace hT : Hid (T1 (X8.alloc (oneC bn bi)) g) := stay hb8 hT.out
  unfold oneC at hno hB1 hC hK hY hT
  clear hX8 hA hb8
  go_wp2_with fail
  refine hno.out.mono ?_
  rintro e X9 ⟨rfl, hb⟩
  replace hB1 := hid_of (hB1.out.trans (hb.mono hB1.out.size))
  have hco := hid_of (coll_c cb3 kb3 yb X9 (hC.out.keep hb) (hK.out.keep hb) (hY.out.keep hb))
  replace hT : Hid (T1 X9 g) := stay hb hT.out
  unfold collC at hco
  clear hno hb hC hK hY
  go_wp2_with fail
  refine hco.out.mono ?_
  rintro e X10 ⟨sp, sc, rfl, hb⟩
  replace hB1 := hid_of (hB1.out.trans (hb.mono hB1.out.size))
  have hT10 : T1 X10 g := stay hb hT.out
  clear hco hb hT
  have hA := (Below.refl _ X10).alloc (Nat.le_refl _) (.cells #[.string nameC, .int .i64 2, .int .i64 2, .int .i64 0, .int .i64 0, .string ⟨#[]⟩, .slice none 0 0, .slice none 0 0, .int .i64 0, .int .i64 0, .slice sp 1 sc] 39)
  have k1 := (cells_at (heap_alloc_new X10 (.cells #[.string nameC, .int .i64 2, .int .i64 2, .int .i64 0, .int .i64 0, .string ⟨#[]⟩, .slice none 0 0, .slice none 0 0, .int .i64 0, .int .i64 0, .slice sp 1 sc] 39)) 1).1
  simp only [List.getElem?_toArray, List.getElem?_cons_zero, List.getElem?_cons_succ] at k1
  have hA2 := hA.alloc hA.size (.cells #[.string ⟨#[97]⟩] 9)
  have ht := hid_of (texts1 g c (X10.heap.size + 1) 1 ⟨#[97]⟩ ((X10.alloc (.cells #[.string nameC, .int .i64 2, .int .i64 2, .int .i64 0, .int .i64 0, .string ⟨#[]⟩, .slice none 0 0, .slice none 0 0, .int .i64 0, .int .i64 0, .slice sp 1 sc] 39)).alloc (.cells #[.string ⟨#[97]⟩] 9)) (stay hA2 hT10) (cell_of_one (new2 X10 _ _)))
  have k2 := cell_alloc' k1 (.cells #[.string ⟨#[97]⟩] 9)
  replace hB1 := hid_of (hB1.out.trans (hA2.mono hB1.out.size))
  clear hA hA2 hT10
  go_wp2_with fail
  refine ht.out.mono ?_
  rintro e X11 ⟨rfl, hb⟩
  have k3 := stay hb k2
  replace hB1 := hid_of (hB1.out.trans (hb.mono hB1.out.size))
  clear ht hb k1 k2
  go_wp2_with fail
  refine (hnum _ _).out.mono ?_
  rintro e Z ⟨rfl, hZ⟩
  obtain rfl : X11 = Z := hZ.symm
  clear hZ
  go_wp2_with fail
  go_ret
  exact ⟨rfl, hB1.out⟩
end Go.Proofs.YtdghkmgkmfnjjaaGreatDoor
