import Derived.Test.YtdfkfnhppjhghaaGreatQ11
/-! live; the law FilterNil. -/
namespace Go.Proofs.YtdfkfnhppjhghaaGreat
open Go Go.RowKit

theorem num_zero (w : World) : Calls Tryz.prog 22 #[.int .i64 0] w fun e w' => e = .returned (.int .i64 0) ∧ w' = w := by
  go_enter Tryz.func22, Tryz.ntmps22
  go_wp2
  go_ret
  exact ⟨rfl, rfl⟩
theorem obj_num (x : Int) (w : World) : Calls Tryz.prog 17 #[.string nameA, numV x] w fun e w' => Below w.heap.size w w' ∧ ∃ bn bi, e = .returned (objV bn 1 bi 1) ∧ DocAt w' bn bi x := by
  refine (object_any nameA 3 x ⟨#[]⟩ none 0 0 none 0 0 w).mono ?_
  rintro e w' ⟨hb, bn, bi, rfl, _, _, h1, h2⟩
  exact ⟨hb, bn, bi, rfl, h1, h2⟩
set_option maxHeartbeats 2000000 in
set_option maxRecDepth 100000 in
theorem live_true (w : World) : Calls Tryz.prog 9 #[] w fun e w' => e = .returned (.bool true) ∧ Below w.heap.size w w' := by
  go_enter Tryz.func9, Tryz.ntmps9
  go_wp2_with fail
  refine (number_any 4 w).mono ?_
  rintro e w1 ⟨rfl, HB⟩
  unfold numV
  go_wp2_with fail
  refine (object_any dollarGt 3 4 ⟨#[]⟩ none 0 0 none 0 0 w1).mono ?_
  rintro e w2 ⟨hb2, n1, i1, rfl, _, _, hn1, hi1⟩
  replace HB := HB.trans (hb2.mono HB.size)
  clear hb2
  unfold objV
  go_wp2_with fail
  refine (object_any nameA 6 0 ⟨#[]⟩ (some ⟨n1, 0, none⟩) 1 1 (some ⟨i1, 0, none⟩) 1 1 w2).mono ?_
  rintro e w3 ⟨hb3, n2, i2, rfl, _, _, hn2, hi2⟩
  replace HB := HB.trans (hb3.mono HB.size)
  have hn13 := stay hb3 hn1
  have hi13 : NumAt w3 i1 0 4 := FiveAt.keep hi1 hb3
  have hp := hid_of (parse_gt n2 1 i2 1 n1 i1 w3 hn2 hi2 hn13 hi13)
  clear hb3 hn1 hi1 hn2 hi2 hn13 hi13
  unfold objV at *
  go_wp2_with fail
  refine hp.out.mono ?_
  rintro e w4 ⟨hb4, bf, rfl, hF⟩
  replace HB := HB.trans (hb4.mono HB.size)
  replace hF := hid_of hF
  clear hb4 hp
  go_wp2_with fail
  refine (num_zero _).mono ?_
  rintro e w' ⟨rfl, rfl⟩
  go_wp2_with fail
  refine (number_any 5 _).mono ?_
  rintro e w5 ⟨rfl, hb5⟩
  replace HB := HB.trans (hb5.mono HB.size)
  replace hF := hid_of (hF.out.keep hb5)
  clear hb5
  have ho := hid_of (obj_num 5 w5)
  unfold numV at *
  go_wp2_with fail
  refine ho.out.mono ?_
  rintro e w6 ⟨hb6, bn, bi, rfl, hD⟩
  replace HB := HB.trans (hb6.mono HB.size)
  replace hF := hid_of (hF.out.keep hb6)
  have hM := hid_of (match_any 5 (.inr rfl) bf bn 1 bi 1 w6 hF.out hD)
  clear hb6 hD ho
  unfold objV at *
  go_wp2_with fail
  refine hM.out.mono ?_
  rintro e w7 ⟨rfl, hb7⟩
  replace HB := HB.trans (hb7.mono HB.size)
  replace hF := hid_of (hF.out.keep hb7)
  clear hb7 hM
  have e5 : decide (0 < cmpZ 5) = true := by decide
  rw [e5]
  go_wp2_with fail
  refine (number_any 4 _).mono ?_
  rintro e w8 ⟨rfl, hb8⟩
  replace HB := HB.trans (hb8.mono HB.size)
  replace hF := hid_of (hF.out.keep hb8)
  clear hb8
  have ho := hid_of (obj_num 4 w8)
  unfold numV at *
  go_wp2_with fail
  refine ho.out.mono ?_
  rintro e w9 ⟨hb9, cn, ci, rfl, hD⟩
  replace HB := HB.trans (hb9.mono HB.size)
  replace hF := hid_of (hF.out.keep hb9)
  have hM := hid_of (match_any 4 (.inl rfl) bf cn 1 ci 1 w9 hF.out hD)
  clear hb9 hD ho
  unfold objV at *
  go_wp2_with fail
  refine hM.out.mono ?_
  rintro e w10 ⟨rfl, hb10⟩
  replace HB := HB.trans (hb10.mono HB.size)
  replace hF := hid_of (hF.out.keep hb10)
  clear hb10 hM
  have e4 : decide (0 < cmpZ 4) = false := by decide
  rw [e4]
  have ht := hid_of (terms_any bf w10 hF.out)
  go_wp2_with fail
  refine ht.out.mono ?_
  rintro e w' ⟨rfl, rfl⟩
  go_wp2_with fail
  go_ret
  exact ⟨rfl, HB⟩
theorem match_nil (x : Int) (w : World) : Calls Tryz.prog 10 #[.pointer none, numV x] w fun e w' => e = .returned (.bool true) ∧ Below w.heap.size w w' := by
  unfold numV
  go_enter Tryz.func10, Tryz.ntmps10
  go_wp2_with fail
  go_region
  all_goals
    go_wp2_with fail
    go_ret
    exact ⟨rfl, below_drew ((Below.refl _ w).alloc (Nat.le_refl _) _)⟩
set_option maxHeartbeats 1000000 in
set_option maxRecDepth 100000 in
theorem nil_true (w : World) : Calls Tryz.prog 3 #[] w fun e w' => e = .returned (.bool true) ∧ Below w.heap.size w w' := by
  go_enter Tryz.func3, Tryz.ntmps3
  go_wp2_with fail
  refine (live_true w).mono ?_
  rintro e w1 ⟨rfl, HB⟩
  go_wp2_with fail
  refine (number_any 1 w1).mono ?_
  rintro e w2 ⟨rfl, hb2⟩
  replace HB := HB.trans (hb2.mono HB.size)
  clear hb2
  have hm := hid_of (match_nil 1 w2)
  unfold numV at *
  go_wp2_with fail
  refine hm.out.mono ?_
  rintro e w3 ⟨rfl, hb3⟩
  replace HB := HB.trans (hb3.mono HB.size)
  clear hb3 hm
  go_wp2
  go_ret
  exact ⟨rfl, HB⟩
end Go.Proofs.YtdfkfnhppjhghaaGreat
