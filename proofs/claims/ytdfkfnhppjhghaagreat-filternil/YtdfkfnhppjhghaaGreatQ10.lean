import Derived.Test.YtdfkfnhppjhghaaGreatQ9
/-! A clause {"a": {"$gt": 4}} read. -/
namespace Go.Proofs.YtdfkfnhppjhghaaGreat
open Go Go.RowKit

theorem dollar_a (w : World) : Calls Tryz.prog 101 #[.string nameA] w fun e w' => e = .returned (.bool false) ∧ w' = w := by
  have he : (((⟨#[97]⟩ : ByteArray).extract 0 1).toList == [36]) = false := by decide +kernel
  unfold nameA
  go_enter Tryz.func101, Tryz.ntmps101
  go_wp2
  go_ret
  exact ⟨rfl, rfl⟩
theorem dollar_gt (w : World) : Calls Tryz.prog 101 #[.string dollarGt] w fun e w' => e = .returned (.bool true) ∧ w' = w := by
  have he : (((⟨#[36, 103, 116]⟩ : ByteArray).extract 0 1).toList == [36]) = true := by decide +kernel
  unfold dollarGt
  go_enter Tryz.func101, Tryz.ntmps101
  go_wp2
  go_ret
  exact ⟨rfl, rfl⟩
set_option maxHeartbeats 1000000 in
set_option maxRecDepth 100000 in
theorem firstName_gt (bn cn bi ci : Nat) (w : World) (h : w.cell? ⟨bn, 0, none⟩ = some (.string dollarGt)) : Calls Tryz.prog 100 #[objV bn cn bi ci] w fun e w' => e = .returned (.string dollarGt) ∧ Below w.heap.size w w' := by
  have HB : Below w.heap.size w (w.alloc (objC bn cn bi ci)) := (Below.refl _ w).alloc (Nat.le_refl _) _
  have n0 := heap_alloc_new w (objC bn cn bi ci)
  have hmem := hid_of (members_one bn cn bi ci (w.alloc (objC bn cn bi ci)))
  have hd := stay HB h
  clear h
  unfold objC at HB n0 hmem hd
  unfold objV at *
  go_enter Tryz.func100, Tryz.ntmps100
  go_wp2_with fail
  generalize w.alloc (.cells #[.int .i64 6, .int .i64 0, .string ⟨#[]⟩, .slice (some ⟨bn, 0, none⟩) 1 cn, .slice (some ⟨bi, 0, none⟩) 1 ci] 28) = X0 at HB n0 hmem hd
  refine hmem.out.mono ?_
  rintro e X1 ⟨rfl, hb1⟩
  obtain ⟨-, -, -, y3, -, -⟩ := row_cells (block_keep n0 hb1)
  have hd1 := stay hb1 hd
  clear hd n0 hmem
  go_wp2_with fail
  go_ret
  exact ⟨rfl, HB.trans (hb1.mono HB.size)⟩
theorem parsed_a : parseR nameA 0 [] = ([nameA], 0, 0) := by
  have hn : next nameA 0 = 1 := by decide +kernel
  have := parseR_end (T := nameA) (n := 0) (l := []) (by decide) (by decide) (by rw [hn]; decide +kernel) (by rw [hn]; decide)
  rw [this, hn]
  rfl
/-- What place answers. -/
def PlacePost (w : World) (br m : Nat) (e : Ending) (w' : World) : Prop :=
  w.grownBy w' (some br) ∧ ReaderAt w' br m 1 ∧ ∃ bp cp bt ct, e = .returned (.tuple #[placeV bp cp bt ct, .int .i64 0]) ∧ PlaceAt w' bp bt
set_option maxHeartbeats 2000000 in
set_option maxRecDepth 100000 in
theorem place_gt (br m b1 b2 bn cn bi ci : Nat) (w : World) (hR : ReaderAt w br m 0) (hT : Table w m b1 b2) (hm : m ≠ br) (h1 : b1 ≠ br) (h2 : b2 ≠ br) (hn : w.cell? ⟨bn, 0, none⟩ = some (.string dollarGt)) (hI : NumAt w bi 0 4) (hnb : bn ≠ br) (hib : bi ≠ br) :
    Calls Tryz.prog 106 #[.pointer (some ⟨br, 0, none⟩), .string nameA, objV bn cn bi ci, .int .i64 0] w (PlacePost w br m) := by
  have hbr0 := (Array.getElem?_eq_some_iff.1 hR).1
  have HB : Below w.heap.size w (w.alloc (objC bn cn bi ci)) := (Below.refl _ w).alloc (Nat.le_refl _) _
  have n0 := heap_alloc_new w (objC bn cn bi ci)
  have hpar := hid_of (parse_any nameA (by decide) (w.alloc (objC bn cn bi ci)))
  rw [parsed_a] at hpar
  have hfn := fun W (hW : Below w.heap.size w W) => hid_of (firstName_gt bn cn bi ci W (stay hW hn))
  have hte := fun W (hW : Below w.heap.size w W) => hid_of (test_gt br m b1 b2 bn cn bi ci W (block_keep hR hW) (hT.mono (fun k hk => hW.block k (by have := hT.lt; rcases hk with rfl | rfl | rfl <;> omega))) hm h1 h2 (stay hW hn) (hI.keep hW) hnb hib)
  clear hR hT hm h1 h2 hn hI hnb hib
  unfold objC at HB n0 hpar
  unfold objV at *
  go_enter Tryz.func106, Tryz.ntmps106
  go_wp2_with fail
  generalize w.alloc (.cells #[.int .i64 6, .int .i64 0, .string ⟨#[]⟩, .slice (some ⟨bn, 0, none⟩) 1 cn, .slice (some ⟨bi, 0, none⟩) 1 ci] 28) = X0 at HB n0 hpar
  refine hpar.out.mono ?_
  rintro e X1 ⟨sl, rfl, hown, hb1⟩
  obtain ⟨gp, cp, rfl, hgg, hgl⟩ := hown.form (by decide)
  have hcp : X1.cell? ⟨gp, 0, none⟩ = some (.string nameA) := hown.cellAt 0 (by decide)
  have hgw : Hid (gp ≠ br) := hid_of (by have := HB.size; omega)
  replace HB := HB.trans (hb1.mono HB.size)
  have n1 := block_keep n0 hb1
  clear hb1 n0 hpar hown
  obtain ⟨y0, y1, y2, y3, y4, -⟩ := row_cells n1
  have hf1 := hfn X1 HB
  go_wp2_with fail
  refine hf1.out.mono ?_
  rintro e X2 ⟨rfl, hb2⟩
  replace HB := HB.trans (hb2.mono HB.size)
  have n2 := block_keep n1 hb2
  have hcp2 := stay hb2 hcp
  clear hb2 hf1 hfn y0 y1 y2 y3 y4 n1 hcp
  obtain ⟨y0, y1, y2, y3, y4, -⟩ := row_cells n2
  go_wp2_with fail
  have ht1 := hte X2 HB
  refine (dollar_gt _).mono ?_
  rintro e w' ⟨rfl, rfl⟩
  go_wp2_with fail
  refine ht1.out.mono ?_
  rintro e X3 ⟨hg3, hR3, bt, ct, b4, rfl, hT3, hG3⟩
  have hfin : Hid (PlacePost w br m (.returned (.tuple #[placeV gp cp bt ct, .int .i64 0])) X3) := hid_of ⟨grown_tr (grown_of_below HB _) hg3, hR3, gp, cp, bt, ct, rfl, gstay hg3 hcp2 hgw.out, b4, hT3, hG3⟩
  clear ht1 hte hg3 hR3 hT3 hG3 hcp2 y0 y1 y2 y3 y4 n2 HB
  go_wp2_with fail
  go_ret2
  exact hfin.out
set_option maxHeartbeats 2000000 in
set_option maxRecDepth 100000 in
theorem clause_gt (br m b1 b2 bn cn bi ci : Nat) (w : World) (hR : ReaderAt w br m 0) (hT : Table w m b1 b2) (hm : m ≠ br) (h1 : b1 ≠ br) (h2 : b2 ≠ br) (hn : w.cell? ⟨bn, 0, none⟩ = some (.string dollarGt)) (hI : NumAt w bi 0 4) (hnb : bn ≠ br) (hib : bi ≠ br) :
    Calls Tryz.prog 70 #[.pointer (some ⟨br, 0, none⟩), .string nameA, objV bn cn bi ci, .int .i64 0] w (PlacePost w br m) := by
  have HB : Below w.heap.size w (w.alloc (objC bn cn bi ci)) := (Below.refl _ w).alloc (Nat.le_refl _) _
  have hp := hid_of (place_gt br m b1 b2 bn cn bi ci _ (block_keep hR HB) (hT.mono (fun k hk => HB.block k (by have := hT.lt; rcases hk with rfl | rfl | rfl <;> omega))) hm h1 h2 (stay HB hn) (hI.keep HB) hnb hib)
  clear hR hT hm h1 h2 hn hI hnb hib
  unfold objC at HB hp
  unfold objV at *
  go_enter Tryz.func70, Tryz.ntmps70
  go_wp2_with fail
  refine (dollar_a _).mono ?_
  rintro e w' ⟨rfl, rfl⟩
  go_wp2_with fail
  refine hp.out.mono ?_
  rintro e X3 ⟨hg3, hR3, bp, cp, bt, ct, rfl, hP3⟩
  have hfin : Hid (PlacePost w br m (.returned (.tuple #[placeV bp cp bt ct, .int .i64 0])) X3) := hid_of ⟨grown_tr (grown_of_below HB _) hg3, hR3, bp, cp, bt, ct, rfl, hP3⟩
  clear hp hg3 hR3 hP3 HB
  unfold placeV at *
  go_wp2_with fail
  go_ret2
  exact hfin.out
end Go.Proofs.YtdfkfnhppjhghaaGreat
