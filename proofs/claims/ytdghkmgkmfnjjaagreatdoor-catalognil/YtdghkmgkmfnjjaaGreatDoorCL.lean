import Derived.Test.YtdghkmgkmfnjjaaGreatDoorCJ
import Derived.Test.YtdghkmgkmfnjjaaGreatDoorCK
import Derived.Test.YtdghkmgkmfnjjaaGreatDoorJR
/-! Choose; what a collection is. -/
namespace Go.Proofs.YtdghkmgkmfnjjaaGreatDoor
open Go Go.RowKit Go.Maps

def T1 (W : World) (g : Nat) : Prop := W.cell? ⟨g, 0, none⟩ = some (.string ⟨#[97]⟩)
theorem ids_eq (lo yb e1 e2 : Nat) (nm pt : ByteArray) (pv : Value) (w : World) (hX : Ix2 w lo yb nm pt pv e1 e2 5 7 ⟨#[98]⟩ ⟨#[97]⟩) :
    Calls Tryz.prog 21 #[.pointer (some ⟨yb, 0, none⟩), .int .i64 1, .agg #[.int .i64 3, .int .i64 7, .string ⟨#[]⟩, .slice none 0 0, .slice none 0 0]] w fun e w' => ∃ g c, e = .returned (.slice (some ⟨g, 0, none⟩) 1 c) ∧ Below w.heap.size w w' ∧ T1 w' g := by
  refine ids_any 1 1 1 rfl T1 lo yb e1 e2 5 7 7 _ _ nm pt pv w (by decide) hX (.inl rfl) (fun W hW => reaches_1 lo yb e1 e2 5 7 7 1 2 _ _ nm pt pv W (hX.keep hW) (by decide) (by decide)) (fun W g c h => ?_) (fun W g c _ => compactT1 g c W) (fun W W' g h hk => ?_)
  · refine (sortT1 g c W).mono ?_
    rintro e W' ⟨rfl, rfl⟩
    exact ⟨rfl, ⟨rfl, rfl, rfl, Nat.le_refl _, fun _ _ _ => rfl⟩, (h 0).1⟩
  · exact (World.cell?_of_block (w := W) (a := ⟨g, 0, none⟩) (hk (lt_of_cell (p := ⟨g, 0, none⟩) h))).trans h
set_option maxHeartbeats 1000000 in
set_option maxRecDepth 100000 in
theorem spec_any (xb : Nat) (nm pt : ByteArray) (un : Bool) (pv ev kv : Value) (w : World) (h : IxAt w xb nm pt un pv ev kv) : Calls Tryz.prog 22 #[.pointer (some ⟨xb, 0, none⟩)] w fun e w' => e = .returned (.agg #[.string nm, .string pt, .bool un]) ∧ Below w.heap.size w w' := by
  have hB := (Below.refl _ w).alloc (Nat.le_refl _) (.cells #[.string nm, .string pt, .bool un] 27)
  have hB0 := (Below.refl _ w).alloc (Nat.le_refl _) (.cells #[.string ⟨#[]⟩, .string ⟨#[]⟩, .bool false] 27)
  obtain ⟨c0, c1, c2, -, -, -⟩ := (h.keep hB0).cells
  clear h
  go_enter Tryz.func22, Tryz.ntmps22
  go_wp2_with fail
  go_returns
  exact ⟨rfl, hB⟩
set_option maxHeartbeats 4000000 in
set_option maxRecDepth 100000 in
theorem choose_c (cb nk yb nb0 c0 : Nat) (w : World) (h : Cat1 w cb nk) (hk : Coll1 w nk 2 yb) (hX : IxTwo w yb) (hn : w.heap[nb0]? = some (.cells #[.string nameA, .int .i64 1, .int .i64 3, .int .i64 7, .string ⟨#[]⟩, .slice none 0 0, .slice none 0 0] 70 (0, 0))) :
    Calls Tryz.prog 7 #[.pointer (some ⟨cb, 0, none⟩), .string nameC, .slice (some ⟨nb0, 0, none⟩) 1 c0] w fun e w' => ∃ g c, e = .returned (.tuple #[.slice (some ⟨g, 0, none⟩) 1 c, .string ⟨#[110]⟩, .bool true]) ∧ T1 w' g ∧ Below w.heap.size w w' := by
  obtain ⟨g, c, hK, hc0, -⟩ := hk
  obtain ⟨lo, bp, cp, e1, e2, hY⟩ := hX
  have hfl : ∀ W, (Instr.field 27 (.agg #[.string ⟨#[110]⟩, .string ⟨#[116]⟩, .bool false]) 0).run Tryz.prog W = .ok (.string ⟨#[110]⟩) W := fun W => by kernel_rfl
  have hf := hid_of (find_one cb nk w h)
  have k0 := hK.at 12
  have hch := hid_of (by
    obtain ⟨g', c', kv', hI, -⟩ := id hY
    exact choose_t g c yb nb0 c0 _ _ _ _ _ w hc0 hI hn)
  clear h
  replace hY := hid_of hY
  go_enter Tryz.func7, Tryz.ntmps7
  go_wp2_with fail
  refine hf.out.mono ?_
  rintro e Z ⟨rfl, hZ⟩
  obtain rfl : w = Z := hZ.symm
  clear hZ hf
  go_wp2_with fail
  refine hch.out.mono ?_
  rintro e X1 ⟨rfl, hX1⟩
  replace k0 := (hK.keep hX1).at 12
  replace hc0 := stay hX1 hc0
  obtain ⟨n0, n1, n2, n3, n4, n5, n6⟩ := need7 (block_keep hn hX1)
  replace hY := hid_of (hY.out.keep hX1)
  replace hX1 := hid_of hX1
  clear hch hK hn
  have a0 := fun o => cell_alloc' n0 o
  have a1 := fun o => cell_alloc' n1 o
  have a2 := fun o => cell_alloc' n2 o
  have a3 := fun o => cell_alloc' n3 o
  have a4 := fun o => cell_alloc' n4 o
  have a5 := fun o => cell_alloc' n5 o
  have a6 := fun o => cell_alloc' n6 o
  have a7 := fun o => cell_alloc' k0 o
  have a8 := fun o => cell_alloc' hc0 o
  go_wp2_with fail
  go_region
  have hb2 : Below X1.heap.size X1 (X1.alloc (.cells #[.string nameA, .int .i64 1, .int .i64 3, .int .i64 7, .string ⟨#[]⟩, .slice none 0 0, .slice none 0 0] 70)).drew := below_drew ((Below.refl _ X1).alloc (Nat.le_refl _) _)
  have m := need7 (w := (X1.alloc (.cells #[.string nameA, .int .i64 1, .int .i64 3, .int .i64 7, .string ⟨#[]⟩, .slice none 0 0, .slice none 0 0] 70)).drew) (heap_alloc_new X1 (.cells #[.string nameA, .int .i64 1, .int .i64 3, .int .i64 7, .string ⟨#[]⟩, .slice none 0 0, .slice none 0 0] 70))
  clear n0 n1 n2 n3 n4 n5 n6 a0 a1 a2 a3 a4 a5 a6 a7 a8 k0 hc0
  generalize (X1.alloc (.cells #[.string nameA, .int .i64 1, .int .i64 3, .int .i64 7, .string ⟨#[]⟩, .slice none 0 0, .slice none 0 0] 70)).drew = X2 at hb2 m ⊢
  obtain ⟨-, m1, m2, m3, m4, m5, m6⟩ := m
  replace hX1 := hid_of (hX1.out.trans (hb2.mono hX1.out.size))
  have hY2 := hY.out.keep hb2
  have hid := hid_of (ids_eq lo yb e1 e2 _ _ _ X2 hY2)
  replace hY := hid_of hY2
  clear hb2 hY2
  go_wp2_with fail
  refine hid.out.mono ?_
  rintro e X3 ⟨g3, c3, rfl, hb3, hT⟩
  have hsp := hid_of (by
    obtain ⟨g', c', kv', hI, -⟩ := hY.out.keep hb3
    exact spec_any yb _ _ _ _ _ _ X3 hI)
  replace hX1 := hid_of (hX1.out.trans (hb3.mono hX1.out.size))
  clear hid hb3 m1 m2 m3 m4 m5 m6 hY
  replace hT := hid_of hT
  go_wp2_with fail
  refine hsp.out.mono ?_
  rintro e X4 ⟨rfl, hb4⟩
  have hT4 : T1 X4 g3 := stay hb4 hT.out
  replace hX1 := hid_of (hX1.out.trans (hb4.mono hX1.out.size))
  clear hsp hT hb4
  replace hT4 := hid_of hT4
  go_wp2_with fail
  refine bodyPost_ret (results_tmp3 rfl _ _ _) rfl ?_
  exact ⟨g3, c3, rfl, hT4.out, hX1.out⟩
end Go.Proofs.YtdghkmgkmfnjjaaGreatDoor
