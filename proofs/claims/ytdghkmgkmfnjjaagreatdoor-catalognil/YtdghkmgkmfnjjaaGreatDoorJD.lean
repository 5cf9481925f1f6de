import Derived.Test.YtdghkmgkmfnjjaaGreatDoorJC
/-! The entries of an item; a key that an index without entries has not. -/
namespace Go.Proofs.YtdghkmgkmfnjjaaGreatDoor
open Go Go.RowKit

/-- An entry: a number and a key. -/
def EntAt (w : World) (eb : Nat) (x : Int) (key : ByteArray) : Prop := w.heap[eb]? = some (.cells #[.int .i64 3, .int .i64 x, .string ⟨#[]⟩, .slice none 0 0, .slice none 0 0, .string key] 130 (0, 0))
theorem EntAt.keep {w w' : World} {eb : Nat} {x : Int} {key : ByteArray} (h : EntAt w eb x key) (hb : Below w.heap.size w w') : EntAt w' eb x key := block_keep h hb
theorem EntAt.cells {w : World} {eb : Nat} {x : Int} {key : ByteArray} (h : EntAt w eb x key) : w.cell? ⟨eb, 0, none⟩ = some (.int .i64 3) ∧ w.cell? ⟨eb, 1, none⟩ = some (.int .i64 x) ∧ w.cell? ⟨eb, 2, none⟩ = some (.string ⟨#[]⟩) ∧ w.cell? ⟨eb, 3, none⟩ = some (.slice none 0 0) ∧ w.cell? ⟨eb, 4, none⟩ = some (.slice none 0 0) ∧ w.cell? ⟨eb, 5, none⟩ = some (.string key) := by
  unfold EntAt at h
  refine ⟨?_, ?_, ?_, ?_, ?_, ?_⟩
  all_goals simp [World.cell?, h]
theorem EntAt.grow {w w' : World} {row : Option Nat} {eb : Nat} {x : Int} {key : ByteArray} (h : EntAt w eb x key) (hg : w.grownBy w' row) (hr : ∀ r, row = some r → eb ≠ r) : EntAt w' eb x key := (hg.block _ (Array.getElem?_eq_some_iff.1 h).1 (fun e => hr _ e.symm rfl)).trans h
def itemV (key : ByteArray) (bn cn bi ci : Nat) : Value := .agg #[.string key, .int .i64 0, .int .i64 6, .int .i64 0, .string ⟨#[]⟩, .slice (some ⟨bn, 0, none⟩) 1 cn, .slice (some ⟨bi, 0, none⟩) 1 ci]
def itemC (key : ByteArray) (bn cn bi ci : Nat) : Obj := .cells #[.string key, .int .i64 0, .int .i64 6, .int .i64 0, .string ⟨#[]⟩, .slice (some ⟨bn, 0, none⟩) 1 cn, .slice (some ⟨bi, 0, none⟩) 1 ci] 58
theorem AE : (Tryz.prog.info? 128).map (fun i => (i.zero, i.size, i.bytes)) = some (some (.pointer none), 1, 8) := by kernel_rfl
theorem item_cells {w : World} {B : Nat} {c0 c1 c2 c3 c4 c5 c6 : Value} {t : TypeId} (h : w.heap[B]? = some (.cells #[c0, c1, c2, c3, c4, c5, c6] t (0, 0))) : w.cell? ⟨B, 0, none⟩ = some c0 ∧ w.cell? ⟨B, 1, none⟩ = some c1 ∧ w.cell? ⟨B, 2, none⟩ = some c2 ∧ w.cell? ⟨B, 3, none⟩ = some c3 ∧ w.cell? ⟨B, 4, none⟩ = some c4 ∧ w.cell? ⟨B, 5, none⟩ = some c5 ∧ w.cell? ⟨B, 6, none⟩ = some c6 := by
  refine ⟨?_, ?_, ?_, ?_, ?_, ?_, ?_⟩
  all_goals simp [World.cell?, h]
set_option maxHeartbeats 2000000 in
set_option maxRecDepth 100000 in
theorem entries1 (key : ByteArray) (x : Int) (bn cn bi ci bp cp : Nat) (w : World) (h : w.cell? ⟨bn, 0, none⟩ = some (.string nameA)) (hI : NumAt w bi 0 x) (hp : w.cell? ⟨bp, 0, none⟩ = some (.string nameA)) :
    Calls Tryz.prog 129 #[itemV key bn cn bi ci, .slice (some ⟨bp, 0, none⟩) 1 cp] w fun e w' => Below w.heap.size w w' ∧ ∃ g cap eb, e = .returned (.slice (some ⟨g, 0, none⟩) 1 cap) ∧ w'.ownsRow w.heap.size 128 1 (.slice (some ⟨g, 0, none⟩) 1 cap) 1 [.pointer (some ⟨eb, 0, none⟩)] ∧ EntAt w' eb x key := by
  have HB : Below w.heap.size w (w.alloc (itemC key bn cn bi ci)) := (Below.refl _ w).alloc (Nat.le_refl _) _
  have n0 := heap_alloc_new w (itemC key bn cn bi ci)
  have hte := hid_of (tested1 x bn cn bi ci bp cp _ (stay HB h) (hI.keep HB) (stay HB hp))
  obtain ⟨i5, hi5, hz0, hz1, hz2⟩ := info_parts AE
  clear h hI hp
  unfold objV at hte
  unfold itemV
  unfold itemC at *
  go_enter Tryz.func129, Tryz.ntmps129
  go_wp2_with fail
  generalize w.alloc (.cells #[.string key, .int .i64 0, .int .i64 6, .int .i64 0, .string ⟨#[]⟩, .slice (some ⟨bn, 0, none⟩) 1 cn, .slice (some ⟨bi, 0, none⟩) 1 ci] 58) = X0 at HB n0 hte
  refine hte.out.mono ?_
  rintro e X1 ⟨hb1, g1, cap1, rfl, hN⟩
  clear hte
  have n1 := block_keep n0 hb1
  replace HB := HB.trans (hb1.mono HB.size)
  have hd := hid_of (different1 x g1 cap1 X1 hN)
  clear hb1 hN n0
  go_wp2_with fail
  refine hd.out.mono ?_
  rintro e X2 ⟨rfl, hX2⟩
  clear hd
  have hq : Below X1.heap.size X1 X2 := by rw [hX2]; exact (Below.refl _ X1).alloc (Nat.le_refl _) _
  have hN2 : NumAt X2 X1.heap.size 0 x := by rw [hX2]; exact numAt_new X1 x
  have n2 := block_keep n1 hq
  replace HB := HB.trans (hq.mono HB.size)
  clear hX2 hq n1
  obtain ⟨t0, t1, t2, t3, t4⟩ := hN2
  simp only [Nat.zero_add] at t1 t2 t3 t4
  have k0 := (item_cells n2).1
  have k0' := fun o => cell_alloc' k0 o
  have HB3 : Below w.heap.size w ((X2.alloc (numC x)).alloc (.cells #[.int .i64 3, .int .i64 x, .string ⟨#[]⟩, .slice none 0 0, .slice none 0 0, .string key] 130)) := (HB.alloc HB.size _).alloc (by simp; have := HB.size; omega) _
  have he3 : EntAt ((X2.alloc (numC x)).alloc (.cells #[.int .i64 3, .int .i64 x, .string ⟨#[]⟩, .slice none 0 0, .slice none 0 0, .string key] 130)) (X2.heap.size + 1) x key := heap_new' (by simp)
  replace HB3 := hid_of HB3
  replace he3 := hid_of he3
  unfold numC at HB3 he3
  go_wp2_with fail
  refine wp_loop_rounds 2 ?_
  rw [rounds_succ]
  go_wp2_with (at_builtin; refine wpList_append_lies _ rfl _ _ 103 rfl w.heap.size 128 i5 _ 1 8 Tryz.underlying103 hi5 hz0 hz1 hz2 rfl (by decide) _ 0 ([] : List Value) rfl (World.ownsRow_nil _ _ _ _) _ 1 1 [.pointer (some ⟨X2.heap.size + 1, 0, none⟩)] rfl rfl (World.news_of_block (heap_new' (by simp))) (by simp [Value.oneCell']) (by decide) (by unfold maxLen; omega) (by omega) (by simp; have := HB.size; omega) _ rfl ?_; intro g2 cap2 X3 hown2 hgrow2 hat2 hlt2; have he4 := hid_of ((he3.out.keep ((Below.refl _ _).alloc (Nat.le_refl _) _)).grow hgrow2 (by intro r h; cases h)); have HB4 := hid_of ((HB3.out.alloc HB3.out.size _).trans (grown_below hgrow2 (by simp; have := HB.size; omega) (fun g hg => by cases hg))); clear hgrow2)
  rw [rounds_succ]
  go_wp2_with fail
  go_ret
  exact ⟨HB4.out, g2, cap2, _, rfl, hown2, he4.out⟩
set_option maxHeartbeats 1000000 in
set_option maxRecDepth 100000 in
theorem search0 (gk : Nat) (key : ByteArray) (f : Value) (w : World) : Calls Tryz.prog 176 #[.slice (some ⟨gk, 0, none⟩) 0 0, .string key, f] w fun e w' => e = .returned (.tuple #[.int .i64 0, .bool false]) ∧ w' = w := by
  go_enter Tryz.func176, Tryz.ntmps176
  go_wp2_with fail
  refine wp_loop_rounds 1 ?_
  rw [rounds_succ]
  go_wp2_with fail
  go_ret2
  exact ⟨rfl, rfl⟩
set_option maxHeartbeats 1000000 in
set_option maxRecDepth 100000 in
theorem having0 (gk : Nat) (key : ByteArray) (xb : Nat) (nm pt : ByteArray) (un : Bool) (pv ev : Value) (w : World) (h : IxAt w xb nm pt un pv ev (.slice (some ⟨gk, 0, none⟩) 0 0)) : Calls Tryz.prog 160 #[.pointer (some ⟨xb, 0, none⟩), .string key] w fun e w' => e = .returned (.slice (some ⟨gk, 0, none⟩) 0 0) ∧ w' = w := by
  obtain ⟨c0, c1, c2, c3, c4, c5⟩ := h.cells
  clear h
  go_enter Tryz.func160, Tryz.ntmps160
  go_wp2_with fail
  refine (search0 gk key _ _).mono ?_
  rintro e X1 ⟨rfl, hX⟩
  have hX := hX.symm; subst hX
  go_wp2_with fail
  refine wp_loop_rounds 1 ?_
  rw [rounds_succ]
  go_wp2_with fail
  go_ret
  exact ⟨rfl, rfl⟩
end Go.Proofs.YtdghkmgkmfnjjaaGreatDoor
