import Derived.Test.YtdghkmgkmfnjjaaGreatDoorJJ
/-! The edits of two entries that come. -/
namespace Go.Proofs.YtdghkmgkmfnjjaaGreatDoor
open Go Go.RowKit

theorem AD : (Tryz.prog.info? 248).map (fun i => (i.zero, i.size, i.bytes)) = some (some (.agg #[.pointer none, .bool false]), 2, 16) := by kernel_rfl
theorem mk_edits (w : World) : (Instr.makeSlice 245 (.int .i64 0) (.int .i64 2)).run Tryz.prog w = .ok (.slice (some ⟨w.heap.size, 0, none⟩) 0 2) (w.alloc (.cells #[.pointer none, .bool false, .pointer none, .bool false] 248)) := by kernel_rfl
theorem made_edits (w : World) (B n : Nat) (hn : n = w.heap.size) (hB : B ≤ w.heap.size) : (w.alloc (.cells #[.pointer none, .bool false, .pointer none, .bool false] 248)).ownsRow B 248 2 (.slice (some ⟨n, 0, none⟩) 0 2) 0 [] := ⟨rfl, .inr ⟨n, 2, _, rfl, by rw [hn]; exact hB, heap_new' hn, by omega, by unfold maxLen; omega, rfl, by simp⟩⟩
theorem row_frozen {w : World} {B : Nat} {e : TypeId} {size n g c : Nat} {xs : List Value} (h : w.ownsRow B e size (.slice (some ⟨g, 0, none⟩) n c) n xs) : ∀ j, w.frozen? ⟨g, j, none⟩ = false := by
  rcases h.2 with ⟨h, _⟩ | ⟨g', cap, cur, h, _, hh, _⟩
  · cases h
  · cases h
    intro j
    simp [World.frozen?, hh]
set_option maxHeartbeats 4000000 in
set_option maxRecDepth 100000 in
theorem edits2V (g cap e1 e2 : Nat) (x1 x2 : Int) (k1 k2 : ByteArray) (w : World) (h1 : EntAt w e1 x1 k1) (h2 : EntAt w e2 x2 k2) (c0 : w.cell? ⟨g, 0, none⟩ = some (.pointer (some ⟨e1, 0, none⟩))) (c1 : w.cell? ⟨g, 1, none⟩ = some (.pointer (some ⟨e2, 0, none⟩))) (hlt : decide (cmpI x2 x1 < 0) = false) (hne : (cmpI x2 x1 != 0) = true) :
    Calls Tryz.prog 165 #[.slice none 0 0, .slice (some ⟨g, 0, none⟩) 2 cap, .func (.func 133) #[] #[]] w fun e w' => Below w.heap.size w w' ∧ ∃ rb cp, e = .returned (.slice (some ⟨rb, 0, none⟩) 2 cp) ∧ w.heap.size ≤ rb ∧ w'.cell? ⟨rb, 0, none⟩ = some (.pointer (some ⟨e1, 0, none⟩)) ∧ w'.cell? ⟨rb, 1, none⟩ = some (.bool true) ∧ w'.cell? ⟨rb, 2, none⟩ = some (.pointer (some ⟨e2, 0, none⟩)) ∧ w'.cell? ⟨rb, 3, none⟩ = some (.bool true) := by
  obtain ⟨i5, hi5, hz0, hz1, hz2⟩ := info_parts AD
  have hmk := mk_edits (w.alloc (.cells #[.func (.func 133) #[] #[]] 205))
  have Q0 : Below w.heap.size w (w.alloc (.cells #[.func (.func 133) #[] #[]] 205)) := (Below.refl _ w).alloc (Nat.le_refl _) _
  have bx0 : (w.alloc (.cells #[.func (.func 133) #[] #[]] 205)).cell? ⟨w.heap.size, 0, none⟩ = some (.func (.func 133) #[] #[]) := cell_of_one (heap_alloc_new w _)
  have hsz : w.heap.size + 1 = (w.alloc (.cells #[.func (.func 133) #[] #[]] 205)).heap.size := by simp
  replace hsz := hid_of hsz
  go_enter Tryz.func165, Tryz.ntmps165
  go_wp2_with fail
  generalize w.alloc (.cells #[.func (.func 133) #[] #[]] 205) = X0 at hmk Q0 bx0 hsz ⊢
  replace h1 := hid_of (h1.keep Q0)
  replace h2 := hid_of (h2.keep Q0)
  replace c0 := stay Q0 c0
  replace c1 := stay Q0 c1
  have Q1 := hid_of ((Below.refl _ X0).alloc (Nat.le_refl _) (.cells #[.pointer none, .bool false, .pointer none, .bool false] 248))
  have O1 := hid_of (made_edits X0 X0.heap.size _ hsz.out (Nat.le_refl _))
  clear hmk
  generalize X0.alloc (.cells #[.pointer none, .bool false, .pointer none, .bool false] 248) = X1 at Q1 O1 ⊢
  have t0 := stay Q1.out c0
  have t1 := stay Q1.out c1
  refine wp_loop_rounds 1 ?_
  rw [rounds_succ]
  go_wp2_with fail
  refine wp_loop_rounds 3 ?_
  rw [rounds_succ]
  go_wp2_with (at_builtin; refine wpList_append_lies _ rfl _ _ 245 rfl X0.heap.size 248 i5 _ 2 16 Tryz.underlying245 hi5 hz0 hz1 hz2 rfl (by decide) _ 0 ([] : List Value) rfl (ownsRow_below O1.out ((Below.refl _ _).alloc (Nat.le_refl _) _)) _ 1 1 [.pointer (some ⟨e1, 0, none⟩), .bool true] rfl rfl (World.news_of_block (heap_new' rfl)) (by simp [Value.oneCell']) (by decide) (by unfold maxLen; omega) (by omega) (by simp; have := Q1.out.size; omega) _ rfl ?_; intro g3 cap3 X2 hown3 hgrow3 hat3 hlt3; have Q2 := hid_of ((Q1.out.alloc Q1.out.size _).trans (grown_below hgrow3 (by simp; have := Q1.out.size; omega) (fun g hg => by cases hg; exact (ownsRow_ge O1.out rfl).1))); have O2 := hid_of hown3; have s1 := stay Q2.out c1; clear hgrow3 hat3 hlt3 hown3 t0 t1)
  rw [rounds_succ]
  go_wp2_with (at_builtin; refine wpList_append_lies _ rfl _ _ 245 rfl X0.heap.size 248 i5 _ 2 16 Tryz.underlying245 hi5 hz0 hz1 hz2 rfl (by decide) _ 1 [.pointer (some ⟨e1, 0, none⟩), .bool true] rfl (ownsRow_below O2.out ((Below.refl _ _).alloc (Nat.le_refl _) _)) _ 1 1 [.pointer (some ⟨e2, 0, none⟩), .bool true] rfl rfl (World.news_of_block (heap_new' rfl)) (by simp [Value.oneCell']) (by decide) (by unfold maxLen; omega) (by omega) (by simp; have := Q2.out.size; omega) _ rfl ?_; intro g4 cap4 X3 hown4 hgrow4 hat4 hlt4; have Q3 := hid_of ((Q2.out.alloc Q2.out.size _).trans (grown_below hgrow4 (by simp; have := Q2.out.size; omega) (fun g hg => by cases hg; exact (ownsRow_ge O2.out rfl).1))); have O3 := hid_of hown4; clear hgrow4 hat4 hlt4 hown4 s1)
  rw [rounds_succ]
  go_wp2_with fail
  have r0 : X3.cell? ⟨g4, 0, none⟩ = some (.pointer (some ⟨e1, 0, none⟩)) := O3.out.cellAt 0 (by simp)
  have r1 : X3.cell? ⟨g4, 1, none⟩ = some (.bool true) := O3.out.cellAt 1 (by simp)
  have r2 : X3.cell? ⟨g4, 2, none⟩ = some (.pointer (some ⟨e2, 0, none⟩)) := O3.out.cellAt 2 (by simp)
  have r3 : X3.cell? ⟨g4, 3, none⟩ = some (.bool true) := O3.out.cellAt 3 (by simp)
  have hso := hid_of (sortfV g4 cap4 w.heap.size e1 e2 x1 x2 k1 k2 X3 (stay Q3.out bx0) (h1.out.keep Q3.out) (h2.out.keep Q3.out) r0 r1 r2 r3 hlt hne)
  have Q4 := hid_of (Q0.trans (Q3.out.mono Q0.size))
  have hg4 : w.heap.size ≤ g4 := Nat.le_trans Q0.size (ownsRow_ge O3.out rfl).1
  replace Q0 := hid_of Q0
  clear O3 Q3 O2 Q2 O1 Q1 h1 h2 c0 c1 bx0
  refine hso.out.mono ?_
  rintro e X4 ⟨rfl, hq⟩
  clear hso
  go_wp2_with fail
  go_ret
  exact ⟨Q4.out.trans (hq.mono Q4.out.size), g4, cap4, rfl, hg4, stay hq r0, stay hq r1, stay hq r2, stay hq r3⟩
set_option maxHeartbeats 4000000 in
set_option maxRecDepth 100000 in
theorem edits2K (g cap e1 e2 : Nat) (x1 x2 : Int) (k1 k2 : ByteArray) (w : World) (h1 : EntAt w e1 x1 k1) (h2 : EntAt w e2 x2 k2) (c0 : w.cell? ⟨g, 0, none⟩ = some (.pointer (some ⟨e1, 0, none⟩))) (c1 : w.cell? ⟨g, 1, none⟩ = some (.pointer (some ⟨e2, 0, none⟩))) (hlt : decide (cmpS k2 k1 < 0) = true) :
    Calls Tryz.prog 165 #[.slice none 0 0, .slice (some ⟨g, 0, none⟩) 2 cap, .func (.func 134) #[] #[]] w fun e w' => Below w.heap.size w w' ∧ ∃ rb cp, e = .returned (.slice (some ⟨rb, 0, none⟩) 2 cp) ∧ w.heap.size ≤ rb ∧ w'.cell? ⟨rb, 0, none⟩ = some (.pointer (some ⟨e2, 0, none⟩)) ∧ w'.cell? ⟨rb, 1, none⟩ = some (.bool true) ∧ w'.cell? ⟨rb, 2, none⟩ = some (.pointer (some ⟨e1, 0, none⟩)) ∧ w'.cell? ⟨rb, 3, none⟩ = some (.bool true) := by
  obtain ⟨i5, hi5, hz0, hz1, hz2⟩ := info_parts AD
  have hmk := mk_edits (w.alloc (.cells #[.func (.func 134) #[] #[]] 205))
  have Q0 : Below w.heap.size w (w.alloc (.cells #[.func (.func 134) #[] #[]] 205)) := (Below.refl _ w).alloc (Nat.le_refl _) _
  have bx0 : (w.alloc (.cells #[.func (.func 134) #[] #[]] 205)).cell? ⟨w.heap.size, 0, none⟩ = some (.func (.func 134) #[] #[]) := cell_of_one (heap_alloc_new w _)
  have hsz : w.heap.size + 1 = (w.alloc (.cells #[.func (.func 134) #[] #[]] 205)).heap.size := by simp
  replace hsz := hid_of hsz
  go_enter Tryz.func165, Tryz.ntmps165
  go_wp2_with fail
  generalize w.alloc (.cells #[.func (.func 134) #[] #[]] 205) = X0 at hmk Q0 bx0 hsz ⊢
  replace h1 := hid_of (h1.keep Q0)
  replace h2 := hid_of (h2.keep Q0)
  replace c0 := stay Q0 c0
  replace c1 := stay Q0 c1
  have Q1 := hid_of ((Below.refl _ X0).alloc (Nat.le_refl _) (.cells #[.pointer none, .bool false, .pointer none, .bool false] 248))
  have O1 := hid_of (made_edits X0 X0.heap.size _ hsz.out (Nat.le_refl _))
  clear hmk
  generalize X0.alloc (.cells #[.pointer none, .bool false, .pointer none, .bool false] 248) = X1 at Q1 O1 ⊢
  have t0 := stay Q1.out c0
  have t1 := stay Q1.out c1
  refine wp_loop_rounds 1 ?_
  rw [rounds_succ]
  go_wp2_with fail
  refine wp_loop_rounds 3 ?_
  rw [rounds_succ]
  go_wp2_with (at_builtin; refine wpList_append_lies _ rfl _ _ 245 rfl X0.heap.size 248 i5 _ 2 16 Tryz.underlying245 hi5 hz0 hz1 hz2 rfl (by decide) _ 0 ([] : List Value) rfl (ownsRow_below O1.out ((Below.refl _ _).alloc (Nat.le_refl _) _)) _ 1 1 [.pointer (some ⟨e1, 0, none⟩), .bool true] rfl rfl (World.news_of_block (heap_new' rfl)) (by simp [Value.oneCell']) (by decide) (by unfold maxLen; omega) (by omega) (by simp; have := Q1.out.size; omega) _ rfl ?_; intro g3 cap3 X2 hown3 hgrow3 hat3 hlt3; have Q2 := hid_of ((Q1.out.alloc Q1.out.size _).trans (grown_below hgrow3 (by simp; have := Q1.out.size; omega) (fun g hg => by cases hg; exact (ownsRow_ge O1.out rfl).1))); have O2 := hid_of hown3; have s1 := stay Q2.out c1; clear hgrow3 hat3 hlt3 hown3 t0 t1)
  rw [rounds_succ]
  go_wp2_with (at_builtin; refine wpList_append_lies _ rfl _ _ 245 rfl X0.heap.size 248 i5 _ 2 16 Tryz.underlying245 hi5 hz0 hz1 hz2 rfl (by decide) _ 1 [.pointer (some ⟨e1, 0, none⟩), .bool true] rfl (ownsRow_below O2.out ((Below.refl _ _).alloc (Nat.le_refl _) _)) _ 1 1 [.pointer (some ⟨e2, 0, none⟩), .bool true] rfl rfl (World.news_of_block (heap_new' rfl)) (by simp [Value.oneCell']) (by decide) (by unfold maxLen; omega) (by omega) (by simp; have := Q2.out.size; omega) _ rfl ?_; intro g4 cap4 X3 hown4 hgrow4 hat4 hlt4; have Q3 := hid_of ((Q2.out.alloc Q2.out.size _).trans (grown_below hgrow4 (by simp; have := Q2.out.size; omega) (fun g hg => by cases hg; exact (ownsRow_ge O2.out rfl).1))); have O3 := hid_of hown4; clear hgrow4 hat4 hlt4 hown4 s1)
  rw [rounds_succ]
  go_wp2_with fail
  have r0 : X3.cell? ⟨g4, 0, none⟩ = some (.pointer (some ⟨e1, 0, none⟩)) := O3.out.cellAt 0 (by simp)
  have r1 : X3.cell? ⟨g4, 1, none⟩ = some (.bool true) := O3.out.cellAt 1 (by simp)
  have r2 : X3.cell? ⟨g4, 2, none⟩ = some (.pointer (some ⟨e2, 0, none⟩)) := O3.out.cellAt 2 (by simp)
  have r3 : X3.cell? ⟨g4, 3, none⟩ = some (.bool true) := O3.out.cellAt 3 (by simp)
  have hso := hid_of (sortfK g4 cap4 w.heap.size e1 e2 x1 x2 k1 k2 X3 (stay Q3.out bx0) (h1.out.keep Q3.out) (h2.out.keep Q3.out) r0 r1 r2 r3 (row_frozen O3.out) hlt)
  have Q4 := hid_of (Q0.trans (Q3.out.mono Q0.size))
  have hg4 : w.heap.size ≤ g4 := Nat.le_trans Q0.size (ownsRow_ge O3.out rfl).1
  replace Q0 := hid_of Q0
  clear O3 Q3 O2 Q2 O1 Q1 h1 h2 c0 c1 bx0
  refine hso.out.mono ?_
  rintro e X4 ⟨rfl, hq, u0, u1, u2, u3⟩
  clear hso r0 r1 r2 r3
  replace hq := hid_of hq
  go_wp2_with fail
  go_ret
  exact ⟨Q4.out.trans (grown_below hq.out Q4.out.size (fun g hg => by cases hg; exact hg4)), g4, cap4, rfl, hg4, u0, u1, u2, u3⟩
end Go.Proofs.YtdghkmgkmfnjjaaGreatDoor
