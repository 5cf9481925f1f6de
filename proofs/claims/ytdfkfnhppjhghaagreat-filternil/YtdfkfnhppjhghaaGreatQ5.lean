import Derived.Test.YtdfkfnhppjhghaaGreatQ4
/-! Objects of one member; All of one name. -/
namespace Go.Proofs.YtdfkfnhppjhghaaGreat
open Go Go.RowKit

theorem AV : (Tryz.prog.info? 28).map (fun i => (i.zero, i.size, i.bytes)) = some (some (.agg #[.int .i64 0, .int .i64 0, .string { data := #[] }, .slice none 0 0, .slice none 0 0]), 5, 80) := by kernel_rfl
def nameA : ByteArray := ⟨#[97]⟩
def objV (bn cn bi ci : Nat) : Value := .agg #[.int .i64 6, .int .i64 0, .string ⟨#[]⟩, .slice (some ⟨bn, 0, none⟩) 1 cn, .slice (some ⟨bi, 0, none⟩) 1 ci]
def objC (bn cn bi ci : Nat) : Obj := .cells #[.int .i64 6, .int .i64 0, .string ⟨#[]⟩, .slice (some ⟨bn, 0, none⟩) 1 cn, .slice (some ⟨bi, 0, none⟩) 1 ci] 28
def FiveAt (w : World) (b : Nat) (c0 c1 c2 c3 c4 : Value) : Prop := w.cell? ⟨b, 0, none⟩ = some c0 ∧ w.cell? ⟨b, 1, none⟩ = some c1 ∧ w.cell? ⟨b, 2, none⟩ = some c2 ∧ w.cell? ⟨b, 3, none⟩ = some c3 ∧ w.cell? ⟨b, 4, none⟩ = some c4
theorem FiveAt.keep {w w' : World} {b : Nat} {c0 c1 c2 c3 c4 : Value} (h : FiveAt w b c0 c1 c2 c3 c4) (hb : Below w.heap.size w w') : FiveAt w' b c0 c1 c2 c3 c4 := ⟨stay hb h.1, stay hb h.2.1, stay hb h.2.2.1, stay hb h.2.2.2.1, stay hb h.2.2.2.2⟩
theorem five_at {w : World} {b : Nat} {c0 c1 c2 c3 c4 : Value} {t : TypeId} (h : w.heap[b]? = some (.cells #[c0, c1, c2, c3, c4] t (0, 0))) : FiveAt w b c0 c1 c2 c3 c4 := by
  obtain ⟨h0, h1, h2, h3, h4, -⟩ := row_cells h
  exact ⟨h0, h1, h2, h3, h4⟩
theorem heap_new' {w : World} {n : Nat} {o : Obj} (h : n = w.heap.size) : (w.alloc o).heap[n]? = some o := by rw [h]; exact heap_alloc_new w o
set_option maxHeartbeats 1000000 in
set_option maxRecDepth 100000 in
theorem object_any (s : ByteArray) (k x : Int) (tx : ByteArray) (an : Option Addr) (ln cn : Nat) (ai : Option Addr) (li ci : Nat) (w : World) :
    Calls Tryz.prog 17 #[.string s, .agg #[.int .i64 k, .int .i64 x, .string tx, .slice an ln cn, .slice ai li ci]] w fun e w' => Below w.heap.size w w' ∧ ∃ bn bi, e = .returned (objV bn 1 bi 1) ∧ w.heap.size ≤ bn ∧ w.heap.size ≤ bi ∧ w'.cell? ⟨bn, 0, none⟩ = some (.string s) ∧ FiveAt w' bi (.int .i64 k) (.int .i64 x) (.string tx) (.slice an ln cn) (.slice ai li ci) := by
  go_enter Tryz.func17, Tryz.ntmps17
  go_wp2
  go_returns
  refine ⟨?_, w.heap.size + 1 + 1, w.heap.size + 1 + 1 + 1, rfl, by omega, by omega, ?_, ?_⟩
  · exact ((((Below.refl _ w).alloc (Nat.le_refl _) _).alloc (by simp) _).alloc (by simp; omega) _).alloc (by simp; omega) _
  · exact cell_alloc' (cell_of_one (heap_new' (by simp))) _
  · exact five_at (heap_new' (by simp))
theorem sindex_a (bn cn : Nat) (w : World) (h : w.cell? ⟨bn, 0, none⟩ = some (.string nameA)) : Calls Tryz.prog 136 #[.slice (some ⟨bn, 0, none⟩) 1 cn, .string nameA] w fun e w' => e = .returned (.int .i64 0) ∧ w' = w := by
  have := Tryz.slices_Index_string bn 0 1 cn [nameA] nameA w (by simp) (by omega) (fun j hj => by
    have : j = 0 := by simpa using hj
    subst this
    exact h)
  have e : Lib.idxOfS ([nameA].take 1) nameA = 0 := by simp [Lib.idxOfS, Lib.idxFromS]
  rw [e] at this
  exact this
set_option maxHeartbeats 1000000 in
set_option maxRecDepth 100000 in
theorem place_a (bn cn bi ci : Nat) (w : World) (h : w.cell? ⟨bn, 0, none⟩ = some (.string nameA)) :
    Calls Tryz.prog 108 #[objV bn cn bi ci, .string nameA] w fun e w' => e = .returned (.tuple #[.int .i64 0, .bool true]) ∧ w' = (w.alloc (objC bn cn bi ci)).drew := by
  have hi := hid_of (sindex_a bn cn _ (cell_alloc' h (objC bn cn bi ci)))
  unfold objV objC at *
  go_enter Tryz.func108, Tryz.ntmps108
  go_wp2_with fail
  refine hi.out.mono ?_
  rintro e w1 ⟨rfl, rfl⟩
  go_wp2_with fail
  go_region
  go_wp2_with fail
  go_ret2
  exact ⟨rfl, rfl⟩
set_option maxHeartbeats 1000000 in
set_option maxRecDepth 100000 in
theorem gather_a (x : Int) (bn cn bi ci bp cp : Nat) (w : World) (h : w.cell? ⟨bn, 0, none⟩ = some (.string nameA)) (hI : NumAt w bi 0 x) (hp : w.cell? ⟨bp, 0, none⟩ = some (.string nameA)) :
    Calls Tryz.prog 74 #[.slice none 0 0, objV bn cn bi ci, .slice (some ⟨bp, 0, none⟩) 1 cp] w fun e w' => Below w.heap.size w w' ∧ ∃ g cap, e = .returned (.slice (some ⟨g, 0, none⟩) 1 cap) ∧ NumAt w' g 0 x := by
  have hpl := fun o => hid_of (place_a bn cn bi ci _ (cell_alloc' h o))
  have p0 := fun o => cell_alloc' hp o
  have d0 := fun o1 o2 => cell_alloc' (cell_alloc' hI.1 o1) o2
  have d1 := fun o1 o2 => cell_alloc' (cell_alloc' hI.2.1 o1) o2
  have d2 := fun o1 o2 => cell_alloc' (cell_alloc' hI.2.2.1 o1) o2
  have d3 := fun o1 o2 => cell_alloc' (cell_alloc' hI.2.2.2.1 o1) o2
  have d4 := fun o1 o2 => cell_alloc' (cell_alloc' hI.2.2.2.2 o1) o2
  simp only [Nat.zero_add] at d1 d2 d3 d4
  obtain ⟨i5, hi5, hz0, hz1, hz2⟩ := info_parts AV
  clear h hI hp
  unfold objV objC at *
  go_enter Tryz.func74, Tryz.ntmps74
  go_wp2_with fail
  refine wp_loop_rounds 2 ?_
  rw [rounds_succ]
  go_wp2_with fail
  refine (hpl _).out.mono ?_
  rintro e w1 ⟨rfl, rfl⟩
  clear hpl
  go_wp2_with fail
  rw [rounds_succ]
  go_wp2_with (at_builtin; refine wpList_append_lies _ rfl _ _ 26 rfl w.heap.size 28 i5 _ 5 80 Tryz.underlying26 hi5 hz0 hz1 hz2 rfl (by decide) _ 0 ([] : List Value) rfl (World.ownsRow_nil _ _ _ _) _ 1 1 [.int .i64 3, .int .i64 x, .string ⟨#[]⟩, .slice none 0 0, .slice none 0 0] rfl rfl (World.news_of_block (heap_new' (by simp))) (by simp [Value.oneCell']) (by decide) (by unfold maxLen; omega) (by omega) (by simp; omega) _ rfl ?_; intro g cap w4 hown4 hgrow4 hat4 hlt4)
  go_ret
  refine ⟨?_, g, cap, rfl, ?_⟩
  · refine Below.trans ?_ (grown_below hgrow4 (by simp; omega) (fun g hg => by cases hg))
    repeat (first | exact Below.refl _ _ | refine below_drewN ?_ _ | refine below_drew ?_ | (refine Below.alloc ?_ ?_ _; (rotate_left; (simp <;> omega))))
  · exact ⟨hown4.cellAt 0 (by omega), hown4.cellAt 1 (by omega), hown4.cellAt 2 (by omega), hown4.cellAt 3 (by omega), hown4.cellAt 4 (by omega)⟩
theorem all_a (x : Int) (bn cn bi ci bp cp : Nat) (w : World) (h : w.cell? ⟨bn, 0, none⟩ = some (.string nameA)) (hI : NumAt w bi 0 x) (hp : w.cell? ⟨bp, 0, none⟩ = some (.string nameA)) :
    Calls Tryz.prog 49 #[objV bn cn bi ci, .slice (some ⟨bp, 0, none⟩) 1 cp] w fun e w' => Below w.heap.size w w' ∧ ∃ g cap, e = .returned (.slice (some ⟨g, 0, none⟩) 1 cap) ∧ NumAt w' g 0 x := by
  have HB : Below w.heap.size w (w.alloc (objC bn cn bi ci)) := (Below.refl _ w).alloc (Nat.le_refl _) _
  have hg := hid_of (gather_a x bn cn bi ci bp cp _ (stay HB h) (hI.keep HB) (stay HB hp))
  clear h hI hp
  unfold objV objC at *
  go_enter Tryz.func49, Tryz.ntmps49
  go_wp2_with fail
  refine hg.out.mono ?_
  rintro e w1 ⟨hb1, g, cap, rfl, hN⟩
  replace hN := hid_of hN
  clear hg
  go_wp2_with fail
  go_ret
  exact ⟨HB.trans (hb1.mono HB.size), g, cap, rfl, hN.out⟩
end Go.Proofs.YtdfkfnhppjhghaaGreat
