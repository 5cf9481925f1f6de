import Derived.Test.YtdghkmgkmfnjjaaGreatDoorA5
import Derived.Handy
import Derived.WalkKit
import Derived.WalkLawsBesides
import Derived.Outline
import Derived.Below
import Derived.Deep.QuietTactic
import Derived.BigQuiet
import Derived.Deep.DeepFit
import Derived.Maps.Own
import Derived.Deep.RegionHeld3
/-! Numbers, objects of one member, All of one name, Compare of two numbers. -/
namespace Go.Proofs.YtdghkmgkmfnjjaaGreatDoor
open Go Go.RowKit

def five (k x : Int) (s : ByteArray) (nm it : Value) : List Value := [.int .i64 k, .int .i64 x, .string s, nm, it]
def numV (x : Int) : Value := .agg #[.int .i64 3, .int .i64 x, .string ⟨#[]⟩, .slice none 0 0, .slice none 0 0]
def numC (x : Int) : Obj := .cells #[.int .i64 3, .int .i64 x, .string ⟨#[]⟩, .slice none 0 0, .slice none 0 0] 25
def cmpI (a b : Int) : Int := if a < b then -1 else if b < a then 1 else 0
def cmpS (a b : ByteArray) : Int := Lib.compareBytes a.data.toList b.data.toList
set_option maxHeartbeats 1000000 in
theorem nan3 (x : Int) (w : World) : Calls Tryz.prog 139 #[.int .i64 x] w fun e w' => e = .returned (.bool false) ∧ w' = w := by
  go_enter Tryz.func139, Tryz.ntmps139
  go_wp2_with fail
  go_ret
  exact ⟨by simp, rfl⟩
set_option maxHeartbeats 1000000 in
theorem nan2 (x : Int) (w : World) : Calls Tryz.prog 140 #[.int .i64 x] w fun e w' => e = .returned (.bool false) ∧ w' = w := by
  go_enter Tryz.func140, Tryz.ntmps140
  go_wp2_with fail
  go_ret
  exact ⟨by simp, rfl⟩
theorem cmpI_lt {x y : Int} (h : x < y) : cmpI x y = -1 := by unfold cmpI; rw [if_pos h]
theorem cmpI_gt {x y : Int} (h : y < x) : cmpI x y = 1 := by unfold cmpI; rw [if_neg (by omega), if_pos h]
theorem cmpI_eq (x : Int) : cmpI x x = 0 := by unfold cmpI; simp
set_option maxHeartbeats 1000000 in
theorem cmp3 (x y : Int) (w : World) : Calls Tryz.prog 95 #[.int .i64 x, .int .i64 y] w fun e w' => e = .returned (.int .i64 (cmpI x y)) ∧ w' = w := by
  rcases Int.lt_trichotomy x y with h | rfl | h
  · rw [cmpI_lt h]
    go_enter Tryz.func95, Tryz.ntmps95
    go_wp2_with (go_at_call 139; refine (nan3 _ _).mono ?_; rintro e w' ⟨rfl, rfl⟩)
    go_ret
    exact ⟨rfl, rfl⟩
  · rw [cmpI_eq]
    go_enter Tryz.func95, Tryz.ntmps95
    go_wp2_with (go_at_call 139; refine (nan3 _ _).mono ?_; rintro e w' ⟨rfl, rfl⟩)
    go_ret
    exact ⟨rfl, rfl⟩
  · rw [cmpI_gt h]
    have h' : decide (x < y) = false := by simp; omega
    go_enter Tryz.func95, Tryz.ntmps95
    go_wp2_with (go_at_call 139; refine (nan3 _ _).mono ?_; rintro e w' ⟨rfl, rfl⟩)
    go_ret
    exact ⟨rfl, rfl⟩
set_option maxHeartbeats 1000000 in
theorem cmp2 (x y : Int) (w : World) : Calls Tryz.prog 97 #[.int .i64 x, .int .i64 y] w fun e w' => e = .returned (.int .i64 (cmpI x y)) ∧ w' = w := by
  rcases Int.lt_trichotomy x y with h | rfl | h
  · rw [cmpI_lt h]
    go_enter Tryz.func97, Tryz.ntmps97
    go_wp2_with (go_at_call 140; refine (nan2 _ _).mono ?_; rintro e w' ⟨rfl, rfl⟩)
    go_ret
    exact ⟨rfl, rfl⟩
  · rw [cmpI_eq]
    go_enter Tryz.func97, Tryz.ntmps97
    go_wp2_with (go_at_call 140; refine (nan2 _ _).mono ?_; rintro e w' ⟨rfl, rfl⟩)
    go_ret
    exact ⟨rfl, rfl⟩
  · rw [cmpI_gt h]
    have h' : decide (x < y) = false := by simp; omega
    go_enter Tryz.func97, Tryz.ntmps97
    go_wp2_with (go_at_call 140; refine (nan2 _ _).mono ?_; rintro e w' ⟨rfl, rfl⟩)
    go_ret
    exact ⟨rfl, rfl⟩
set_option maxHeartbeats 1000000 in
set_option maxRecDepth 100000 in
theorem cmpStr0 (a b : ByteArray) (w : World) : Calls Tryz.prog 141 #[.string a, .string b] w fun e w' => e = .returned (.int .i64 (cmpS a b)) ∧ w' = w := by
  go_enter Tryz.func141, Tryz.ntmps141
  go_wp2
  rw [run_callFunc_extern Tryz.func169 (by kernel_rfl) (by kernel_rfl) (by kernel_rfl) (e := Extern.BytealgCompare.compare) (by kernel_rfl), Lib.run_compareString]
  simp only [Result.andThen]
  rw [Oper.upon_value]
  go_wp2
  go_ret
  exact ⟨rfl, rfl⟩
set_option maxHeartbeats 1000000 in
theorem cmpStr (a b : ByteArray) (w : World) : Calls Tryz.prog 98 #[.string a, .string b] w fun e w' => e = .returned (.int .i64 (cmpS a b)) ∧ w' = w := by
  go_enter Tryz.func98, Tryz.ntmps98
  go_wp2_with (go_at_call 141; refine (cmpStr0 _ _ _).mono ?_; rintro e w' ⟨rfl, rfl⟩)
  go_ret
  exact ⟨rfl, rfl⟩
theorem cmp3_one (w : World) : Calls Tryz.prog 95 #[.int .i64 1, .int .i64 1] w fun e w' => e = .returned (.int .i64 0) ∧ w' = w := cmp3 1 1 w
theorem rank_num (x : Int) (w : World) : Calls Tryz.prog 96 #[numV x] w fun e w' => e = .returned (.int .i64 1) ∧ Below w.heap.size w w' := by
  unfold numV
  go_enter Tryz.func96, Tryz.ntmps96
  go_wp2
  go_ret
  exact ⟨rfl, (Below.refl _ w).alloc (Nat.le_refl _) _⟩
theorem hid_of {p : Prop} (h : p) : Hid p := h
theorem below_drew {B : Nat} {x w : World} (h : Below B x w) : Below B x w.drew := ⟨h.os, h.tape, h.output, h.size, h.block⟩
theorem new1 (w : World) (o o' : Obj) : ((w.alloc o).alloc o').heap[w.heap.size]? = some o := by
  rw [Below.heap_alloc _ _ _ (by simp)]
  exact heap_alloc_new w o
theorem new2 (w : World) (o o' : Obj) : ((w.alloc o).alloc o').heap[w.heap.size + 1]? = some o' := by
  have := heap_alloc_new (w.alloc o) o'
  rw [World.size_alloc] at this
  exact this
theorem row_cells {w : World} {B : Nat} {c0 c1 c2 c3 c4 : Value} {t : TypeId} (h : w.heap[B]? = some (.cells #[c0, c1, c2, c3, c4] t (0, 0))) : w.cell? ⟨B, 0, none⟩ = some c0 ∧ w.cell? ⟨B, 1, none⟩ = some c1 ∧ w.cell? ⟨B, 2, none⟩ = some c2 ∧ w.cell? ⟨B, 3, none⟩ = some c3 ∧ w.cell? ⟨B, 4, none⟩ = some c4 ∧ ∀ j, w.frozen? ⟨B, j, none⟩ = false := by
  refine ⟨?_, ?_, ?_, ?_, ?_, fun j => ?_⟩
  all_goals simp [World.cell?, World.frozen?, h]

theorem add_off (b o j : Nat) : (⟨b, o, none⟩ : Addr).add j = ⟨b, o + j, none⟩ := by unfold Addr.add; split <;> simp_all
theorem lt_of_cell {W : World} {p : Addr} {v : Value} (h : W.cell? p = some v) : p.block < W.heap.size := by
  rcases Nat.lt_or_ge p.block W.heap.size with h' | h'
  · exact h'
  · simp [World.cell?, Array.getElem?_eq_none h'] at h

theorem cell_alloc' {W : World} {p : Addr} {v : Value} (h : W.cell? p = some v) (o : Obj) : (W.alloc o).cell? p = some v := (World.cell?_of_block (w := W) (a := p) (Below.heap_alloc _ _ _ (lt_of_cell h))).trans h
theorem stay {w w' : World} (h : Below w.heap.size w w') {p : Addr} {v : Value} (hc : w.cell? p = some v) : w'.cell? p = some v := (h.cell (lt_of_cell hc)).trans hc


theorem block_keep {w wx : World} {g : Nat} {o : Obj} (h : w.heap[g]? = some o) (hb : Below w.heap.size w wx) : wx.heap[g]? = some o := (hb.block _ (Array.getElem?_eq_some_iff.1 h).1).trans h
set_option maxHeartbeats 1000000 in
set_option maxRecDepth 100000 in
theorem compare_num (x y : Int) (w : World) : Calls Tryz.prog 64 #[numV x, numV y] w fun e w' => e = .returned (.int .i64 (cmpI x y)) ∧ Below w.heap.size w w' := by
  have h0 := new1 w (numC x) (numC y)
  have h1 := new2 w (numC x) (numC y)
  have HB : Below w.heap.size w ((w.alloc (numC x)).alloc (numC y)) := ((Below.refl _ w).alloc (Nat.le_refl _) _).alloc (by simp) _
  have hr := fun y W => hid_of (rank_num y W)
  have hc := fun W => hid_of (cmp2 x y W)
  unfold numC at h0 h1 HB
  unfold numV at *
  go_enter Tryz.func64, Tryz.ntmps64
  go_wp2_with fail
  generalize (w.alloc (.cells #[.int .i64 3, .int .i64 x, .string ⟨#[]⟩, .slice none 0 0, .slice none 0 0] 25)).alloc (.cells #[.int .i64 3, .int .i64 y, .string ⟨#[]⟩, .slice none 0 0, .slice none 0 0] 25) = X at h0 h1 HB
  obtain ⟨y0, y1, y2, y3, y4, -⟩ := row_cells h0
  obtain ⟨z0, z1, z2, z3, z4, -⟩ := row_cells h1
  refine wp_region_quiet (C := fun w' => Below X.heap.size X w') (by kernel_rfl) (by kernel_rfl) (below_drewN (Below.refl _ _) 1) ?_
  refine wpQuiet_step (fun K hK => ?_)
  refine ⟨.agg #[.int .i64 3, .int .i64 x, .string ⟨#[]⟩, .slice none 0 0, .slice none 0 0], fun w' hw' => ?_, hK _ ?_⟩
  · have t0 := stay hw' y0
    have t1 := stay hw' y1
    have t2 := stay hw' y2
    have t3 := stay hw' y3
    have t4 := stay hw' y4
    go_simp
  clear hK K
  refine wpQuiet_step (fun K hK => ?_)
  refine ⟨.int .i64 1, fun w' hw' => ?_, hK _ ?_⟩
  · go_simp
    refine ((hr _ w').out).mono ?_
    rintro e w'' ⟨rfl, hb⟩
    exact ⟨rfl, hw'.trans (hb.mono hw'.size)⟩
  clear hK K
  refine wpQuiet_step (fun K hK => ?_)
  refine ⟨.agg #[.int .i64 3, .int .i64 y, .string ⟨#[]⟩, .slice none 0 0, .slice none 0 0], fun w' hw' => ?_, hK _ ?_⟩
  · have t0 := stay hw' z0
    have t1 := stay hw' z1
    have t2 := stay hw' z2
    have t3 := stay hw' z3
    have t4 := stay hw' z4
    go_simp
  clear hK K
  refine wpQuiet_step (fun K hK => ?_)
  refine ⟨.int .i64 1, fun w' hw' => ?_, hK _ ?_⟩
  · go_simp
    refine ((hr _ w').out).mono ?_
    rintro e w'' ⟨rfl, hb⟩
    exact ⟨rfl, hw'.trans (hb.mono hw'.size)⟩
  clear hK K
  refine wpQuiet_step (fun K hK => ?_)
  refine ⟨.int .i64 0, fun w' hw' => ?_, hK _ ?_⟩
  · go_simp
    refine (cmp3_one w').mono ?_
    rintro e w'' ⟨rfl, rfl⟩
    exact ⟨rfl, hw'⟩
  clear hK K
  refine wpQuiet_step (fun K hK => ?_)
  go_simp
  refine ⟨_, fun _ _ => rfl, hK _ ?_⟩
  clear hK K
  refine wpQuiet_nil ?_
  intro Y hY
  have k0 := stay hY y0; have k1 := stay hY y1; have k2 := stay hY z1
  go_wp2_with (go_at_call 97; refine (hc _).out.mono ?_; rintro e w' ⟨rfl, rfl⟩)
  go_ret
  exact ⟨rfl, HB.trans (hY.mono HB.size)⟩
/-- Five cells of a number. -/
def NumAt (w : World) (b o : Nat) (x : Int) : Prop := w.cell? ⟨b, o, none⟩ = some (.int .i64 3) ∧ w.cell? ⟨b, o + 1, none⟩ = some (.int .i64 x) ∧ w.cell? ⟨b, o + 2, none⟩ = some (.string ⟨#[]⟩) ∧ w.cell? ⟨b, o + 3, none⟩ = some (.slice none 0 0) ∧ w.cell? ⟨b, o + 4, none⟩ = some (.slice none 0 0)
theorem NumAt.keep {w w' : World} {b o : Nat} {x : Int} (h : NumAt w b o x) (hb : Below w.heap.size w w') : NumAt w' b o x := ⟨stay hb h.1, stay hb h.2.1, stay hb h.2.2.1, stay hb h.2.2.2.1, stay hb h.2.2.2.2⟩
theorem AV : (Tryz.prog.info? 25).map (fun i => (i.zero, i.size, i.bytes)) = some (some (.agg #[.int .i64 0, .int .i64 0, .string { data := #[] }, .slice none 0 0, .slice none 0 0]), 5, 80) := by kernel_rfl
def nameA : ByteArray := ⟨#[116]⟩
def objV (bn cn bi ci : Nat) : Value := .agg #[.int .i64 6, .int .i64 0, .string ⟨#[]⟩, .slice (some ⟨bn, 0, none⟩) 1 cn, .slice (some ⟨bi, 0, none⟩) 1 ci]
def objC (bn cn bi ci : Nat) : Obj := .cells #[.int .i64 6, .int .i64 0, .string ⟨#[]⟩, .slice (some ⟨bn, 0, none⟩) 1 cn, .slice (some ⟨bi, 0, none⟩) 1 ci] 25
def FiveAt (w : World) (b : Nat) (c0 c1 c2 c3 c4 : Value) : Prop := w.cell? ⟨b, 0, none⟩ = some c0 ∧ w.cell? ⟨b, 1, none⟩ = some c1 ∧ w.cell? ⟨b, 2, none⟩ = some c2 ∧ w.cell? ⟨b, 3, none⟩ = some c3 ∧ w.cell? ⟨b, 4, none⟩ = some c4
theorem FiveAt.keep {w w' : World} {b : Nat} {c0 c1 c2 c3 c4 : Value} (h : FiveAt w b c0 c1 c2 c3 c4) (hb : Below w.heap.size w w') : FiveAt w' b c0 c1 c2 c3 c4 := ⟨stay hb h.1, stay hb h.2.1, stay hb h.2.2.1, stay hb h.2.2.2.1, stay hb h.2.2.2.2⟩
theorem five_at {w : World} {b : Nat} {c0 c1 c2 c3 c4 : Value} {t : TypeId} (h : w.heap[b]? = some (.cells #[c0, c1, c2, c3, c4] t (0, 0))) : FiveAt w b c0 c1 c2 c3 c4 := by
  obtain ⟨h0, h1, h2, h3, h4, -⟩ := row_cells h
  exact ⟨h0, h1, h2, h3, h4⟩
theorem heap_new' {w : World} {n : Nat} {o : Obj} (h : n = w.heap.size) : (w.alloc o).heap[n]? = some o := by rw [h]; exact heap_alloc_new w o
theorem sindex_a (bn cn : Nat) (w : World) (h : w.cell? ⟨bn, 0, none⟩ = some (.string nameA)) : Calls Tryz.prog 173 #[.slice (some ⟨bn, 0, none⟩) 1 cn, .string nameA] w fun e w' => e = .returned (.int .i64 0) ∧ w' = w := by
  have := Tryz.slices_Index_string bn 0 1 cn [nameA] nameA w (by simp) (by omega) (fun j hj => by
    have : j = 0 := by simpa using hj
    subst this
    exact h)
  have e : Lib.idxOfS ([nameA].take 1) nameA = 0 := by simp [Lib.idxOfS, Lib.idxFromS]
  rw [e] at this
  exact this
set_option maxHeartbeats 1000000 in
set_option maxRecDepth 100000 in
theorem place_a (bn cn bi ci : Nat) (w : World) (h : w.cell? ⟨bn, 0, none⟩ = some (.string nameA)) :
    Calls Tryz.prog 195 #[objV bn cn bi ci, .string nameA] w fun e w' => e = .returned (.tuple #[.int .i64 0, .bool true]) ∧ w' = (w.alloc (objC bn cn bi ci)).drew := by
  have hi := hid_of (sindex_a bn cn _ (cell_alloc' h (objC bn cn bi ci)))
  unfold objV objC at *
  go_enter Tryz.func195, Tryz.ntmps195
  go_wp2_with fail
  refine hi.out.mono ?_
  rintro e w1 ⟨rfl, rfl⟩
  go_wp2_with fail
  go_region
  go_wp2_with fail
  go_ret2
  exact ⟨rfl, rfl⟩
set_option maxHeartbeats 1000000 in
set_option maxRecDepth 100000 in
theorem gather_a (x : Int) (bn cn bi ci bp cp : Nat) (w : World) (h : w.cell? ⟨bn, 0, none⟩ = some (.string nameA)) (hI : NumAt w bi 0 x) (hp : w.cell? ⟨bp, 0, none⟩ = some (.string nameA)) :
    Calls Tryz.prog 188 #[.slice none 0 0, objV bn cn bi ci, .slice (some ⟨bp, 0, none⟩) 1 cp] w fun e w' => Below w.heap.size w w' ∧ ∃ g cap, e = .returned (.slice (some ⟨g, 0, none⟩) 1 cap) ∧ NumAt w' g 0 x := by
  have hpl := fun o => hid_of (place_a bn cn bi ci _ (cell_alloc' h o))
  have p0 := fun o => cell_alloc' hp o
  have d0 := fun o1 o2 => cell_alloc' (cell_alloc' hI.1 o1) o2
  have d1 := fun o1 o2 => cell_alloc' (cell_alloc' hI.2.1 o1) o2
  have d2 := fun o1 o2 => cell_alloc' (cell_alloc' hI.2.2.1 o1) o2
  have d3 := fun o1 o2 => cell_alloc' (cell_alloc' hI.2.2.2.1 o1) o2
  have d4 := fun o1 o2 => cell_alloc' (cell_alloc' hI.2.2.2.2 o1) o2
  simp only [Nat.zero_add] at d1 d2 d3 d4
  obtain ⟨i5, hi5, hz0, hz1, hz2⟩ := info_parts AV
  clear h hI hp
  unfold objV objC at *
  go_enter Tryz.func188, Tryz.ntmps188
  go_wp2_with fail
  refine wp_loop_rounds 2 ?_
  rw [rounds_succ]
  go_wp2_with fail
  refine (hpl _).out.mono ?_
  rintro e w1 ⟨rfl, rfl⟩
  clear hpl
  go_wp2_with fail
  rw [rounds_succ]
  go_wp2_with (at_builtin; refine wpList_append_lies _ rfl _ _ 23 rfl w.heap.size 25 i5 _ 5 80 Tryz.underlying23 hi5 hz0 hz1 hz2 rfl (by decide) _ 0 ([] : List Value) rfl (World.ownsRow_nil _ _ _ _) _ 1 1 [.int .i64 3, .int .i64 x, .string ⟨#[]⟩, .slice none 0 0, .slice none 0 0] rfl rfl (World.news_of_block (heap_new' (by simp))) (by simp [Value.oneCell']) (by decide) (by unfold maxLen; omega) (by omega) (by simp; omega) _ rfl ?_; intro g cap w4 hown4 hgrow4 hat4 hlt4)
  go_ret
  refine ⟨?_, g, cap, rfl, ?_⟩
  · refine Below.trans ?_ (grown_below hgrow4 (by simp; omega) (fun g hg => by cases hg))
    repeat (first | exact Below.refl _ _ | refine below_drewN ?_ _ | refine below_drew ?_ | (refine Below.alloc ?_ ?_ _; (rotate_left; (simp <;> omega))))
  · exact ⟨hown4.cellAt 0 (by omega), hown4.cellAt 1 (by omega), hown4.cellAt 2 (by omega), hown4.cellAt 3 (by omega), hown4.cellAt 4 (by omega)⟩
theorem all_a (x : Int) (bn cn bi ci bp cp : Nat) (w : World) (h : w.cell? ⟨bn, 0, none⟩ = some (.string nameA)) (hI : NumAt w bi 0 x) (hp : w.cell? ⟨bp, 0, none⟩ = some (.string nameA)) :
    Calls Tryz.prog 179 #[objV bn cn bi ci, .slice (some ⟨bp, 0, none⟩) 1 cp] w fun e w' => Below w.heap.size w w' ∧ ∃ g cap, e = .returned (.slice (some ⟨g, 0, none⟩) 1 cap) ∧ NumAt w' g 0 x := by
  have HB : Below w.heap.size w (w.alloc (objC bn cn bi ci)) := (Below.refl _ w).alloc (Nat.le_refl _) _
  have hg := hid_of (gather_a x bn cn bi ci bp cp _ (stay HB h) (hI.keep HB) (stay HB hp))
  clear h hI hp
  unfold objV objC at *
  go_enter Tryz.func179, Tryz.ntmps179
  go_wp2_with fail
  refine hg.out.mono ?_
  rintro e w1 ⟨hb1, g, cap, rfl, hN⟩
  replace hN := hid_of hN
  clear hg
  go_wp2_with fail
  go_ret
  exact ⟨HB.trans (hb1.mono HB.size), g, cap, rfl, hN.out⟩
end Go.Proofs.YtdghkmgkmfnjjaaGreatDoor
