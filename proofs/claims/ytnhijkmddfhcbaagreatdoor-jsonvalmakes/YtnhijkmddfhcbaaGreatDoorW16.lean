import Derived.Test.YtnhijkmddfhcbaaGreatDoorW15
namespace Go.Proofs.YtnhijkmddfhcbaaGreatDoor
open Go Go.RowKit Go.Maps

theorem box_cells {w w1 : World} {cs : Array Value} {t : TypeId} (hb : Below (w.heap.size + 1) (w.alloc (.cells cs t)) w1) (j : Nat) : w1.cell? ⟨w.heap.size, j, none⟩ = cs[j]? := by
  rw [hb.cell (p := ⟨w.heap.size, j, none⟩) (by show w.heap.size < w.heap.size + 1; omega)]
  exact cell_of (heap_alloc_new w _) j
theorem below_box {w w1 : World} {o : Obj} (hb : Below (w.heap.size + 1) (w.alloc o) w1) : Below w.heap.size w w1 := ((Below.refl _ w).alloc (Nat.le_refl _) o).trans (hb.mono (by omega))
theorem utf_alloc {w : World} (h : Lib.Utf8Tabs 1 2 w) (h8 : 8 ≤ w.heap.size) (o : Obj) : Lib.Utf8Tabs 1 2 (w.alloc o) := utf_keep h (fun k hk => Below.heap_alloc w o k (by omega))
theorem utf_below {w w1 : World} {B : Nat} (h : Lib.Utf8Tabs 1 2 w) (hb : Below B w w1) (h8 : 8 ≤ B) : Lib.Utf8Tabs 1 2 w1 := utf_keep h (fun k hk => hb.block k (by omega))

set_option maxHeartbeats 1000000 in
theorem alone_flat0  (a1 : Option Addr) (c1 : Nat) (a2 : Option Addr) (c2 : Nat) (d : Int) (hd2 : ¬ 64 < d) (w : World) (hU : Lib.Utf8Tabs 1 2 w) (h8 : 8 ≤ w.heap.size) :
    Calls Tryz.prog 48 #[.agg #[.int .i64 0, .int .i64 0, .string noS, .slice a1 0 c1, .slice a2 0 c2], .int .i64 d] w fun e w' => e = .returned (.int .i64 0) ∧ Below w.heap.size w w' := by
  have HV : Hid (Lib.validD noS.data.toList = true) := rfl
  have hF : Fits 0 0 noS 0 0 := .flat 0 (by decide)
  go_enter Tryz.func48, Tryz.ntmps48
  go_wp2_with (go_at_call 66; refine (deep_flat _ rfl rfl _).mono ?_; rintro e w' ⟨rfl, rfl⟩)
  refine (keeps_any 0 0 noS a1 0 c1 a2 0 c2 hF _).mono ?_
  rintro e w1 ⟨rfl, hb1⟩
  rw [World.size_alloc] at hb1
  have z2 : w1.cell? ⟨w.heap.size, 2, none⟩ = some (.string noS) := box_cells hb1 2
  have hU1 := utf_below (utf_alloc hU h8 (.cells #[.int .i64 0, .int .i64 0, .string noS, .slice a1 0 c1, .slice a2 0 c2] 26)) hb1 (by omega)
  go_wp2_with fail
  refine (Tryz.valid noS w1 (by decide) hU1).mono ?_
  rintro e w2 ⟨rfl, hb2⟩
  have hb12 := hb1.trans (hb2.mono (by have := hb1.size; simp at this; omega))
  have y0 : w2.cell? ⟨w.heap.size, 0, none⟩ = some (.int .i64 0) := box_cells hb12 0
  have y3 : w2.cell? ⟨w.heap.size, 3, none⟩ = some (.slice a1 0 c1) := box_cells hb12 3
  have y4 : w2.cell? ⟨w.heap.size, 4, none⟩ = some (.slice a2 0 c2) := box_cells hb12 4
  rw [HV.out]
  go_wp2_with fail
  go_ret
  exact ⟨rfl, below_box hb12⟩

set_option maxHeartbeats 1000000 in
theorem alone_flat1  (a1 : Option Addr) (c1 : Nat) (a2 : Option Addr) (c2 : Nat) (d : Int) (hd2 : ¬ 64 < d) (w : World) (hU : Lib.Utf8Tabs 1 2 w) (h8 : 8 ≤ w.heap.size) :
    Calls Tryz.prog 48 #[.agg #[.int .i64 1, .int .i64 0, .string noS, .slice a1 0 c1, .slice a2 0 c2], .int .i64 d] w fun e w' => e = .returned (.int .i64 0) ∧ Below w.heap.size w w' := by
  have HV : Hid (Lib.validD noS.data.toList = true) := rfl
  have hF : Fits 1 0 noS 0 0 := .flat 1 (by decide)
  go_enter Tryz.func48, Tryz.ntmps48
  go_wp2_with (go_at_call 66; refine (deep_flat _ rfl rfl _).mono ?_; rintro e w' ⟨rfl, rfl⟩)
  refine (keeps_any 1 0 noS a1 0 c1 a2 0 c2 hF _).mono ?_
  rintro e w1 ⟨rfl, hb1⟩
  rw [World.size_alloc] at hb1
  have z2 : w1.cell? ⟨w.heap.size, 2, none⟩ = some (.string noS) := box_cells hb1 2
  have hU1 := utf_below (utf_alloc hU h8 (.cells #[.int .i64 1, .int .i64 0, .string noS, .slice a1 0 c1, .slice a2 0 c2] 26)) hb1 (by omega)
  go_wp2_with fail
  refine (Tryz.valid noS w1 (by decide) hU1).mono ?_
  rintro e w2 ⟨rfl, hb2⟩
  have hb12 := hb1.trans (hb2.mono (by have := hb1.size; simp at this; omega))
  have y0 : w2.cell? ⟨w.heap.size, 0, none⟩ = some (.int .i64 1) := box_cells hb12 0
  have y3 : w2.cell? ⟨w.heap.size, 3, none⟩ = some (.slice a1 0 c1) := box_cells hb12 3
  have y4 : w2.cell? ⟨w.heap.size, 4, none⟩ = some (.slice a2 0 c2) := box_cells hb12 4
  rw [HV.out]
  go_wp2_with fail
  go_ret
  exact ⟨rfl, below_box hb12⟩

set_option maxHeartbeats 1000000 in
theorem alone_flat2  (a1 : Option Addr) (c1 : Nat) (a2 : Option Addr) (c2 : Nat) (d : Int) (hd2 : ¬ 64 < d) (w : World) (hU : Lib.Utf8Tabs 1 2 w) (h8 : 8 ≤ w.heap.size) :
    Calls Tryz.prog 48 #[.agg #[.int .i64 2, .int .i64 0, .string noS, .slice a1 0 c1, .slice a2 0 c2], .int .i64 d] w fun e w' => e = .returned (.int .i64 0) ∧ Below w.heap.size w w' := by
  have HV : Hid (Lib.validD noS.data.toList = true) := rfl
  have hF : Fits 2 0 noS 0 0 := .flat 2 (by decide)
  go_enter Tryz.func48, Tryz.ntmps48
  go_wp2_with (go_at_call 66; refine (deep_flat _ rfl rfl _).mono ?_; rintro e w' ⟨rfl, rfl⟩)
  refine (keeps_any 2 0 noS a1 0 c1 a2 0 c2 hF _).mono ?_
  rintro e w1 ⟨rfl, hb1⟩
  rw [World.size_alloc] at hb1
  have z2 : w1.cell? ⟨w.heap.size, 2, none⟩ = some (.string noS) := box_cells hb1 2
  have hU1 := utf_below (utf_alloc hU h8 (.cells #[.int .i64 2, .int .i64 0, .string noS, .slice a1 0 c1, .slice a2 0 c2] 26)) hb1 (by omega)
  go_wp2_with fail
  refine (Tryz.valid noS w1 (by decide) hU1).mono ?_
  rintro e w2 ⟨rfl, hb2⟩
  have hb12 := hb1.trans (hb2.mono (by have := hb1.size; simp at this; omega))
  have y0 : w2.cell? ⟨w.heap.size, 0, none⟩ = some (.int .i64 2) := box_cells hb12 0
  have y3 : w2.cell? ⟨w.heap.size, 3, none⟩ = some (.slice a1 0 c1) := box_cells hb12 3
  have y4 : w2.cell? ⟨w.heap.size, 4, none⟩ = some (.slice a2 0 c2) := box_cells hb12 4
  rw [HV.out]
  go_wp2_with fail
  go_ret
  exact ⟨rfl, below_box hb12⟩

set_option maxHeartbeats 1000000 in
theorem alone_int (x : Int) (a1 : Option Addr) (c1 : Nat) (a2 : Option Addr) (c2 : Nat) (d : Int) (hd2 : ¬ 64 < d) (w : World) (hU : Lib.Utf8Tabs 1 2 w) (h8 : 8 ≤ w.heap.size) :
    Calls Tryz.prog 48 #[.agg #[.int .i64 3, .int .i64 x, .string noS, .slice a1 0 c1, .slice a2 0 c2], .int .i64 d] w fun e w' => e = .returned (.int .i64 0) ∧ Below w.heap.size w w' := by
  have HV : Hid (Lib.validD noS.data.toList = true) := rfl
  have hF : Fits 3 x noS 0 0 := .int x
  go_enter Tryz.func48, Tryz.ntmps48
  go_wp2_with (go_at_call 66; refine (deep_flat _ rfl rfl _).mono ?_; rintro e w' ⟨rfl, rfl⟩)
  refine (keeps_any 3 x noS a1 0 c1 a2 0 c2 hF _).mono ?_
  rintro e w1 ⟨rfl, hb1⟩
  rw [World.size_alloc] at hb1
  have z2 : w1.cell? ⟨w.heap.size, 2, none⟩ = some (.string noS) := box_cells hb1 2
  have hU1 := utf_below (utf_alloc hU h8 (.cells #[.int .i64 3, .int .i64 x, .string noS, .slice a1 0 c1, .slice a2 0 c2] 26)) hb1 (by omega)
  go_wp2_with fail
  refine (Tryz.valid noS w1 (by decide) hU1).mono ?_
  rintro e w2 ⟨rfl, hb2⟩
  have hb12 := hb1.trans (hb2.mono (by have := hb1.size; simp at this; omega))
  have y0 : w2.cell? ⟨w.heap.size, 0, none⟩ = some (.int .i64 3) := box_cells hb12 0
  have y3 : w2.cell? ⟨w.heap.size, 3, none⟩ = some (.slice a1 0 c1) := box_cells hb12 3
  have y4 : w2.cell? ⟨w.heap.size, 4, none⟩ = some (.slice a2 0 c2) := box_cells hb12 4
  rw [HV.out]
  go_wp2_with fail
  go_ret
  exact ⟨rfl, below_box hb12⟩

set_option maxHeartbeats 1000000 in
theorem alone_text (s : ByteArray) (hs : s.size ≤ 65536) (HV : Hid (Lib.validD s.data.toList = true)) (a1 : Option Addr) (c1 : Nat) (a2 : Option Addr) (c2 : Nat) (d : Int) (hd2 : ¬ 64 < d) (w : World) (hU : Lib.Utf8Tabs 1 2 w) (h8 : 8 ≤ w.heap.size) :
    Calls Tryz.prog 48 #[.agg #[.int .i64 4, .int .i64 0, .string s, .slice a1 0 c1, .slice a2 0 c2], .int .i64 d] w fun e w' => e = .returned (.int .i64 0) ∧ Below w.heap.size w w' := by
  have hF : Fits 4 0 s 0 0 := .text s
  go_enter Tryz.func48, Tryz.ntmps48
  go_wp2_with (go_at_call 66; refine (deep_flat _ rfl rfl _).mono ?_; rintro e w' ⟨rfl, rfl⟩)
  refine (keeps_any 4 0 s a1 0 c1 a2 0 c2 hF _).mono ?_
  rintro e w1 ⟨rfl, hb1⟩
  rw [World.size_alloc] at hb1
  have z2 : w1.cell? ⟨w.heap.size, 2, none⟩ = some (.string s) := box_cells hb1 2
  have hU1 := utf_below (utf_alloc hU h8 (.cells #[.int .i64 4, .int .i64 0, .string s, .slice a1 0 c1, .slice a2 0 c2] 26)) hb1 (by omega)
  go_wp2_with fail
  refine (Tryz.valid s w1 (by omega) hU1).mono ?_
  rintro e w2 ⟨rfl, hb2⟩
  have hb12 := hb1.trans (hb2.mono (by have := hb1.size; simp at this; omega))
  have y0 : w2.cell? ⟨w.heap.size, 0, none⟩ = some (.int .i64 4) := box_cells hb12 0
  have y3 : w2.cell? ⟨w.heap.size, 3, none⟩ = some (.slice a1 0 c1) := box_cells hb12 3
  have y4 : w2.cell? ⟨w.heap.size, 4, none⟩ = some (.slice a2 0 c2) := box_cells hb12 4
  rw [HV.out]
  go_wp2_with fail
  go_ret
  exact ⟨rfl, below_box hb12⟩

set_option maxHeartbeats 1000000 in
theorem alone_list (n : Nat) (a1 : Option Addr) (c1 : Nat) (a2 : Option Addr) (c2 : Nat) (d : Int) (hd2 : ¬ 63 < d) (w : World) (hU : Lib.Utf8Tabs 1 2 w) (h8 : 8 ≤ w.heap.size) :
    Calls Tryz.prog 48 #[.agg #[.int .i64 5, .int .i64 0, .string noS, .slice a1 0 c1, .slice a2 n c2], .int .i64 d] w fun e w' => e = .returned (.int .i64 0) ∧ Below w.heap.size w w' := by
  have HV : Hid (Lib.validD noS.data.toList = true) := rfl
  have hF : Fits 5 0 noS 0 n := .list n
  go_enter Tryz.func48, Tryz.ntmps48
  go_wp2_with (go_at_call 66; refine (deep_nest _ (by decide) _).mono ?_; rintro e w' ⟨rfl, rfl⟩)
  refine (keeps_any 5 0 noS a1 0 c1 a2 n c2 hF _).mono ?_
  rintro e w1 ⟨rfl, hb1⟩
  rw [World.size_alloc] at hb1
  have z2 : w1.cell? ⟨w.heap.size, 2, none⟩ = some (.string noS) := box_cells hb1 2
  have hU1 := utf_below (utf_alloc hU h8 (.cells #[.int .i64 5, .int .i64 0, .string noS, .slice a1 0 c1, .slice a2 n c2] 26)) hb1 (by omega)
  go_wp2_with fail
  refine (Tryz.valid noS w1 (by decide) hU1).mono ?_
  rintro e w2 ⟨rfl, hb2⟩
  have hb12 := hb1.trans (hb2.mono (by have := hb1.size; simp at this; omega))
  have y0 : w2.cell? ⟨w.heap.size, 0, none⟩ = some (.int .i64 5) := box_cells hb12 0
  have y3 : w2.cell? ⟨w.heap.size, 3, none⟩ = some (.slice a1 0 c1) := box_cells hb12 3
  have y4 : w2.cell? ⟨w.heap.size, 4, none⟩ = some (.slice a2 n c2) := box_cells hb12 4
  rw [HV.out]
  go_wp2_with fail
  go_ret
  exact ⟨rfl, below_box hb12⟩

set_option maxHeartbeats 1000000 in
theorem alone_obj (n : Nat) (a1 : Option Addr) (c1 : Nat) (a2 : Option Addr) (c2 : Nat) (d : Int) (hd2 : ¬ 63 < d) (w : World) (hU : Lib.Utf8Tabs 1 2 w) (h8 : 8 ≤ w.heap.size) :
    Calls Tryz.prog 48 #[.agg #[.int .i64 6, .int .i64 0, .string noS, .slice a1 n c1, .slice a2 n c2], .int .i64 d] w fun e w' => e = .returned (.int .i64 0) ∧ Below w.heap.size w w' := by
  have HV : Hid (Lib.validD noS.data.toList = true) := rfl
  have hF : Fits 6 0 noS n n := .obj n
  go_enter Tryz.func48, Tryz.ntmps48
  go_wp2_with (go_at_call 66; refine (deep_nest _ (by decide) _).mono ?_; rintro e w' ⟨rfl, rfl⟩)
  refine (keeps_any 6 0 noS a1 n c1 a2 n c2 hF _).mono ?_
  rintro e w1 ⟨rfl, hb1⟩
  rw [World.size_alloc] at hb1
  have z2 : w1.cell? ⟨w.heap.size, 2, none⟩ = some (.string noS) := box_cells hb1 2
  have hU1 := utf_below (utf_alloc hU h8 (.cells #[.int .i64 6, .int .i64 0, .string noS, .slice a1 n c1, .slice a2 n c2] 26)) hb1 (by omega)
  go_wp2_with fail
  refine (Tryz.valid noS w1 (by decide) hU1).mono ?_
  rintro e w2 ⟨rfl, hb2⟩
  have hb12 := hb1.trans (hb2.mono (by have := hb1.size; simp at this; omega))
  have y0 : w2.cell? ⟨w.heap.size, 0, none⟩ = some (.int .i64 6) := box_cells hb12 0
  have y3 : w2.cell? ⟨w.heap.size, 3, none⟩ = some (.slice a1 n c1) := box_cells hb12 3
  have y4 : w2.cell? ⟨w.heap.size, 4, none⟩ = some (.slice a2 n c2) := box_cells hb12 4
  rw [HV.out]
  go_wp2_with fail
  go_ret
  exact ⟨rfl, below_box hb12⟩
end Go.Proofs.YtnhijkmddfhcbaaGreatDoor
