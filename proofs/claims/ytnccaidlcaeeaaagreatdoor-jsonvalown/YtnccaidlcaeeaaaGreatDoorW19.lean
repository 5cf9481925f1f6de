import Derived.Test.YtnccaidlcaeeaaaGreatDoorW14
import Derived.Test.YtnccaidlcaeeaaaGreatDoorShelf3
namespace Go.Proofs.YtnccaidlcaeeaaaGreatDoor
open Go Go.RowKit Go.Maps

/-- What Print leans on besides. -/
structure EnvP (w : World) : Prop where
  utf : Lib.Utf8Tabs 1 2 w
  tab : Lib.TabIs Tryz.prog w "internal/strconv.uint64pow10" .u64 Lib.pow10Tab
  big : 8 ≤ w.heap.size
theorem nest_any (k : Int) (w : World) : Calls Tryz.prog 106 #[.int .i64 k] w fun e w' => e = .returned (.bool (k == 5 || k == 6)) ∧ w' = w := by
  go_enter Tryz.func106, Tryz.ntmps106
  go_wp2
  all_goals (go_ret; exact ⟨ret_bool (by try simp [*]), rfl⟩)
theorem deep_flat (k : Int) (h5 : (k == 5) = false) (h6 : (k == 6) = false) (w : World) : Calls Tryz.prog 91 #[.int .i64 k] w fun e w' => e = .returned (.int .i64 64) ∧ w' = w := by
  go_enter Tryz.func91, Tryz.ntmps91
  go_wp2_with (go_at_call 106; refine (nest_any _ _).mono ?_; rintro e w' ⟨rfl, rfl⟩)
  go_ret
  exact ⟨rfl, rfl⟩
theorem deep_nest (k : Int) (h : k = 5 ∨ k = 6) (w : World) : Calls Tryz.prog 91 #[.int .i64 k] w fun e w' => e = .returned (.int .i64 63) ∧ w' = w := by
  rcases h with rfl | rfl
  all_goals
    go_enter Tryz.func91, Tryz.ntmps91
    go_wp2_with (go_at_call 106; refine (nest_any _ _).mono ?_; rintro e w' ⟨rfl, rfl⟩)
    go_ret
    exact ⟨rfl, rfl⟩
/-- The five cells fit their kind. -/
inductive Fits : Int → Int → ByteArray → Nat → Nat → Prop
  | flat (k : Int) (h : k = 0 ∨ k = 1 ∨ k = 2) : Fits k 0 noS 0 0
  | int (x : Int) : Fits 3 x noS 0 0
  | text (s : ByteArray) : Fits 4 0 s 0 0
  | list (n : Nat) : Fits 5 0 noS 0 n
  | obj (n : Nat) : Fits 6 0 noS n n
set_option maxHeartbeats 1000000 in
theorem keeps_any (k x : Int) (s : ByteArray) (a1 : Option Addr) (l1 c1 : Nat) (a2 : Option Addr) (l2 c2 : Nat) (h : Fits k x s l1 l2) (w : World) :
    Calls Tryz.prog 92 #[.agg #[.int .i64 k, .int .i64 x, .string s, .slice a1 l1 c1, .slice a2 l2 c2]] w fun e w' => e = .returned (.bool true) ∧ Below w.heap.size w w' := by
  have hB : ∀ o, Below w.heap.size w (w.alloc o) := fun o => (Below.refl _ _).alloc (Nat.le_refl _) _
  cases h with
  | flat k h =>
    rcases h with rfl | rfl | rfl
    all_goals
      unfold noS
      go_enter Tryz.func92, Tryz.ntmps92
      go_wp2_with (go_at_call 106; refine (nest_any _ _).mono ?_; rintro e w' ⟨rfl, rfl⟩)
      go_ret
      exact ⟨rfl, hB _⟩
  | int x =>
    unfold noS
    go_enter Tryz.func92, Tryz.ntmps92
    go_wp2_with (go_at_call 106; refine (nest_any _ _).mono ?_; rintro e w' ⟨rfl, rfl⟩)
    all_goals (go_ret; exact ⟨ret_bool (by try simp [*]), hB _⟩)
  | text s =>
    go_enter Tryz.func92, Tryz.ntmps92
    go_wp2_with (go_at_call 106; refine (nest_any _ _).mono ?_; rintro e w' ⟨rfl, rfl⟩)
    all_goals (go_ret; exact ⟨ret_bool (by try simp [*]), hB _⟩)
  | list n =>
    unfold noS
    go_enter Tryz.func92, Tryz.ntmps92
    go_wp2_with (go_at_call 106; refine (nest_any _ _).mono ?_; rintro e w' ⟨rfl, rfl⟩)
    all_goals (go_ret; exact ⟨ret_bool (by try simp [*]), hB _⟩)
  | obj n =>
    unfold noS
    go_enter Tryz.func92, Tryz.ntmps92
    go_wp2_with (go_at_call 106; refine (nest_any _ _).mono ?_; rintro e w' ⟨rfl, rfl⟩)
    all_goals (go_ret; exact ⟨ret_bool (by try simp [*]), hB _⟩)
end Go.Proofs.YtnccaidlcaeeaaaGreatDoor
namespace Go.Proofs.YtnccaidlcaeeaaaGreatDoor
open Go Go.RowKit Go.Maps

theorem box_cells {w w1 : World} {cs : Array Value} {t : TypeId} (hb : Below (w.heap.size + 1) (w.alloc (.cells cs t)) w1) (j : Nat) : w1.cell? ⟨w.heap.size, j, none⟩ = cs[j]? := by
  rw [hb.cell (p := ⟨w.heap.size, j, none⟩) (by show w.heap.size < w.heap.size + 1; omega)]
  exact cell_of (heap_alloc_new w _) j
theorem below_box {w w1 : World} {o : Obj} (hb : Below (w.heap.size + 1) (w.alloc o) w1) : Below w.heap.size w w1 := ((Below.refl _ w).alloc (Nat.le_refl _) o).trans (hb.mono (by omega))
theorem utf_alloc {w : World} (h : Lib.Utf8Tabs 1 2 w) (h8 : 8 ≤ w.heap.size) (o : Obj) : Lib.Utf8Tabs 1 2 (w.alloc o) := utf_keep h (fun k hk => Below.heap_alloc w o k (by omega))
theorem utf_below {w w1 : World} {B : Nat} (h : Lib.Utf8Tabs 1 2 w) (hb : Below B w w1) (h8 : 8 ≤ B) : Lib.Utf8Tabs 1 2 w1 := utf_keep h (fun k hk => hb.block k (by omega))

set_option maxHeartbeats 1000000 in
theorem alone_flat0  (a1 : Option Addr) (c1 : Nat) (a2 : Option Addr) (c2 : Nat) (d : Int) (hd2 : ¬ 64 < d) (w : World) (hU : Lib.Utf8Tabs 1 2 w) (h8 : 8 ≤ w.heap.size) :
    Calls Tryz.prog 69 #[.agg #[.int .i64 0, .int .i64 0, .string noS, .slice a1 0 c1, .slice a2 0 c2], .int .i64 d] w fun e w' => e = .returned (.int .i64 0) ∧ Below w.heap.size w w' := by
  have HV : Hid (Lib.validD noS.data.toList = true) := rfl
  have hF : Fits 0 0 noS 0 0 := .flat 0 (by decide)
  go_enter Tryz.func69, Tryz.ntmps69
  go_wp2_with (go_at_call 91; refine (deep_flat _ rfl rfl _).mono ?_; rintro e w' ⟨rfl, rfl⟩)
  refine (keeps_any 0 0 noS a1 0 c1 a2 0 c2 hF _).mono ?_
  rintro e w1 ⟨rfl, hb1⟩
  rw [World.size_alloc] at hb1
  have z2 : w1.cell? ⟨w.heap.size, 2, none⟩ = some (.string noS) := box_cells hb1 2
  have hU1 := utf_below (utf_alloc hU h8 (.cells #[.int .i64 0, .int .i64 0, .string noS, .slice a1 0 c1, .slice a2 0 c2] 25)) hb1 (by omega)
  go_wp2_with fail
  refine (Tryz.valid noS w1 (by decide) hU1).mono ?_
  rintro e w2 ⟨rfl, hb2⟩
  have hb12 := hb1.trans (hb2.mono (by have := hb1.size; simp at this; omega))
  have y0 : w2.cell? ⟨w.heap.size, 0, none⟩ = some (.int .i64 0) := box_cells hb12 0
  have y3 : w2.cell? ⟨w.heap.size, 3, none⟩ = some (.slice a1 0 c1) := box_cells hb12 3
  have y4 : w2.cell? ⟨w.heap.size, 4, none⟩ = some (.slice a2 0 c2) := box_cells hb12 4
  rw [HV.out]
  go_wp2_with fail
  go_ret
  exact ⟨rfl, below_box hb12⟩

set_option maxHeartbeats 1000000 in
theorem alone_flat1  (a1 : Option Addr) (c1 : Nat) (a2 : Option Addr) (c2 : Nat) (d : Int) (hd2 : ¬ 64 < d) (w : World) (hU : Lib.Utf8Tabs 1 2 w) (h8 : 8 ≤ w.heap.size) :
    Calls Tryz.prog 69 #[.agg #[.int .i64 1, .int .i64 0, .string noS, .slice a1 0 c1, .slice a2 0 c2], .int .i64 d] w fun e w' => e = .returned (.int .i64 0) ∧ Below w.heap.size w w' := by
  have HV : Hid (Lib.validD noS.data.toList = true) := rfl
  have hF : Fits 1 0 noS 0 0 := .flat 1 (by decide)
  go_enter Tryz.func69, Tryz.ntmps69
  go_wp2_with (go_at_call 91; refine (deep_flat _ rfl rfl _).mono ?_; rintro e w' ⟨rfl, rfl⟩)
  refine (keeps_any 1 0 noS a1 0 c1 a2 0 c2 hF _).mono ?_
  rintro e w1 ⟨rfl, hb1⟩
  rw [World.size_alloc] at hb1
  have z2 : w1.cell? ⟨w.heap.size, 2, none⟩ = some (.string noS) := box_cells hb1 2
  have hU1 := utf_below (utf_alloc hU h8 (.cells #[.int .i64 1, .int .i64 0, .string noS, .slice a1 0 c1, .slice a2 0 c2] 25)) hb1 (by omega)
  go_wp2_with fail
  refine (Tryz.valid noS w1 (by decide) hU1).mono ?_
  rintro e w2 ⟨rfl, hb2⟩
  have hb12 := hb1.trans (hb2.mono (by have := hb1.size; simp at this; omega))
  have y0 : w2.cell? ⟨w.heap.size, 0, none⟩ = some (.int .i64 1) := box_cells hb12 0
  have y3 : w2.cell? ⟨w.heap.size, 3, none⟩ = some (.slice a1 0 c1) := box_cells hb12 3
  have y4 : w2.cell? ⟨w.heap.size, 4, none⟩ = some (.slice a2 0 c2) := box_cells hb12 4
  rw [HV.out]
  go_wp2_with fail
  go_ret
  exact ⟨rfl, below_box hb12⟩

set_option maxHeartbeats 1000000 in
theorem alone_flat2  (a1 : Option Addr) (c1 : Nat) (a2 : Option Addr) (c2 : Nat) (d : Int) (hd2 : ¬ 64 < d) (w : World) (hU : Lib.Utf8Tabs 1 2 w) (h8 : 8 ≤ w.heap.size) :
    Calls Tryz.prog 69 #[.agg #[.int .i64 2, .int .i64 0, .string noS, .slice a1 0 c1, .slice a2 0 c2], .int .i64 d] w fun e w' => e = .returned (.int .i64 0) ∧ Below w.heap.size w w' := by
  have HV : Hid (Lib.validD noS.data.toList = true) := rfl
  have hF : Fits 2 0 noS 0 0 := .flat 2 (by decide)
  go_enter Tryz.func69, Tryz.ntmps69
  go_wp2_with (go_at_call 91; refine (deep_flat _ rfl rfl _).mono ?_; rintro e w' ⟨rfl, rfl⟩)
  refine (keeps_any 2 0 noS a1 0 c1 a2 0 c2 hF _).mono ?_
  rintro e w1 ⟨rfl, hb1⟩
  rw [World.size_alloc] at hb1
  have z2 : w1.cell? ⟨w.heap.size, 2, none⟩ = some (.string noS) := box_cells hb1 2
  have hU1 := utf_below (utf_alloc hU h8 (.cells #[.int .i64 2, .int .i64 0, .string noS, .slice a1 0 c1, .slice a2 0 c2] 25)) hb1 (by omega)
  go_wp2_with fail
  refine (Tryz.valid noS w1 (by decide) hU1).mono ?_
  rintro e w2 ⟨rfl, hb2⟩
  have hb12 := hb1.trans (hb2.mono (by have := hb1.size; simp at this; omega))
  have y0 : w2.cell? ⟨w.heap.size, 0, none⟩ = some (.int .i64 2) := box_cells hb12 0
  have y3 : w2.cell? ⟨w.heap.size, 3, none⟩ = some (.slice a1 0 c1) := box_cells hb12 3
  have y4 : w2.cell? ⟨w.heap.size, 4, none⟩ = some (.slice a2 0 c2) := box_cells hb12 4
  rw [HV.out]
  go_wp2_with fail
  go_ret
  exact ⟨rfl, below_box hb12⟩

set_option maxHeartbeats 1000000 in
theorem alone_int (x : Int) (a1 : Option Addr) (c1 : Nat) (a2 : Option Addr) (c2 : Nat) (d : Int) (hd2 : ¬ 64 < d) (w : World) (hU : Lib.Utf8Tabs 1 2 w) (h8 : 8 ≤ w.heap.size) :
    Calls Tryz.prog 69 #[.agg #[.int .i64 3, .int .i64 x, .string noS, .slice a1 0 c1, .slice a2 0 c2], .int .i64 d] w fun e w' => e = .returned (.int .i64 0) ∧ Below w.heap.size w w' := by
  have HV : Hid (Lib.validD noS.data.toList = true) := rfl
  have hF : Fits 3 x noS 0 0 := .int x
  go_enter Tryz.func69, Tryz.ntmps69
  go_wp2_with (go_at_call 91; refine (deep_flat _ rfl rfl _).mono ?_; rintro e w' ⟨rfl, rfl⟩)
  refine (keeps_any 3 x noS a1 0 c1 a2 0 c2 hF _).mono ?_
  rintro e w1 ⟨rfl, hb1⟩
  rw [World.size_alloc] at hb1
  have z2 : w1.cell? ⟨w.heap.size, 2, none⟩ = some (.string noS) := box_cells hb1 2
  have hU1 := utf_below (utf_alloc hU h8 (.cells #[.int .i64 3, .int .i64 x, .string noS, .slice a1 0 c1, .slice a2 0 c2] 25)) hb1 (by omega)
  go_wp2_with fail
  refine (Tryz.valid noS w1 (by decide) hU1).mono ?_
  rintro e w2 ⟨rfl, hb2⟩
  have hb12 := hb1.trans (hb2.mono (by have := hb1.size; simp at this; omega))
  have y0 : w2.cell? ⟨w.heap.size, 0, none⟩ = some (.int .i64 3) := box_cells hb12 0
  have y3 : w2.cell? ⟨w.heap.size, 3, none⟩ = some (.slice a1 0 c1) := box_cells hb12 3
  have y4 : w2.cell? ⟨w.heap.size, 4, none⟩ = some (.slice a2 0 c2) := box_cells hb12 4
  rw [HV.out]
  go_wp2_with fail
  go_ret
  exact ⟨rfl, below_box hb12⟩

set_option maxHeartbeats 1000000 in
theorem alone_text (s : ByteArray) (hs : s.size ≤ 65536) (HV : Hid (Lib.validD s.data.toList = true)) (a1 : Option Addr) (c1 : Nat) (a2 : Option Addr) (c2 : Nat) (d : Int) (hd2 : ¬ 64 < d) (w : World) (hU : Lib.Utf8Tabs 1 2 w) (h8 : 8 ≤ w.heap.size) :
    Calls Tryz.prog 69 #[.agg #[.int .i64 4, .int .i64 0, .string s, .slice a1 0 c1, .slice a2 0 c2], .int .i64 d] w fun e w' => e = .returned (.int .i64 0) ∧ Below w.heap.size w w' := by
  have hF : Fits 4 0 s 0 0 := .text s
  go_enter Tryz.func69, Tryz.ntmps69
  go_wp2_with (go_at_call 91; refine (deep_flat _ rfl rfl _).mono ?_; rintro e w' ⟨rfl, rfl⟩)
  refine (keeps_any 4 0 s a1 0 c1 a2 0 c2 hF _).mono ?_
  rintro e w1 ⟨rfl, hb1⟩
  rw [World.size_alloc] at hb1
  have z2 : w1.cell? ⟨w.heap.size, 2, none⟩ = some (.string s) := box_cells hb1 2
  have hU1 := utf_below (utf_alloc hU h8 (.cells #[.int .i64 4, .int .i64 0, .string s, .slice a1 0 c1, .slice a2 0 c2] 25)) hb1 (by omega)
  go_wp2_with fail
  refine (Tryz.valid s w1 (by omega) hU1).mono ?_
  rintro e w2 ⟨rfl, hb2⟩
  have hb12 := hb1.trans (hb2.mono (by have := hb1.size; simp at this; omega))
  have y0 : w2.cell? ⟨w.heap.size, 0, none⟩ = some (.int .i64 4) := box_cells hb12 0
  have y3 : w2.cell? ⟨w.heap.size, 3, none⟩ = some (.slice a1 0 c1) := box_cells hb12 3
  have y4 : w2.cell? ⟨w.heap.size, 4, none⟩ = some (.slice a2 0 c2) := box_cells hb12 4
  rw [HV.out]
  go_wp2_with fail
  go_ret
  exact ⟨rfl, below_box hb12⟩

set_option maxHeartbeats 1000000 in
theorem alone_list (n : Nat) (a1 : Option Addr) (c1 : Nat) (a2 : Option Addr) (c2 : Nat) (d : Int) (hd2 : ¬ 63 < d) (w : World) (hU : Lib.Utf8Tabs 1 2 w) (h8 : 8 ≤ w.heap.size) :
    Calls Tryz.prog 69 #[.agg #[.int .i64 5, .int .i64 0, .string noS, .slice a1 0 c1, .slice a2 n c2], .int .i64 d] w fun e w' => e = .returned (.int .i64 0) ∧ Below w.heap.size w w' := by
  have HV : Hid (Lib.validD noS.data.toList = true) := rfl
  have hF : Fits 5 0 noS 0 n := .list n
  go_enter Tryz.func69, Tryz.ntmps69
  go_wp2_with (go_at_call 91; refine (deep_nest _ (by decide) _).mono ?_; rintro e w' ⟨rfl, rfl⟩)
  refine (keeps_any 5 0 noS a1 0 c1 a2 n c2 hF _).mono ?_
  rintro e w1 ⟨rfl, hb1⟩
  rw [World.size_alloc] at hb1
  have z2 : w1.cell? ⟨w.heap.size, 2, none⟩ = some (.string noS) := box_cells hb1 2
  have hU1 := utf_below (utf_alloc hU h8 (.cells #[.int .i64 5, .int .i64 0, .string noS, .slice a1 0 c1, .slice a2 n c2] 25)) hb1 (by omega)
  go_wp2_with fail
  refine (Tryz.valid noS w1 (by decide) hU1).mono ?_
  rintro e w2 ⟨rfl, hb2⟩
  have hb12 := hb1.trans (hb2.mono (by have := hb1.size; simp at this; omega))
  have y0 : w2.cell? ⟨w.heap.size, 0, none⟩ = some (.int .i64 5) := box_cells hb12 0
  have y3 : w2.cell? ⟨w.heap.size, 3, none⟩ = some (.slice a1 0 c1) := box_cells hb12 3
  have y4 : w2.cell? ⟨w.heap.size, 4, none⟩ = some (.slice a2 n c2) := box_cells hb12 4
  rw [HV.out]
  go_wp2_with fail
  go_ret
  exact ⟨rfl, below_box hb12⟩

set_option maxHeartbeats 1000000 in
theorem alone_obj (n : Nat) (a1 : Option Addr) (c1 : Nat) (a2 : Option Addr) (c2 : Nat) (d : Int) (hd2 : ¬ 63 < d) (w : World) (hU : Lib.Utf8Tabs 1 2 w) (h8 : 8 ≤ w.heap.size) :
    Calls Tryz.prog 69 #[.agg #[.int .i64 6, .int .i64 0, .string noS, .slice a1 n c1, .slice a2 n c2], .int .i64 d] w fun e w' => e = .returned (.int .i64 0) ∧ Below w.heap.size w w' := by
  have HV : Hid (Lib.validD noS.data.toList = true) := rfl
  have hF : Fits 6 0 noS n n := .obj n
  go_enter Tryz.func69, Tryz.ntmps69
  go_wp2_with (go_at_call 91; refine (deep_nest _ (by decide) _).mono ?_; rintro e w' ⟨rfl, rfl⟩)
  refine (keeps_any 6 0 noS a1 n c1 a2 n c2 hF _).mono ?_
  rintro e w1 ⟨rfl, hb1⟩
  rw [World.size_alloc] at hb1
  have z2 : w1.cell? ⟨w.heap.size, 2, none⟩ = some (.string noS) := box_cells hb1 2
  have hU1 := utf_below (utf_alloc hU h8 (.cells #[.int .i64 6, .int .i64 0, .string noS, .slice a1 n c1, .slice a2 n c2] 25)) hb1 (by omega)
  go_wp2_with fail
  refine (Tryz.valid noS w1 (by decide) hU1).mono ?_
  rintro e w2 ⟨rfl, hb2⟩
  have hb12 := hb1.trans (hb2.mono (by have := hb1.size; simp at this; omega))
  have y0 : w2.cell? ⟨w.heap.size, 0, none⟩ = some (.int .i64 6) := box_cells hb12 0
  have y3 : w2.cell? ⟨w.heap.size, 3, none⟩ = some (.slice a1 n c1) := box_cells hb12 3
  have y4 : w2.cell? ⟨w.heap.size, 4, none⟩ = some (.slice a2 n c2) := box_cells hb12 4
  rw [HV.out]
  go_wp2_with fail
  go_ret
  exact ⟨rfl, below_box hb12⟩
end Go.Proofs.YtnccaidlcaeeaaaGreatDoor
namespace Go.Proofs.YtnccaidlcaeeaaaGreatDoor
open Go Go.RowKit Go.Maps

/-- The cells of item i of the row at block g. -/
structure ItemAt (w : World) (g i : Nat) (kd x : Int) (s : ByteArray) (a1 : Option Addr) (l1 c1 : Nat) (a2 : Option Addr) (l2 c2 : Nat) : Prop where
  f0 : w.cell? ⟨g, i * 5, none⟩ = some (.int .i64 kd)
  f1 : w.cell? ⟨g, i * 5 + 1, none⟩ = some (.int .i64 x)
  f2 : w.cell? ⟨g, i * 5 + 2, none⟩ = some (.string s)
  f3 : w.cell? ⟨g, i * 5 + 3, none⟩ = some (.slice a1 l1 c1)
  f4 : w.cell? ⟨g, i * 5 + 4, none⟩ = some (.slice a2 l2 c2)
theorem ItemAt.keep {w w' : World} {g i : Nat} {kd x : Int} {s : ByteArray} {a1 : Option Addr} {l1 c1 : Nat} {a2 : Option Addr} {l2 c2 : Nat} (h : ItemAt w g i kd x s a1 l1 c1 a2 l2 c2) (hk : w'.heap[g]? = w.heap[g]?) : ItemAt w' g i kd x s a1 l1 c1 a2 l2 c2 :=
  ⟨(World.cell?_of_block (w := w) hk).trans h.f0, (World.cell?_of_block (w := w) hk).trans h.f1, (World.cell?_of_block (w := w) hk).trans h.f2, (World.cell?_of_block (w := w) hk).trans h.f3, (World.cell?_of_block (w := w) hk).trans h.f4⟩

/-- What the items' walk asks: each item, in whatever later world, is checked and found good. -/
def ItemsGood (F : Nat) (args : Array Value) (res : Nat → Value) (w : World) (g n : Nat) : Prop :=
  ∀ i, i < n → ∃ (kd x : Int) (s : ByteArray) (a1 : Option Addr) (l1 c1 : Nat) (a2 : Option Addr) (l2 c2 : Nat), ItemAt w g i kd x s a1 l1 c1 a2 l2 c2 ∧
    ∀ w', Below w.heap.size w w' → Calls Tryz.prog F (#[.agg #[.int .i64 kd, .int .i64 x, .string s, .slice a1 l1 c1, .slice a2 l2 c2]] ++ args) w' fun e w'' => e = .returned (res i) ∧ Below w'.heap.size w' w''

set_option maxHeartbeats 1000000 in
theorem checkAt_none (k x : Int) (s : ByteArray) (a1 : Option Addr) (l1 c1 : Nat) (a2 : Option Addr) (c2 : Nat) (d : Int) (w : World) (h6 : (k == 6) = false)
    (hAl : ∀ w', Below w.heap.size w w' → Calls Tryz.prog 69 #[.agg #[.int .i64 k, .int .i64 x, .string s, .slice a1 l1 c1, .slice a2 0 c2], .int .i64 d] w' fun e w'' => e = .returned (.int .i64 0) ∧ Below w'.heap.size w' w'') :
    Calls Tryz.prog 43 #[.agg #[.int .i64 k, .int .i64 x, .string s, .slice a1 l1 c1, .slice a2 0 c2], .int .i64 d] w fun e w' => e = .returned (.int .i64 0) ∧ Below w.heap.size w w' := by
  have hB : ∀ o, Below w.heap.size w (w.alloc o) := fun o => (Below.refl _ _).alloc (Nat.le_refl _) _
  have HAl := hAl
  clear hAl
  go_enter Tryz.func43, Tryz.ntmps43
  go_wp2_with fail
  refine (HAl _ (hB _)).mono ?_
  rintro e w1 ⟨rfl, hb1⟩
  rw [World.size_alloc] at hb1
  have y0 : w1.cell? ⟨w.heap.size, 0, none⟩ = some (.int .i64 k) := box_cells hb1 0
  have y4 : w1.cell? ⟨w.heap.size, 4, none⟩ = some (.slice a2 0 c2) := box_cells hb1 4
  go_wp2_with fail
  refine wp_loop_rounds 1 ?_
  rw [rounds_succ]
  go_wp2_with fail
  go_ret
  exact ⟨rfl, below_box hb1⟩

set_option maxHeartbeats 1000000 in
theorem checkAt_some (k x : Int) (s : ByteArray) (a1 : Option Addr) (l1 c1 : Nat) (g n c2 : Nat) (d : Int) (w : World) (h6 : (k == 6) = false) (hg : g < w.heap.size) (hn : n ≤ 100000) (hd0 : 0 ≤ d) (hd1 : d ≤ 100)
    (hAl : ∀ w', Below w.heap.size w w' → Calls Tryz.prog 69 #[.agg #[.int .i64 k, .int .i64 x, .string s, .slice a1 l1 c1, .slice (some ⟨g, 0, none⟩) n c2], .int .i64 d] w' fun e w'' => e = .returned (.int .i64 0) ∧ Below w'.heap.size w' w'')
    (hIt : Hid (ItemsGood 43 #[.int .i64 (d + 1)] (fun _ => .int .i64 0) w g n)) :
    Calls Tryz.prog 43 #[.agg #[.int .i64 k, .int .i64 x, .string s, .slice a1 l1 c1, .slice (some ⟨g, 0, none⟩) n c2], .int .i64 d] w fun e w' => e = .returned (.int .i64 0) ∧ Below w.heap.size w w' := by
  have hB : ∀ o, Below w.heap.size w (w.alloc o) := fun o => (Below.refl _ _).alloc (Nat.le_refl _) _
  go_enter Tryz.func43, Tryz.ntmps43
  go_wp2_with fail
  refine (hAl _ (hB _)).mono ?_
  rintro e w1 ⟨rfl, hb1⟩
  rw [World.size_alloc] at hb1
  have y0 : w1.cell? ⟨w.heap.size, 0, none⟩ = some (.int .i64 k) := box_cells hb1 0
  have y4 : w1.cell? ⟨w.heap.size, 4, none⟩ = some (.slice (some ⟨g, 0, none⟩) n c2) := box_cells hb1 4
  have hbw1 := below_box hb1
  clear hb1 hAl
  go_wp2_with fail
  clear y0 y4
  go_loopw [24] (fun i wr => ∃ q : Nat, q ≤ n ∧ i = .int .i64 q ∧ Below w.heap.size w wr) (fun i wr => n - (intOf i).toNat)
  case atStart => exact ⟨0, Nat.zero_le _, rfl, hbw1⟩
  case round =>
    obtain ⟨q, hq, rfl, hbw⟩ := hrel
    by_cases hlt : q < n
    · obtain ⟨kd2, x2, s2, a12, l12, c12, a22, l22, c22, hia, hcall⟩ := hIt.out q hlt
      have hia' := hia.keep (hbw.block g hg)
      obtain ⟨z0, z1, z2, z3, z4⟩ := hia'
      have HC : Hid (∀ w', Below w.heap.size w w' → Calls Tryz.prog 43 (#[.agg #[.int .i64 kd2, .int .i64 x2, .string s2, .slice a12 l12 c12, .slice a22 l22 c22]] ++ #[.int .i64 (d + 1)]) w' fun e w'' => e = .returned (.int .i64 0) ∧ Below w'.heap.size w' w'') := hcall
      have i1 : (q : Int) < (n : Int) := by omega
      have hsz := hbw.size
      clear hcall hia
      go_wp2_with fail
      refine (HC.out _ (hbw.alloc hsz _)).mono ?_
      rintro e w3 ⟨rfl, hb3⟩
      have hbw3 : Below w.heap.size w w3 := (hbw.alloc hsz _).trans (hb3.mono (by simp; omega))
      clear hb3 HC z0 z1 z2 z3 z4
      go_wp2_with fail
      go_roundw
      case rel => exact ⟨q + 1, by omega, by go_num, hbw3⟩
      case measure => simp [intOf]; omega
    · go_wp2_with fail
      go_ret
      exact ⟨rfl, hbw⟩
end Go.Proofs.YtnccaidlcaeeaaaGreatDoor
namespace Go.Proofs.YtnccaidlcaeeaaaGreatDoor
open Go Go.RowKit Go.Maps

def nth (ns : List ByteArray) (i : Nat) : ByteArray := ns.getD i noS
theorem take_nth (ns : List ByteArray) (i : Nat) (h : i < ns.length) : ns.take (i + 1) = ns.take i ++ [nth ns i] := by
  rw [List.take_succ_eq_append_getElem h]
  unfold nth
  rw [List.getD_eq_getElem?_getD, List.getElem?_eq_getElem h]; rfl
def NamesGood (ns : List ByteArray) : Prop := ∀ i, i < ns.length → (nth ns i).size ≤ 65536 ∧ Lib.validD (nth ns i).data.toList = true ∧ hasName (ns.take i) (nth ns i) = false

theorem make_hint (n : Int) (w : World) : (Instr.makeMap 105 (some (.int .i64 n))).run Tryz.prog w = .ok (.map (some w.heap.size)) (w.alloc (.map #[] 0)) := by
  simp [Instr.makeMap, asInt, go_sem]
set_option maxHeartbeats 2000000 in
theorem members_some (ns : List ByteArray) (gn cn g n c2 : Nat) (d : Int) (w : World) (h8 : 8 ≤ w.heap.size) (hU : Lib.Utf8Tabs 1 2 w) (hgn : gn < w.heap.size) (hg : g < w.heap.size) (hnl : ns.length = n) (hn : n ≤ 65536) (hd0 : 0 ≤ d) (hd1 : d ≤ 100)
    (hN : Hid (NamesGood ns)) (hNc : Hid (∀ i, i < n → w.cell? ⟨gn, i, none⟩ = some (.string (nth ns i))))
    (hIt : Hid (ItemsGood 43 #[.int .i64 (d + 1)] (fun _ => .int .i64 0) w g n)) :
    Calls Tryz.prog 70 #[.agg #[.int .i64 6, .int .i64 0, .string noS, .slice (some ⟨gn, 0, none⟩) n cn, .slice (some ⟨g, 0, none⟩) n c2], .int .i64 d] w fun e w' => e = .returned (.int .i64 0) ∧ Below w.heap.size w w' := by
  have hmm := make_hint
  have hw0 : (0 : Int) ≤ (n : Int) := by omega
  have HNL : Hid (ns.length = n) := hnl
  clear hnl
  go_enter Tryz.func70, Tryz.ntmps70
  go_wp2_with fail
  have hS0 : Hid (SetAt (w.heap.size + 1) [] ((w.alloc (.cells #[.int .i64 6, .int .i64 0, .string noS, .slice (some ⟨gn, 0, none⟩) n cn, .slice (some ⟨g, 0, none⟩) n c2] 25)).alloc (.map #[] 0))) := by
    have h0 : SetAt (w.alloc (.cells #[.int .i64 6, .int .i64 0, .string noS, .slice (some ⟨gn, 0, none⟩) n cn, .slice (some ⟨g, 0, none⟩) n c2] 25)).heap.size [] ((w.alloc (.cells #[.int .i64 6, .int .i64 0, .string noS, .slice (some ⟨gn, 0, none⟩) n cn, .slice (some ⟨g, 0, none⟩) n c2] 25)).alloc (.map #[] 0)) := World.ownsMap_made _ _ _ _
    rw [World.size_alloc] at h0
    exact h0
  go_loopw [16] (fun i wr => ∃ q : Nat, q ≤ n ∧ i = .int .i64 q ∧ Below w.heap.size w wr ∧ wr.heap[w.heap.size]? = some (.cells #[.int .i64 6, .int .i64 0, .string noS, .slice (some ⟨gn, 0, none⟩) n cn, .slice (some ⟨g, 0, none⟩) n c2] 25 (0, 0)) ∧ SetAt (w.heap.size + 1) (ns.take q) wr) (fun i wr => n - (intOf i).toNat)
  case atStart => exact ⟨0, Nat.zero_le _, rfl, ((Below.refl _ _).alloc (Nat.le_refl _) _).alloc (by simp) _, (alloc_old (by simp)).trans (heap_alloc_new w _), hS0.out⟩
  case round =>
    clear hS0
    obtain ⟨q, hq, rfl, hbw, hbox, hSet⟩ := hrel
    have hsz := hbw.size
    have hslt := hSet.lt
    by_cases hlt : q < n
    · obtain ⟨kd2, x2, s2, a12, l12, c12, a22, l22, c22, hia, hcall⟩ := hIt.out q hlt
      have HIA : Hid (ItemAt w g q kd2 x2 s2 a12 l12 c12 a22 l22 c22) := hia
      have HC : Hid (∀ w', Below w.heap.size w w' → Calls Tryz.prog 43 (#[.agg #[.int .i64 kd2, .int .i64 x2, .string s2, .slice a12 l12 c12, .slice a22 l22 c22]] ++ #[.int .i64 (d + 1)]) w' fun e w'' => e = .returned (.int .i64 0) ∧ Below w'.heap.size w' w'') := hcall
      have nc : wr.cell? ⟨gn, q, none⟩ = some (.string (nth ns q)) := (World.cell?_of_block (w := w) (a := ⟨gn, q, none⟩) (hbw.block gn hgn)).trans (hNc.out q hlt)
      have HN := hN.out q (by rw [HNL.out]; exact hlt)
      have HSz : (nth ns q).size ≤ 65536 := HN.1
      have HVd : Hid (Lib.validD (nth ns q).data.toList = true) := HN.2.1
      have HHs : Hid (hasName (ns.take q) (nth ns q) = false) := HN.2.2
      have HTk : Hid (ns.take (q + 1) = ns.take q ++ [nth ns q]) := take_nth ns q (by rw [HNL.out]; exact hlt)
      have HBX : Hid (wr.heap[w.heap.size]? = some (.cells #[.int .i64 6, .int .i64 0, .string noS, .slice (some ⟨gn, 0, none⟩) n cn, .slice (some ⟨g, 0, none⟩) n c2] 25 (0, 0))) := hbox
      have i1 : (q : Int) < (n : Int) := by omega
      have hUr := utf_below hU hbw h8
      have htl : (ns.take q).length ≤ 100000 := by rw [List.length_take]; omega
      clear hcall hia HN hbox
      generalize nth ns q = nm at *
      go_wp2_with fail
      refine (Tryz.valid nm wr (by omega) hUr).mono ?_
      rintro e w2 ⟨rfl, hb2⟩
      rw [HVd.out]
      have hSet2 : SetAt (w.heap.size + 1) (ns.take q) w2 := hSet.keep (hb2.block _ hslt)
      go_wp2_with fail
      refine (add_new (w.heap.size + 1) (ns.take q) nm HSz w2 hSet2 htl HHs.out).mono ?_
      rintro e w3 ⟨rfl, hSet3, hK3⟩
      have hs2 := hb2.size
      have hs3 := hK3.size
      have hbox3 : w3.heap[w.heap.size]? = some (.cells #[.int .i64 6, .int .i64 0, .string noS, .slice (some ⟨gn, 0, none⟩) n cn, .slice (some ⟨g, 0, none⟩) n c2] 25 (0, 0)) := (hK3.block w.heap.size (by omega) (by omega)).trans ((hb2.block w.heap.size (by omega)).trans HBX.out)
      have hbw3 : Below w.heap.size w w3 := hbw.trans ⟨hK3.os.trans hb2.os, hK3.tape.trans hb2.tape, hK3.output.trans hb2.output, by omega, fun k hk => (hK3.block k (by omega) (by omega)).trans (hb2.block k (by omega))⟩
      have y4 : w3.cell? ⟨w.heap.size, 4, none⟩ = some (.slice (some ⟨g, 0, none⟩) n c2) := cell_of hbox3 4
      have HB3 : Hid (w3.heap[w.heap.size]? = some (.cells #[.int .i64 6, .int .i64 0, .string noS, .slice (some ⟨gn, 0, none⟩) n cn, .slice (some ⟨g, 0, none⟩) n c2] 25 (0, 0))) := hbox3
      obtain ⟨z0, z1, z2, z3, z4⟩ := HIA.out.keep (hbw3.block g hg)
      clear hbox3 hSet hSet2 hb2 hK3 HBX hbw hUr nc
      go_wp2_with fail
      refine (HC.out _ hbw3).mono ?_
      rintro e w4 ⟨rfl, hb4⟩
      have hslt3 := hSet3.lt
      have hSet4 : SetAt (w.heap.size + 1) (ns.take (q + 1)) w4 := by rw [HTk.out]; exact hSet3.keep (hb4.block _ hslt3)
      have hbw4 : Below w.heap.size w w4 := hbw3.trans (hb4.mono (by omega))
      have hbox4 := (hb4.block w.heap.size (by omega)).trans HB3.out
      have HB4 : Hid (w4.heap[w.heap.size]? = some (.cells #[.int .i64 6, .int .i64 0, .string noS, .slice (some ⟨gn, 0, none⟩) n cn, .slice (some ⟨g, 0, none⟩) n c2] 25 (0, 0))) := hbox4
      clear hbox4 hb4 HC z0 z1 z2 z3 z4 y4
      go_wp2_with fail
      go_roundw
      case rel => exact ⟨q + 1, by omega, by go_num, hbw4, HB4.out, hSet4⟩
      case measure => simp [intOf]; omega
    · go_wp2_with fail
      go_ret
      exact ⟨rfl, hbw⟩
end Go.Proofs.YtnccaidlcaeeaaaGreatDoor
namespace Go.Proofs.YtnccaidlcaeeaaaGreatDoor
open Go Go.RowKit Go.Maps

set_option maxHeartbeats 1000000 in
theorem members_none (a1 : Option Addr) (cn : Nat) (a2 : Option Addr) (c2 : Nat) (d : Int) (w : World) :
    Calls Tryz.prog 70 #[.agg #[.int .i64 6, .int .i64 0, .string noS, .slice a1 0 cn, .slice a2 0 c2], .int .i64 d] w fun e w' => e = .returned (.int .i64 0) ∧ Below w.heap.size w w' := by
  have hmm := make_hint
  go_enter Tryz.func70, Tryz.ntmps70
  go_wp2_with fail
  refine wp_loop_rounds 1 ?_
  rw [rounds_succ]
  go_wp2_with fail
  go_ret
  exact ⟨rfl, ((Below.refl _ _).alloc (Nat.le_refl _) _).alloc (by simp) _⟩

set_option maxHeartbeats 1000000 in
theorem checkAt_obj (a1 : Option Addr) (n cn : Nat) (a2 : Option Addr) (c2 : Nat) (d : Int) (w : World)
    (hAl : ∀ w', Below w.heap.size w w' → Calls Tryz.prog 69 #[.agg #[.int .i64 6, .int .i64 0, .string noS, .slice a1 n cn, .slice a2 n c2], .int .i64 d] w' fun e w'' => e = .returned (.int .i64 0) ∧ Below w'.heap.size w' w'')
    (hM : ∀ w', Below w.heap.size w w' → Calls Tryz.prog 70 #[.agg #[.int .i64 6, .int .i64 0, .string noS, .slice a1 n cn, .slice a2 n c2], .int .i64 d] w' fun e w'' => e = .returned (.int .i64 0) ∧ Below w'.heap.size w' w'') :
    Calls Tryz.prog 43 #[.agg #[.int .i64 6, .int .i64 0, .string noS, .slice a1 n cn, .slice a2 n c2], .int .i64 d] w fun e w' => e = .returned (.int .i64 0) ∧ Below w.heap.size w w' := by
  have hB : ∀ o, Below w.heap.size w (w.alloc o) := fun o => (Below.refl _ _).alloc (Nat.le_refl _) _
  have HM : Hid (∀ w', Below w.heap.size w w' → Calls Tryz.prog 70 #[.agg #[.int .i64 6, .int .i64 0, .string noS, .slice a1 n cn, .slice a2 n c2], .int .i64 d] w' fun e w'' => e = .returned (.int .i64 0) ∧ Below w'.heap.size w' w'') := hM
  clear hM
  go_enter Tryz.func43, Tryz.ntmps43
  go_wp2_with fail
  refine (hAl _ (hB _)).mono ?_
  rintro e w1 ⟨rfl, hb1⟩
  rw [World.size_alloc] at hb1
  have y0 : w1.cell? ⟨w.heap.size, 0, none⟩ = some (.int .i64 6) := box_cells hb1 0
  have y1 : w1.cell? ⟨w.heap.size, 1, none⟩ = some (.int .i64 0) := box_cells hb1 1
  have y2 : w1.cell? ⟨w.heap.size, 2, none⟩ = some (.string noS) := box_cells hb1 2
  have y3 : w1.cell? ⟨w.heap.size, 3, none⟩ = some (.slice a1 n cn) := box_cells hb1 3
  have y4 : w1.cell? ⟨w.heap.size, 4, none⟩ = some (.slice a2 n c2) := box_cells hb1 4
  have hbw1 := below_box hb1
  clear hb1 hAl
  go_wp2_with fail
  refine (HM.out _ hbw1).mono ?_
  rintro e w2 ⟨rfl, hb2⟩
  have hbw2 : Below w.heap.size w w2 := hbw1.trans (hb2.mono hbw1.size)
  clear HM hb2
  go_wp2_with fail
  go_ret
  exact ⟨rfl, hbw2⟩

/-- The cells of a value: its form. -/
theorem Rep.form {w : World} {lo hi : Nat} {j : J} {cs : List Value} (h : Rep w lo hi j cs) : ∃ (kd x : Int) (s : ByteArray) (a1 : Option Addr) (l1 c1 : Nat) (a2 : Option Addr) (l2 c2 : Nat), cs = five kd x s (.slice a1 l1 c1) (.slice a2 l2 c2) := by
  have sl : ∀ {lo e size v n xs}, w.ownsRow lo e size v n xs → ∃ a l c, v = .slice a l c := fun {lo e size v n xs} h => by
    rcases h.2 with ⟨rfl, _⟩ | ⟨g, cap, cur, rfl, _⟩
    · exact ⟨_, _, _, rfl⟩
    · exact ⟨_, _, _, rfl⟩
  cases j with
  | list l =>
    unfold Rep at h
    obtain ⟨it, xs, h1, h2, _⟩ := h
    obtain ⟨a, l', c, rfl⟩ := sl h2
    exact ⟨_, _, _, _, _, _, _, _, _, h1⟩
  | obj ns l =>
    unfold Rep at h
    obtain ⟨nm, it, xs, h1, h2, _, h4, _⟩ := h
    obtain ⟨a, l', c, rfl⟩ := sl h2
    obtain ⟨a', l'', c', rfl⟩ := sl h4
    exact ⟨_, _, _, _, _, _, _, _, _, h1⟩
  | null => exact ⟨_, _, _, _, _, _, _, _, _, h⟩
  | fls => exact ⟨_, _, _, _, _, _, _, _, _, h⟩
  | tru => exact ⟨_, _, _, _, _, _, _, _, _, h⟩
  | int x => exact ⟨_, _, _, _, _, _, _, _, _, h⟩
  | text s => exact ⟨_, _, _, _, _, _, _, _, _, h⟩
/-- Item i of a row. -/
theorem RepL.get {w : World} {lo hi : Nat} {obs : List Nat} : (l : List J) → (xs : List Value) → RepL w lo hi obs l xs → ∀ i (h : i < l.length), ∃ lo' hi', lo ≤ lo' ∧ hi' ≤ hi ∧ i * 5 + 5 ≤ xs.length ∧ Rep w lo' hi' l[i] ((xs.drop (i * 5)).take 5)
  | [], _, _, i, h => absurd h (by simp)
  | j :: js, xs, hr, i, h => by
    unfold RepL at hr
    obtain ⟨lo', hi', h1, h2, h3, h4, h5, h6, h7⟩ := hr
    cases i with
    | zero => exact ⟨lo', hi', h1, h3, by omega, by simpa using h6⟩
    | succ i =>
      obtain ⟨a, b, e1, e2, e3, e4⟩ := RepL.get js _ h7 i (by simpa using h)
      refine ⟨a, b, by omega, e2, ?_, ?_⟩
      · rw [List.length_drop] at e3; omega
      · have : (xs.drop 5).drop (i * 5) = xs.drop ((i + 1) * 5) := by rw [List.drop_drop]; congr 1; omega
        rw [this] at e4
        simpa using e4
theorem item_at {w : World} {lo g i n cap : Nat} {xs : List Value} {kd x : Int} {s : ByteArray} {a1 : Option Addr} {l1 c1 : Nat} {a2 : Option Addr} {l2 c2 : Nat} (hown : w.ownsRow lo 25 5 (.slice (some ⟨g, 0, none⟩) n cap) n xs) (hi : i < n)
    (hx : (xs.drop (i * 5)).take 5 = five kd x s (.slice a1 l1 c1) (.slice a2 l2 c2)) : ItemAt w g i kd x s a1 l1 c1 a2 l2 c2 := by
  have key : ∀ j, j < 5 → w.cell? ⟨g, i * 5 + j, none⟩ = (five kd x s (.slice a1 l1 c1) (.slice a2 l2 c2))[j]? := fun j hj => by
    rw [hown.cellAt (i * 5 + j) (by omega), ← hx, List.getElem?_take, if_pos hj, List.getElem?_drop]
  exact ⟨key 0 (by omega), key 1 (by omega), key 2 (by omega), key 3 (by omega), key 4 (by omega)⟩

mutual
/-- A value that Check finds good at depth d. -/
def okJ : Nat → J → Prop
  | d, .null => d ≤ 64
  | d, .fls => d ≤ 64
  | d, .tru => d ≤ 64
  | d, .int _ => d ≤ 64
  | d, .text s => d ≤ 64 ∧ s.size ≤ 65536 ∧ Lib.validD s.data.toList = true
  | d, .list l => d ≤ 63 ∧ l.length ≤ 65536 ∧ okL (d + 1) l
  | d, .obj ns l => d ≤ 63 ∧ l.length ≤ 65536 ∧ NamesGood ns ∧ okL (d + 1) l
def okL : Nat → List J → Prop
  | _, [] => True
  | d, j :: js => okJ d j ∧ okL d js
end
theorem okL.get {d : Nat} : (l : List J) → okL d l → ∀ j ∈ l, okJ d j
  | [], _, j, h => absurd h (by simp)
  | i :: js, h, j, hj => by
    unfold okL at h
    rcases List.mem_cons.1 hj with rfl | hj
    · exact h.1
    · exact okL.get js h.2 j hj

def CheckOk (j : J) : Prop := ∀ (d lo hi : Nat) (w : World) (kd x : Int) (s : ByteArray) (a1 : Option Addr) (l1 c1 : Nat) (a2 : Option Addr) (l2 c2 : Nat), Rep w lo hi j (five kd x s (.slice a1 l1 c1) (.slice a2 l2 c2)) → hi ≤ w.heap.size → okJ d j → Lib.Utf8Tabs 1 2 w → 8 ≤ w.heap.size →
  Calls Tryz.prog 43 #[.agg #[.int .i64 kd, .int .i64 x, .string s, .slice a1 l1 c1, .slice a2 l2 c2], .int .i64 (d : Int)] w fun e w' => e = .returned (.int .i64 0) ∧ Below w.heap.size w w'
theorem five_inj {k x k' x' : Int} {s s' : ByteArray} {n i n' i' : Value} (h : five k x s n i = five k' x' s' n' i') : k = k' ∧ x = x' ∧ s = s' ∧ n = n' ∧ i = i' := by
  simp only [five, List.cons.injEq, Value.int.injEq, Value.string.injEq, and_true, true_and] at h
  exact ⟨h.1, h.2.1, h.2.2.1, h.2.2.2.1, h.2.2.2.2⟩
/-- The items of a row, each good. -/
theorem items_good {w : World} {lo hi lo0 g cap d : Nat} {obs : List Nat} {l : List J} {xs : List Value} (hown : w.ownsRow lo0 25 5 (.slice (some ⟨g, 0, none⟩) l.length cap) l.length xs) (hrep : RepL w lo hi obs l xs) (hhi : hi ≤ w.heap.size) (hok : okL (d + 1) l) (hU : Lib.Utf8Tabs 1 2 w) (h8 : 8 ≤ w.heap.size) (hIH : ∀ j ∈ l, CheckOk j) :
    ItemsGood 43 #[.int .i64 ((d : Int) + 1)] (fun _ => .int .i64 0) w g l.length := by
  intro i hi'
  obtain ⟨lo', hi2, e1, e2, e3, e4⟩ := RepL.get l xs hrep i hi'
  obtain ⟨kd, x, s, a1, l1, c1, a2, l2, c2, hf⟩ := e4.form
  refine ⟨kd, x, s, a1, l1, c1, a2, l2, c2, item_at hown hi' hf, fun w' hb => ?_⟩
  rw [hf] at e4
  have hr' := Rep.keep l[i] _ e4 (w' := w') (fun k ka kb => hb.block k (by omega))
  have := hIH l[i] (List.getElem_mem hi') (d + 1) lo' hi2 w' kd x s a1 l1 c1 a2 l2 c2 hr' (by have := hb.size; omega) (okL.get l hok _ (List.getElem_mem hi')) (utf_below hU hb h8) (by have := hb.size; omega)
  have hc : (((d + 1 : Nat) : Int)) = (d : Int) + 1 := by omega
  rw [hc] at this
  exact this

theorem own_form {w : World} {lo : Nat} {e : TypeId} {size : Nat} {a : Option Addr} {l c n : Nat} {xs : List Value} (h : w.ownsRow lo e size (.slice a l c) n xs) : l = n ∧ (n = 0 ∨ ∃ g, a = some ⟨g, 0, none⟩ ∧ g < w.heap.size) := by
  rcases h.2 with ⟨h1, h2⟩ | ⟨g, cap, cur, h1, _, h3, _⟩
  · simp only [Value.slice.injEq] at h1; exact ⟨by omega, Or.inl h2⟩
  · simp only [Value.slice.injEq] at h1
    exact ⟨h1.2.1, Or.inr ⟨g, h1.1, (Array.getElem?_eq_some_iff.1 h3).1⟩⟩
theorem own_below {w w' : World} {lo : Nat} {e : TypeId} {size : Nat} {v : Value} {n : Nat} {xs : List Value} (h : w.ownsRow lo e size v n xs) (hb : Below w.heap.size w w') : w'.ownsRow lo e size v n xs := ownsRow_keep h (fun g hg => hb.block g (ownsRow_ge h hg).2)
theorem names_cells {w : World} {lo gn cn : Nat} {ns : List ByteArray} (h : w.ownsRow lo 9 1 (.slice (some ⟨gn, 0, none⟩) ns.length cn) ns.length (strs ns)) : ∀ i, i < ns.length → w.cell? ⟨gn, i, none⟩ = some (.string (nth ns i)) := fun i hi => by
  rw [h.cellAt i (by omega)]
  unfold strs nth
  rw [List.getElem?_map, List.getD_eq_getElem?_getD, List.getElem?_eq_getElem hi]; rfl

theorem check_all : (j : J) → CheckOk j
  | .null => fun d lo hi w kd x s a1 l1 c1 a2 l2 c2 hr hh hok hU h8 => by
    obtain ⟨rfl, rfl, rfl, e1, e2⟩ := five_inj (show five kd x s _ _ = five 0 0 noS nilS nilS from hr)
    simp only [nilS, Value.slice.injEq] at e1 e2
    obtain ⟨rfl, rfl, rfl⟩ := e1
    obtain ⟨rfl, rfl, rfl⟩ := e2
    have hd : d ≤ 64 := hok
    exact checkAt_none 0 0 noS none 0 0 none 0 d w rfl (fun w' hb => alone_flat0 none 0 none 0 d (by omega) w' (utf_below hU hb h8) (by have := hb.size; omega))
  | .fls => fun d lo hi w kd x s a1 l1 c1 a2 l2 c2 hr hh hok hU h8 => by
    obtain ⟨rfl, rfl, rfl, e1, e2⟩ := five_inj (show five kd x s _ _ = five 1 0 noS nilS nilS from hr)
    simp only [nilS, Value.slice.injEq] at e1 e2
    obtain ⟨rfl, rfl, rfl⟩ := e1
    obtain ⟨rfl, rfl, rfl⟩ := e2
    have hd : d ≤ 64 := hok
    exact checkAt_none 1 0 noS none 0 0 none 0 d w rfl (fun w' hb => alone_flat1 none 0 none 0 d (by omega) w' (utf_below hU hb h8) (by have := hb.size; omega))
  | .tru => fun d lo hi w kd x s a1 l1 c1 a2 l2 c2 hr hh hok hU h8 => by
    obtain ⟨rfl, rfl, rfl, e1, e2⟩ := five_inj (show five kd x s _ _ = five 2 0 noS nilS nilS from hr)
    simp only [nilS, Value.slice.injEq] at e1 e2
    obtain ⟨rfl, rfl, rfl⟩ := e1
    obtain ⟨rfl, rfl, rfl⟩ := e2
    have hd : d ≤ 64 := hok
    exact checkAt_none 2 0 noS none 0 0 none 0 d w rfl (fun w' hb => alone_flat2 none 0 none 0 d (by omega) w' (utf_below hU hb h8) (by have := hb.size; omega))
  | .int y => fun d lo hi w kd x s a1 l1 c1 a2 l2 c2 hr hh hok hU h8 => by
    obtain ⟨rfl, rfl, rfl, e1, e2⟩ := five_inj (show five kd x s _ _ = five 3 y noS nilS nilS from hr)
    simp only [nilS, Value.slice.injEq] at e1 e2
    obtain ⟨rfl, rfl, rfl⟩ := e1
    obtain ⟨rfl, rfl, rfl⟩ := e2
    have hd : d ≤ 64 := hok
    exact checkAt_none 3 x noS none 0 0 none 0 d w rfl (fun w' hb => alone_int x none 0 none 0 d (by omega) w' (utf_below hU hb h8) (by have := hb.size; omega))
  | .text t => fun d lo hi w kd x s a1 l1 c1 a2 l2 c2 hr hh hok hU h8 => by
    obtain ⟨rfl, rfl, rfl, e1, e2⟩ := five_inj (show five kd x s _ _ = five 4 0 t nilS nilS from hr)
    simp only [nilS, Value.slice.injEq] at e1 e2
    obtain ⟨rfl, rfl, rfl⟩ := e1
    obtain ⟨rfl, rfl, rfl⟩ := e2
    have hok' : d ≤ 64 ∧ s.size ≤ 65536 ∧ Lib.validD s.data.toList = true := hok
    exact checkAt_none 4 0 s none 0 0 none 0 d w rfl (fun w' hb => alone_text s hok'.2.1 hok'.2.2 none 0 none 0 d (by omega) w' (utf_below hU hb h8) (by have := hb.size; omega))
  | .list l => fun d lo hi w kd x s a1 l1 c1 a2 l2 c2 hr hh hok hU h8 => by
    unfold Rep at hr
    obtain ⟨it, xs, h1, h2, h3, h4⟩ := hr
    obtain ⟨rfl, rfl, rfl, e1, rfl⟩ := five_inj h1
    simp only [nilS, Value.slice.injEq] at e1
    obtain ⟨rfl, rfl, rfl⟩ := e1
    unfold okJ at hok
    obtain ⟨hd, hln, hokl⟩ := hok
    obtain ⟨rfl, hn⟩ := own_form h2
    have hIH : ∀ j ∈ l, CheckOk j := fun j hj => check_all j
    rcases hn with h0 | ⟨g, rfl, hg⟩
    · rw [h0]
      exact checkAt_none 5 0 noS none 0 0 a2 c2 d w rfl (fun w' hb => alone_list 0 none 0 a2 c2 d (by omega) w' (utf_below hU hb h8) (by have := hb.size; omega))
    · exact checkAt_some 5 0 noS none 0 0 g l.length c2 d w rfl hg (by omega) (by omega) (by omega) (fun w' hb => alone_list l.length none 0 _ c2 d (by omega) w' (utf_below hU hb h8) (by have := hb.size; omega)) (items_good h2 h4 hh hokl hU h8 hIH)
  | .obj ns l => fun d lo hi w kd x s a1 l1 c1 a2 l2 c2 hr hh hok hU h8 => by
    unfold Rep at hr
    obtain ⟨nm, it, xs, h1, hnm, hnb, h2, h3, heq, h4⟩ := hr
    obtain ⟨rfl, rfl, rfl, rfl, rfl⟩ := five_inj h1
    unfold okJ at hok
    obtain ⟨hd, hln, hng, hokl⟩ := hok
    obtain ⟨rfl, hn⟩ := own_form h2
    obtain ⟨rfl, hn'⟩ := own_form hnm
    have hIH : ∀ j ∈ l, CheckOk j := fun j hj => check_all j
    rw [heq]
    refine checkAt_obj a1 l.length c1 a2 c2 d w (fun w' hb => alone_obj l.length a1 c1 a2 c2 d (by omega) w' (utf_below hU hb h8) (by have := hb.size; omega)) (fun w' hb => ?_)
    rcases hn with h0 | ⟨g, rfl, hg⟩
    · rw [h0]; exact members_none a1 c1 a2 c2 d w'
    · rcases hn' with h0 | ⟨gn, rfl, hgn⟩
      · have h0' : l.length = 0 := by omega
        rw [h0']; exact members_none a1 c1 (some ⟨g, 0, none⟩) c2 d w'
      · have hs := hb.size
        have hIt := items_good (w := w') (own_below h2 hb) (RepL.keep _ _ h4 (fun k ka kb => hb.block k (by omega))) (by omega) hokl (utf_below hU hb h8) (by omega) hIH
        have hnm' := own_below hnm hb
        exact members_some ns gn c1 g l.length c2 d w' (by omega) (utf_below hU hb h8) (by omega) (by omega) heq hln (by omega) (by omega) hng (fun i hi => names_cells hnm' i (by omega)) hIt
end Go.Proofs.YtnccaidlcaeeaaaGreatDoor
