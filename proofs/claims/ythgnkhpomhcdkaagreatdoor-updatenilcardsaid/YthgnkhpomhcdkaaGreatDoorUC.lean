import Derived.Test.YthgnkhpomhcdkaaGreatDoorUA
import Derived.Test.YthgnkhpomhcdkaaGreatDoorA4
import Derived.Test.YthgnkhpomhcdkaaGreatDoorShelfS
import Derived.Test.YthgnkhpomhcdkaaGreatDoorK0
import Derived.Test.YthgnkhpomhcdkaaGreatDoorEB
/-! update: a path of one segment: isSegment, meansItems, names, clashes. -/
namespace Go.Proofs.YthgnkhpomhcdkaaGreatDoor
open Go Go.RowKit

theorem join_one (g o c : Nat) (s sep : ByteArray) (w : World) (hc : w.cell? ⟨g, o, none⟩ = some (.string s)) :
    Calls Tryz.prog 32 #[.slice (some ⟨g, o, none⟩) 1 c, .string sep] w fun e w' => e = .returned (.string s) ∧ w' = w := by
  go_enter Tryz.func32, Tryz.ntmps32
  go_wp2_with fail
  go_ret
  exact ⟨rfl, rfl⟩
set_option maxHeartbeats 2000000 in
theorem print_bad (g o c : Nat) (s : ByteArray) (w : World) (hc : w.cell? ⟨g, o, none⟩ = some (.string s)) (hs : Hid (Dp.seg s = false)) :
    Calls Tryz.prog 293 #[.slice (some ⟨g, o, none⟩) 1 c] w fun e w' => e = .returned (.tuple #[.string ⟨#[]⟩, .int .i64 20]) ∧ w' = w := by
  go_enter Tryz.func293, Tryz.ntmps293
  go_wp2_with fail
  go_loopw [5, 16] (fun _ i wr => wr = w ∧ i = .int .i64 0) (fun _ i _ => 1 - (intOf i).toNat)
  case atStart => exact ⟨rfl, rfl⟩
  case round =>
    obtain ⟨rfl, rfl⟩ := hrel
    go_wp2_with fail
    refine (Dp.isSegment_any s _).mono ?_
    rintro e w1 ⟨rfl, rfl⟩
    rw [hs.out]
    go_wp2_with fail
    go_ret2
    exact ⟨rfl, rfl⟩
set_option maxHeartbeats 2000000 in
theorem print_ok (g o c : Nat) (s : ByteArray) (w : World) (hc : w.cell? ⟨g, o, none⟩ = some (.string s)) (hs : Hid (Dp.seg s = true)) :
    Calls Tryz.prog 293 #[.slice (some ⟨g, o, none⟩) 1 c] w fun e w' => e = .returned (.tuple #[.string s, .int .i64 0]) ∧ w' = w := by
  go_enter Tryz.func293, Tryz.ntmps293
  go_wp2_with fail
  go_loopw [5, 16] (fun _ i wr => wr = w ∧ (i = .int .i64 0 ∨ i = .int .i64 1)) (fun _ i _ => 1 - (intOf i).toNat)
  case atStart => exact ⟨rfl, .inl rfl⟩
  case round =>
    obtain ⟨rfl, rfl | rfl⟩ := hrel
    · go_wp2_with fail
      refine (Dp.isSegment_any s _).mono ?_
      rintro e w1 ⟨rfl, rfl⟩
      rw [hs.out]
      go_wp2_with fail
      go_roundw
      case rel => exact ⟨by trivial, .inr (by go_num)⟩
      case measure => simp [intOf]
    · go_wp2_with fail
      refine (join_one g o c s _ _ hc).mono ?_
      rintro e w1 ⟨rfl, rfl⟩
      go_wp2_with fail
      go_ret2
      exact ⟨rfl, rfl⟩
theorem cell_new (w : World) (v : Value) (t : TypeId) : (w.alloc (.cells #[v] t)).cell? ⟨w.heap.size, 0, none⟩ = some v := by
  rw [cell_of (heap_alloc_new w _) 0]; rfl
theorem useg_any (s : ByteArray) (w : World) : Calls Tryz.prog 242 #[.string s] w fun e w' => e = .returned (.bool (Dp.seg s)) ∧ w' = w.alloc (.cells #[.string s] 9) := by
  cases hs : Dp.seg s
  all_goals
    replace hs := hid_of hs
    go_enter Tryz.func242, Tryz.ntmps242
    go_wp2_with fail
    first
      | refine (print_ok _ _ _ s _ (cell_new _ _ _) hs).mono ?_
      | refine (print_bad _ _ _ s _ (cell_new _ _ _) hs).mono ?_
    rintro e w1 ⟨rfl, rfl⟩
    go_wp2_with fail
    go_ret
    exact ⟨rfl, rfl⟩
set_option maxHeartbeats 2000000 in
theorem readPath_one (s : ByteArray) (m : Int) (w : World) (hm : w.cell? ⟨1, 0, none⟩ = some (.int .i64 m)) (hs : Hid (Dp.seg s = true)) (hsz : s.size < 4294967281)
    (hp : Hid (Lib.splitB ⟨#[46]⟩ 0 (min 17 (s.size + 1) - 1) s = [s])) :
    Calls Tryz.prog 193 #[.string s] w fun e w' => (∃ c, e = .returned (.tuple #[.slice (some ⟨w.heap.size, 0, none⟩) 1 c, .bool true])) ∧ Below w.heap.size w w' ∧ w'.cell? ⟨w.heap.size, 0, none⟩ = some (.string s) := by
  go_enter Tryz.func193, Tryz.ntmps193
  go_wp2_with fail
  refine (Tryz.strings_SplitN s ⟨#[46]⟩ 17 m _ hsz hm (by decide) (by decide) (by decide)).mono ?_
  rintro e w1 ⟨rfl, rfl⟩
  rw [hp.out]
  have hb1 : Below w.heap.size w (w.alloc (.cells (Lib.cellsOf [s] (min 17 (s.size + 1))) 9)) := (Below.refl _ w).alloc (Nat.le_refl _) _
  have hc1 : (w.alloc (.cells (Lib.cellsOf [s] (min 17 (s.size + 1))) 9)).cell? ⟨w.heap.size, 0, none⟩ = some (.string s) := by
    rw [cell_of (heap_alloc_new w _) 0]; simp [Lib.cellsOf]
  have hl1 : w.heap.size < (w.alloc (.cells (Lib.cellsOf [s] (min 17 (s.size + 1))) 9)).heap.size := by simp
  have hcap : 1 ≤ min 17 (s.size + 1) := by omega
  have hcap2 : min 17 (s.size + 1) ≤ 17 := by omega
  rw [show [s].length = 1 from rfl]
  clear hp
  generalize w.alloc (.cells (Lib.cellsOf [s] (min 17 (s.size + 1))) 9) = w1 at *
  generalize min 17 (s.size + 1) = cp at *
  go_wp2_with fail
  refine (useg_any s _).mono ?_
  rintro e w2 ⟨rfl, rfl⟩
  rw [hs.out]
  have hb2 : Below w.heap.size w (w1.alloc (.cells #[.string s] 9)) := hb1.alloc (Nat.le_of_lt hl1) _
  have hc2 : (w1.alloc (.cells #[.string s] 9)).cell? ⟨w.heap.size, 0, none⟩ = some (.string s) := cell_alloc' hc1 _
  generalize w1.alloc (.cells #[.string s] 9) = w2 at *
  go_wp2_with fail
  all_goals
    go_loopw [6, 22] (fun _ i wr => wr = w2 ∧ i = .int .i64 0) (fun _ _ _ => 0)
    · exact ⟨rfl, rfl⟩
    · obtain ⟨rfl, rfl⟩ := hrel
      go_wp2_with fail
      go_ret2
      exact ⟨⟨_, rfl⟩, hb2, hc2⟩
end Go.Proofs.YthgnkhpomhcdkaaGreatDoor
