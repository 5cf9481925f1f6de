import Derived.Test.YtdghkmgkmfnjjaaGreatDoorJI
/-! SortFunc of two edits. -/
namespace Go.Proofs.YtdghkmgkmfnjjaaGreatDoor
open Go Go.RowKit

set_option maxHeartbeats 1000000 in
set_option maxRecDepth 100000 in
theorem len64 (n : Nat) (hn : n = 1 ∨ n = 2) (w : World) : Calls Tryz.prog 82 #[.int .u64 n] w fun e w' => ∃ z : Int, e = .returned (.int .i64 z) ∧ w' = w := by
  rcases hn with rfl | rfl
  all_goals
    go_enter Tryz.func82, Tryz.ntmps82
    go_wp2
    go_ret
    exact ⟨_, rfl, rfl⟩
set_option maxHeartbeats 1000000 in
theorem blen (n : Nat) (hn : n = 1 ∨ n = 2) (w : World) : Calls Tryz.prog 48 #[.int .u64 n] w fun e w' => ∃ z : Int, e = .returned (.int .i64 z) ∧ w' = w := by
  have h := hid_of (len64 n hn w)
  go_enter Tryz.func48, Tryz.ntmps48
  go_wp2_with fail
  refine h.out.mono ?_
  rintro e X1 ⟨z, rfl, hX⟩
  have hX := hX.symm; subst hX
  go_wp2_with fail
  go_ret
  exact ⟨z, rfl, rfl⟩
set_option maxHeartbeats 1000000 in
set_option maxRecDepth 100000 in
theorem pdqV (rb cp bx e1 e2 : Nat) (x1 x2 : Int) (k1 k2 : ByteArray) (w : World) (hx : w.cell? ⟨bx, 0, none⟩ = some (.func (.func 133) #[] #[])) (h1 : EntAt w e1 x1 k1) (h2 : EntAt w e2 x2 k2) (r0 : w.cell? ⟨rb, 0, none⟩ = some (.pointer (some ⟨e1, 0, none⟩))) (r1 : w.cell? ⟨rb, 1, none⟩ = some (.bool true)) (r2 : w.cell? ⟨rb, 2, none⟩ = some (.pointer (some ⟨e2, 0, none⟩))) (r3 : w.cell? ⟨rb, 3, none⟩ = some (.bool true)) (hlt : decide (cmpI x2 x1 < 0) = false) (hne : (cmpI x2 x1 != 0) = true) (z : Int) :
    Calls Tryz.prog 189 #[.slice (some ⟨rb, 0, none⟩) 2 cp, .int .i64 0, .int .i64 2, .int .i64 z, .func (.func 181) #[] #[.pointer (some ⟨bx, 0, none⟩)]] w fun e w' => e = .returned (.tuple #[]) ∧ Below w.heap.size w w' := by
  have hi := hid_of (insertV rb cp bx e1 e2 x1 x2 k1 k2 w hx h1 h2 r0 r1 r2 r3 hlt hne)
  clear hx h1 h2 r0 r1 r2 r3 hlt hne
  go_enter Tryz.func189, Tryz.ntmps189
  go_wp2_with fail
  refine wp_loop_rounds 1 ?_
  rw [rounds_succ]
  go_wp2_with fail
  refine hi.out.mono ?_
  rintro e X1 ⟨rfl, hq⟩
  replace hq := hid_of hq
  clear hi
  go_wp2_with fail
  ((try simp only [Exit.inBlock, Exit.then]); refine bodyPost_ret (results_none rfl _ _ _) rfl ?_)
  exact ⟨rfl, hq.out⟩
set_option maxHeartbeats 1000000 in
set_option maxRecDepth 100000 in
theorem sortfV (rb cp bx e1 e2 : Nat) (x1 x2 : Int) (k1 k2 : ByteArray) (w : World) (hx : w.cell? ⟨bx, 0, none⟩ = some (.func (.func 133) #[] #[])) (h1 : EntAt w e1 x1 k1) (h2 : EntAt w e2 x2 k2) (r0 : w.cell? ⟨rb, 0, none⟩ = some (.pointer (some ⟨e1, 0, none⟩))) (r1 : w.cell? ⟨rb, 1, none⟩ = some (.bool true)) (r2 : w.cell? ⟨rb, 2, none⟩ = some (.pointer (some ⟨e2, 0, none⟩))) (r3 : w.cell? ⟨rb, 3, none⟩ = some (.bool true)) (hlt : decide (cmpI x2 x1 < 0) = false) (hne : (cmpI x2 x1 != 0) = true) :
    Calls Tryz.prog 180 #[.slice (some ⟨rb, 0, none⟩) 2 cp, .func (.func 181) #[] #[.pointer (some ⟨bx, 0, none⟩)]] w fun e w' => e = .returned (.tuple #[]) ∧ Below w.heap.size w w' := by
  have hi := fun z => hid_of (pdqV rb cp bx e1 e2 x1 x2 k1 k2 w hx h1 h2 r0 r1 r2 r3 hlt hne z)
  clear hx h1 h2 r0 r1 r2 r3 hlt hne
  go_enter Tryz.func180, Tryz.ntmps180
  go_wp2_with fail
  refine (blen 2 (.inr rfl) w).mono ?_
  rintro e X1 ⟨z, rfl, hX⟩
  have hX := hX.symm; subst hX
  go_wp2_with fail
  refine (hi z).out.mono ?_
  rintro e X1 ⟨rfl, hq⟩
  replace hq := hid_of hq
  clear hi
  go_wp2_with fail
  go_end0
  exact ⟨rfl, hq.out⟩
set_option maxHeartbeats 1000000 in
set_option maxRecDepth 100000 in
theorem pdqK (rb cp bx e1 e2 : Nat) (x1 x2 : Int) (k1 k2 : ByteArray) (w : World) (hx : w.cell? ⟨bx, 0, none⟩ = some (.func (.func 134) #[] #[])) (h1 : EntAt w e1 x1 k1) (h2 : EntAt w e2 x2 k2) (r0 : w.cell? ⟨rb, 0, none⟩ = some (.pointer (some ⟨e1, 0, none⟩))) (r1 : w.cell? ⟨rb, 1, none⟩ = some (.bool true)) (r2 : w.cell? ⟨rb, 2, none⟩ = some (.pointer (some ⟨e2, 0, none⟩))) (r3 : w.cell? ⟨rb, 3, none⟩ = some (.bool true)) (f0 : ∀ j, w.frozen? ⟨rb, j, none⟩ = false) (hlt : decide (cmpS k2 k1 < 0) = true) (z : Int) :
    Calls Tryz.prog 189 #[.slice (some ⟨rb, 0, none⟩) 2 cp, .int .i64 0, .int .i64 2, .int .i64 z, .func (.func 181) #[] #[.pointer (some ⟨bx, 0, none⟩)]] w fun e w' => e = .returned (.tuple #[]) ∧ w.grownBy w' (some rb) ∧ w'.cell? ⟨rb, 0, none⟩ = some (.pointer (some ⟨e2, 0, none⟩)) ∧ w'.cell? ⟨rb, 1, none⟩ = some (.bool true) ∧ w'.cell? ⟨rb, 2, none⟩ = some (.pointer (some ⟨e1, 0, none⟩)) ∧ w'.cell? ⟨rb, 3, none⟩ = some (.bool true) := by
  have hi := hid_of (insertK rb cp bx e1 e2 x1 x2 k1 k2 w hx h1 h2 r0 r1 r2 r3 f0 hlt)
  clear hx h1 h2 r0 r1 r2 r3 f0 hlt
  go_enter Tryz.func189, Tryz.ntmps189
  go_wp2_with fail
  refine wp_loop_rounds 1 ?_
  rw [rounds_succ]
  go_wp2_with fail
  refine hi.out.mono ?_
  rintro e X1 ⟨rfl, hq⟩
  replace hq := hid_of hq
  clear hi
  go_wp2_with fail
  ((try simp only [Exit.inBlock, Exit.then]); refine bodyPost_ret (results_none rfl _ _ _) rfl ?_)
  exact ⟨rfl, hq.out⟩
set_option maxHeartbeats 1000000 in
set_option maxRecDepth 100000 in
theorem sortfK (rb cp bx e1 e2 : Nat) (x1 x2 : Int) (k1 k2 : ByteArray) (w : World) (hx : w.cell? ⟨bx, 0, none⟩ = some (.func (.func 134) #[] #[])) (h1 : EntAt w e1 x1 k1) (h2 : EntAt w e2 x2 k2) (r0 : w.cell? ⟨rb, 0, none⟩ = some (.pointer (some ⟨e1, 0, none⟩))) (r1 : w.cell? ⟨rb, 1, none⟩ = some (.bool true)) (r2 : w.cell? ⟨rb, 2, none⟩ = some (.pointer (some ⟨e2, 0, none⟩))) (r3 : w.cell? ⟨rb, 3, none⟩ = some (.bool true)) (f0 : ∀ j, w.frozen? ⟨rb, j, none⟩ = false) (hlt : decide (cmpS k2 k1 < 0) = true) :
    Calls Tryz.prog 180 #[.slice (some ⟨rb, 0, none⟩) 2 cp, .func (.func 181) #[] #[.pointer (some ⟨bx, 0, none⟩)]] w fun e w' => e = .returned (.tuple #[]) ∧ w.grownBy w' (some rb) ∧ w'.cell? ⟨rb, 0, none⟩ = some (.pointer (some ⟨e2, 0, none⟩)) ∧ w'.cell? ⟨rb, 1, none⟩ = some (.bool true) ∧ w'.cell? ⟨rb, 2, none⟩ = some (.pointer (some ⟨e1, 0, none⟩)) ∧ w'.cell? ⟨rb, 3, none⟩ = some (.bool true) := by
  have hi := fun z => hid_of (pdqK rb cp bx e1 e2 x1 x2 k1 k2 w hx h1 h2 r0 r1 r2 r3 f0 hlt z)
  clear hx h1 h2 r0 r1 r2 r3 f0 hlt
  go_enter Tryz.func180, Tryz.ntmps180
  go_wp2_with fail
  refine (blen 2 (.inr rfl) w).mono ?_
  rintro e X1 ⟨z, rfl, hX⟩
  have hX := hX.symm; subst hX
  go_wp2_with fail
  refine (hi z).out.mono ?_
  rintro e X1 ⟨rfl, hq⟩
  replace hq := hid_of hq
  clear hi
  go_wp2_with fail
  go_end0
  exact ⟨rfl, hq.out⟩
end Go.Proofs.YtdghkmgkmfnjjaaGreatDoor
