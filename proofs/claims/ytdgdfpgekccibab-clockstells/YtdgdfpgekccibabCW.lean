import Derived.Test.YtdgdfpgekccibabCT
import Derived.Test.YtdgdfpgekccibabCV
/-! clocks: the law's own trace. -/
namespace Go.Proofs.Ytdgdfpgekccibab
open Go Go.RowKit
theorem num_any (v : Int) (w : World) : Calls Try.prog 13 #[.int .i64 v] w fun e w' => e = .returned (.int .i64 v) ∧ w' = w := by
  go_enter Try.func13, Try.ntmps13
  go_wp2
  exact bodyPost_ret (v := .int .i64 v) (by simp [results, Try.results13, go_sem]) rfl ⟨rfl, rfl⟩
def trA : List Ev := [⟨0, 9, 1, 0⟩, ⟨0, 2, 2, 0⟩, ⟨1, 1, 2, 0⟩, ⟨1, 8, 1, 0⟩]
def trB : List Ev := [⟨0, 9, 1, 0⟩, ⟨1, 8, 1, 0⟩]
theorem chkA : chk trA 2 = 0 := by kernel_rfl
theorem chkB : chk trB 2 = 0 := by kernel_rfl
theorem clkA0 : clkAt trA 3 0 = 2 := by kernel_rfl
theorem clkA1 : clkAt trA 3 1 = 2 := by kernel_rfl
theorem raceA : raceK trA 4 = [] := by kernel_rfl
theorem raceB : (raceK trB 2).length = 1 := by kernel_rfl
theorem befA : beforeB trA 2 0 3 = true := by kernel_rfl
theorem seesA : seesO trA 2 3 = some 0 := by kernel_rfl
theorem evsA {w : World} {b : Nat} (h : w.heap[b]? = some (.cells #[.int .i64 0, .int .i64 9, .int .i64 1, .int .i64 0, .int .i64 0, .int .i64 2, .int .i64 2, .int .i64 0, .int .i64 1, .int .i64 1, .int .i64 2, .int .i64 0, .int .i64 1, .int .i64 8, .int .i64 1, .int .i64 0] 57 (0, 0))) : EvsAt w (some ⟨b, 0, none⟩) trA := fun j e he => by
  have hl := (Array.getElem?_eq_some_iff.1 h).1
  refine ⟨b, 0, rfl, hl, ?_⟩
  rcases j with _ | _ | _ | _ | j
  · cases he; simp [World.cell?, h]
  · cases he; simp [World.cell?, h]
  · cases he; simp [World.cell?, h]
  · cases he; simp [World.cell?, h]
  · simp [trA] at he
theorem evsB {w : World} {b : Nat} (h : w.heap[b]? = some (.cells #[.int .i64 0, .int .i64 9, .int .i64 1, .int .i64 0, .int .i64 1, .int .i64 8, .int .i64 1, .int .i64 0] 57 (0, 0))) : EvsAt w (some ⟨b, 0, none⟩) trB := fun j e he => by
  have hl := (Array.getElem?_eq_some_iff.1 h).1
  refine ⟨b, 0, rfl, hl, ?_⟩
  rcases j with _ | _ | j
  · cases he; simp [World.cell?, h]
  · cases he; simp [World.cell?, h]
  · simp [trB] at he
theorem wfA : ∀ e ∈ trA, I64 e.o ∧ I64 e.n := by
  intro e he
  simp [trA] at he
  rcases he with rfl | rfl | rfl | rfl <;> exact ⟨⟨by decide, by decide⟩, ⟨by decide, by decide⟩⟩
theorem wfB : ∀ e ∈ trB, I64 e.o ∧ I64 e.n := by
  intro e he
  simp [trB] at he
  rcases he with rfl | rfl <;> exact ⟨⟨by decide, by decide⟩, ⟨by decide, by decide⟩⟩
set_option maxHeartbeats 2000000 in
set_option maxRecDepth 100000 in
theorem live_any (w : World) : Calls Try.prog 9 #[] w fun e w' => e = .returned (.bool true) ∧ Below w.heap.size w w' := by
  obtain ⟨X1, hX1⟩ : ∃ X1, Hid (w.alloc (.cells #[.int .i64 0, .int .i64 9, .int .i64 1, .int .i64 0, .int .i64 0, .int .i64 2, .int .i64 2, .int .i64 0, .int .i64 1, .int .i64 1, .int .i64 2, .int .i64 0, .int .i64 1, .int .i64 8, .int .i64 1, .int .i64 0] 57) = X1) := ⟨_, rfl⟩
  have hB1 : Below w.heap.size w X1 := by rw [← hX1.out]; exact (Below.refl _ w).alloc (Nat.le_refl _) _
  have x1 : X1.heap[w.heap.size]? = some (.cells #[.int .i64 0, .int .i64 9, .int .i64 1, .int .i64 0, .int .i64 0, .int .i64 2, .int .i64 2, .int .i64 0, .int .i64 1, .int .i64 1, .int .i64 2, .int .i64 0, .int .i64 1, .int .i64 8, .int .i64 1, .int .i64 0] 57 (0, 0)) := by rw [← hX1.out]; exact heap_alloc_new w _
  have hcl : Hid (Calls Try.prog 11 #[.slice (some ⟨w.heap.size, 0, none⟩) 4 4, .int .i64 2] X1 (ClocksPost X1 trA 2)) := clocks_any (some ⟨w.heap.size, 0, none⟩) 4 trA 2 X1 (evsA x1) (by decide) (by decide) wfA
  have hl1 : w.heap.size < X1.heap.size := (Array.getElem?_eq_some_iff.1 x1).1
  go_enter Try.func9, Try.ntmps9
  go_wp2_with (rw [hX1.out])
  refine hcl.out.mono ?_
  clear hX1 hcl
  rintro e X2 ⟨hB2, ⟨hne, -⟩ | ⟨-, g, G, rfl, hC⟩⟩
  · exact absurd chkA hne
  rw [show trA.length = 4 from rfl] at hC ⊢
  rw [show Int.toNat 2 = 2 from rfl] at hC
  have x2 := (hB2.block _ hl1).trans x1
  have hra : Hid (Calls Try.prog 16 #[.slice (some ⟨w.heap.size, 0, none⟩) 4 4, .int .i64 2] X2 (RacesPost X2 trA 2)) := races_any (some ⟨w.heap.size, 0, none⟩) 4 trA 2 X2 (evsA x2) (by decide) (by decide) wfA
  have g3 := hC.row.cell (i := 3) (by decide)
  have r3 := hC.each 3 (by decide)
  have c0 := r3.2.2.cell (i := 0) (by decide)
  have c1 := r3.2.2.cell (i := 1) (by decide)
  simp only [cnt, clkA0, clkA1] at c0 c1
  replace hC := hid_of hC
  replace r3 := hid_of r3
  have hB12 : Hid (Below w.heap.size w X2) := hB1.trans (hB2.mono hB1.size)
  replace hB1 := hid_of hB1
  replace x1 := hid_of x1
  replace hB2 := hid_of hB2
  go_wp2_with fail
  refine hra.out.mono ?_
  clear hra
  rintro e X3 ⟨hB3, ⟨hne, -⟩ | ⟨-, ov, rfl, hov⟩⟩
  · exact absurd chkA hne
  have hov' := hov
  rw [show trA.length = 4 from rfl, raceA] at hov'
  obtain ⟨a3, cap3, rfl, -, -, -⟩ := ownsRow_form hov'
  replace hov := hid_of hov
  replace hov' := hid_of hov'
  have x3 := (hB3.block _ (Array.getElem?_eq_some_iff.1 x2).1).trans x2
  have hB13 : Hid (Below w.heap.size w X3) := hB12.out.trans (hB3.mono hB12.out.size)
  have q0 : X3.cell? ⟨w.heap.size, 0, none⟩ = some (.int .i64 0) := by simp [World.cell?, x3]
  have q1 : X3.cell? ⟨w.heap.size, 1, none⟩ = some (.int .i64 9) := by simp [World.cell?, x3]
  have q2 : X3.cell? ⟨w.heap.size, 2, none⟩ = some (.int .i64 1) := by simp [World.cell?, x3]
  have q3 : X3.cell? ⟨w.heap.size, 3, none⟩ = some (.int .i64 0) := by simp [World.cell?, x3]
  have q12 : X3.cell? ⟨w.heap.size, 12, none⟩ = some (.int .i64 1) := by simp [World.cell?, x3]
  have q13 : X3.cell? ⟨w.heap.size, 13, none⟩ = some (.int .i64 8) := by simp [World.cell?, x3]
  have q14 : X3.cell? ⟨w.heap.size, 14, none⟩ = some (.int .i64 1) := by simp [World.cell?, x3]
  have q15 : X3.cell? ⟨w.heap.size, 15, none⟩ = some (.int .i64 0) := by simp [World.cell?, x3]
  have hnum := hid_of num_any
  replace hB3 := hid_of hB3
  obtain ⟨X4, hX4⟩ : ∃ X4, Hid ((X3.alloc (.cells #[.int .i64 0, .int .i64 9, .int .i64 1, .int .i64 0, .int .i64 1, .int .i64 8, .int .i64 1, .int .i64 0] 57)).drew = X4) := ⟨_, rfl⟩
  have hB4 : Below X3.heap.size X3 X4 := by rw [← hX4.out]; exact below_drew ((Below.refl _ X3).alloc (Nat.le_refl _) _)
  have x4 : X4.heap[X3.heap.size]? = some (.cells #[.int .i64 0, .int .i64 9, .int .i64 1, .int .i64 0, .int .i64 1, .int .i64 8, .int .i64 1, .int .i64 0] 57 (0, 0)) := by rw [← hX4.out]; exact heap_alloc_new X3 _
  have hrb : Hid (Calls Try.prog 16 #[.slice (some ⟨X3.heap.size, 0, none⟩) 2 2, .int .i64 2] X4 (RacesPost X4 trB 2)) := races_any (some ⟨X3.heap.size, 0, none⟩) 2 trB 2 X4 (evsB x4) (by decide) (by decide) wfB
  replace x4 := hid_of x4
  replace hB4 := hid_of hB4
  go_wp2_with fail
  go_region_held3 (fun w' => w'.cell? ⟨w.heap.size, 0, none⟩ = some (.int .i64 0) ∧ w'.cell? ⟨w.heap.size, 1, none⟩ = some (.int .i64 9) ∧ w'.cell? ⟨w.heap.size, 2, none⟩ = some (.int .i64 1) ∧ w'.cell? ⟨w.heap.size, 3, none⟩ = some (.int .i64 0) ∧ w'.cell? ⟨w.heap.size, 12, none⟩ = some (.int .i64 1) ∧ w'.cell? ⟨w.heap.size, 13, none⟩ = some (.int .i64 8) ∧ w'.cell? ⟨w.heap.size, 14, none⟩ = some (.int .i64 1) ∧ w'.cell? ⟨w.heap.size, 15, none⟩ = some (.int .i64 0)) (go_keep) (fail)
  go_wp2_with (rw [hX4.out])
  clear hX4 q0 q1 q2 q3 q12 q13 q14 q15
  refine hrb.out.mono ?_
  clear hrb
  rintro e X5 ⟨hB5, ⟨hne, -⟩ | ⟨-, ov2, rfl, hov2⟩⟩
  · exact absurd chkB hne
  rw [show trB.length = 2 from rfl, raceB] at hov2
  obtain ⟨a5, cap5, rfl, -, -, -⟩ := ownsRow_form hov2
  replace hov2 := hid_of hov2
  have hB35 : Hid (Below X3.heap.size X3 X5) := hB4.out.trans (hB5.mono hB4.out.size)
  have x5 := (hB35.out.block _ (Array.getElem?_eq_some_iff.1 x3).1).trans x3
  have hse : Hid (Calls Try.prog 22 #[.slice (some ⟨w.heap.size, 0, none⟩) 4 4, .int .i64 2, .int .i64 3] X5 fun e w' => e = .returned (seenV (some 0)) ∧ Below X5.heap.size X5 w') := by
    have := sees_any (some ⟨w.heap.size, 0, none⟩) 4 trA 2 3 X5 (evsA x5) (by decide) (by decide)
    rw [seesA] at this
    exact this
  replace hB5 := hid_of hB5
  go_wp2_with fail
  refine hse.out.mono ?_
  clear hse
  rintro e X6 ⟨rfl, hB6⟩
  unfold seenV
  have x6 := (hB6.block _ (Array.getElem?_eq_some_iff.1 x5).1).trans x5
  have hB26 : Below X2.heap.size X2 X6 := (hB3.out.trans (hB35.out.mono hB3.out.size)).trans (hB6.mono (Nat.le_trans hB3.out.size hB35.out.size))
  have hbe : Hid (Calls Try.prog 6 #[.slice (some ⟨w.heap.size, 0, none⟩) 4 4, .int .i64 2, .int .i64 0, .int .i64 3] X6 fun e w' => e = .returned (.bool true) ∧ Below X6.heap.size X6 w') := by
    have := before_any (some ⟨w.heap.size, 0, none⟩) 4 trA 2 0 3 X6 (evsA x6) (by decide) (by decide) wfA
    rw [befA] at this
    exact this
  have g6 := stay hB26 g3
  have d0 := stay hB26 c0
  have d1 := stay hB26 c1
  have hB16 : Hid (Below w.heap.size w X6) := hB12.out.trans (hB26.mono hB12.out.size)
  clear g3 c0 c1
  replace hB26 := hid_of hB26
  replace hB6 := hid_of hB6
  replace x2 := hid_of x2
  replace x3 := hid_of x3
  replace x5 := hid_of x5
  replace x6 := hid_of x6
  go_wp2_with fail
  refine (hnum.out 0 X6).mono ?_
  rintro e w' ⟨rfl, hw'⟩
  obtain rfl : X6 = w' := hw'.symm
  clear hw'
  go_wp2_with fail
  refine (hnum.out 0 X6).mono ?_
  rintro e w' ⟨rfl, hw'⟩
  obtain rfl : X6 = w' := hw'.symm
  clear hw'
  go_wp2_with fail
  refine (hnum.out 0 X6).mono ?_
  rintro e w' ⟨rfl, hw'⟩
  obtain rfl : X6 = w' := hw'.symm
  clear hw'
  go_wp2_with fail
  refine hbe.out.mono ?_
  rintro e X7 ⟨rfl, hB7⟩
  clear hbe
  go_wp2_with fail
  exact bodyPost_ret (v := .bool true) (by simp [results, Try.results9, go_sem]) rfl ⟨rfl, hB16.out.trans (hB7.mono hB16.out.size)⟩
end Go.Proofs.Ytdgdfpgekccibab
