import Derived.Test.YtdghkmgkmfnjjaaGreatDoorQA
/-! The change of nothing. -/
namespace Go.Proofs.YtdghkmgkmfnjjaaGreatDoor
open Go Go.RowKit

set_option maxHeartbeats 1000000 in
set_option maxRecDepth 100000 in
theorem grow0 (w : World) : Calls Tryz.prog 164 #[.slice none 0 0, .int .i64 0] w fun e w' => e = .returned (.slice none 0 0) ∧ w' = w := by
  go_enter Tryz.func164, Tryz.ntmps164
  go_wp2_with fail
  go_ret
  exact ⟨rfl, rfl⟩
set_option maxHeartbeats 1000000 in
set_option maxRecDepth 100000 in
theorem concat0 (w : World) : Calls Tryz.prog 131 #[.slice none 0 0] w fun e w' => e = .returned (.slice none 0 0) ∧ w' = w := by
  go_enter Tryz.func131, Tryz.ntmps131
  go_wp2_with fail
  refine wp_loop_rounds 1 ?_
  rw [rounds_succ]
  go_wp2_with fail
  refine (grow0 w).mono ?_
  rintro e X1 ⟨rfl, hX⟩
  have hX := hX.symm; subst hX
  go_wp2_with fail
  refine wp_loop_rounds 1 ?_
  rw [rounds_succ]
  go_wp2_with fail
  go_ret
  exact ⟨rfl, rfl⟩
theorem below_eq_drew {w X : World} (h : X = w.drew) : Below w.heap.size w X := by
  subst h
  exact below_drew (Below.refl _ w)
set_option maxHeartbeats 4000000 in
set_option maxRecDepth 100000 in
theorem result0 (cb xb : Nat) (mt mc : Nat) (nm pt : ByteArray) (un : Bool) (ap : Option Addr) (np cpp : Nat) (w : World)
    (hC : ChAt w cb xb (.slice none 0 0) mt mc) (hX : IxAt w xb nm pt un (.slice ap np cpp) (.slice none 0 0) (.slice none 0 0)) :
    Calls Tryz.prog 89 #[.pointer (some ⟨cb, 0, none⟩)] w fun e w' => Below w.heap.size w w' ∧ ∃ yb ge gk, e = .returned (.pointer (some ⟨yb, 0, none⟩)) ∧ IxAt w' yb nm pt un (.slice ap np cpp) (.slice (some ⟨ge, 0, none⟩) 0 0) (.slice (some ⟨gk, 0, none⟩) 0 0) := by
  obtain ⟨c0, c1, c2, -, -, -⟩ := hC.cells
  obtain ⟨y0, y1, y2, y3, y4, y5⟩ := hX.cells
  clear hC hX
  go_enter Tryz.func89, Tryz.ntmps89
  go_wp2_with fail
  go_region_held3 (fun W => W.cell? ⟨cb, 0, none⟩ = some (.pointer (some ⟨xb, 0, none⟩)) ∧ W.cell? ⟨cb, 2, none⟩ = some (.slice none 0 0)) (go_keep) ((go_at_call 131; refine (concat0 _).mono ?_; rintro e X1 ⟨rfl, hX1⟩; have hb := below_eq_drew hX1; clear hX1; have j0 := stay hb c0; have j1 := stay hb c2; replace hb := hid_of hb))
  have u1 := stay hb.out c1
  have v0 := stay hb.out y0
  have v1 := stay hb.out y1
  have v2 := stay hb.out y2
  have v3 := stay hb.out y3
  have v4 := stay hb.out y4
  have v5 := stay hb.out y5
  clear c0 c1 c2 y0 y1 y2 y3 y4 y5
  go_wp2_with fail
  go_region_held3 (fun W => W.cell? ⟨cb, 1, none⟩ = some (.slice none 0 0) ∧ W.cell? ⟨xb, 0, none⟩ = some (.string nm) ∧ W.cell? ⟨xb, 1, none⟩ = some (.string pt) ∧ W.cell? ⟨xb, 2, none⟩ = some (.bool un) ∧ W.cell? ⟨xb, 3, none⟩ = some (.slice ap np cpp) ∧ W.cell? ⟨xb, 4, none⟩ = some (.slice none 0 0) ∧ W.cell? ⟨xb, 5, none⟩ = some (.slice none 0 0)) (go_keep) (first
    | (go_at_call 132; (with_reducible refine (edited0 134 X2).mono ?_); rintro e X3 ⟨hb3', gk, rfl⟩; have hb3 : Below X1.heap.size X1 X3 := hb2.out.trans (hb3'.mono hb2.out.size); clear hb3'; have q1 := stay hb3 u1; have s0 := stay hb3 v0; have s1 := stay hb3 v1; have s2 := stay hb3 v2; have s3 := stay hb3 v3; have s4 := stay hb3 v4; have s5 := stay hb3 v5; replace hb3 := hid_of hb3)
    | (go_at_call 132; (with_reducible refine (edited0 133 X1.drew).mono ?_); rintro e X2 ⟨hb2', ge, rfl⟩; have hb2 : Below X1.heap.size X1 X2 := (below_drew (Below.refl _ X1)).trans hb2'; clear hb2'; have z1 := stay hb2 u1; have t0 := stay hb2 v0; have t1 := stay hb2 v1; have t2 := stay hb2 v2; have t3 := stay hb2 v3; have t4 := stay hb2 v4; have t5 := stay hb2 v5; replace hb2 := hid_of hb2))
  go_wp2_with fail
  go_ret
  have hB3 := hb.out.trans (hb3.out.mono hb.out.size)
  exact ⟨hB3.alloc hB3.size _, _, ge, gk, rfl, heap_alloc_new _ _⟩
set_option maxHeartbeats 4000000 in
set_option maxRecDepth 100000 in
theorem change0 (xb : Nat) (nm pt : ByteArray) (un : Bool) (ap : Option Addr) (np cpp : Nat) (w : World) (hX : IxAt w xb nm pt un (.slice ap np cpp) (.slice none 0 0) (.slice none 0 0)) :
    Calls Tryz.prog 55 #[.pointer (some ⟨xb, 0, none⟩), .slice none 0 0, .slice none 0 0] w fun e w' => Below w.heap.size w w' ∧ ∃ yb ge gk, e = .returned (.tuple #[.pointer (some ⟨yb, 0, none⟩), .string ⟨#[]⟩, .int .i64 0]) ∧ IxAt w' yb nm pt un (.slice ap np cpp) (.slice (some ⟨ge, 0, none⟩) 0 0) (.slice (some ⟨gk, 0, none⟩) 0 0) := by
  go_enter Tryz.func55, Tryz.ntmps55
  go_wp2_with fail
  refine (begin0 xb w).mono ?_
  rintro e X1 ⟨hb1, rfl, hC1, -⟩
  have hre := hid_of (result0 _ xb _ _ nm pt un ap np cpp X1 hC1 (hX.keep hb1))
  replace hb1 := hid_of hb1
  clear hC1 hX
  go_wp2_with fail
  refine wp_loop_rounds 1 ?_
  rw [rounds_succ]
  go_wp2_with fail
  refine hre.out.mono ?_
  rintro e X4 ⟨hb4, yb, ge, gk, rfl, hI⟩
  replace hI := hid_of hI
  have hB := hid_of (hb1.out.trans (hb4.mono hb1.out.size))
  clear hre hb4
  go_wp2_with fail
  refine bodyPost_ret (results_tmp3 rfl _ _ _) rfl ?_
  exact ⟨hB.out, yb, ge, gk, rfl, hI.out⟩
end Go.Proofs.YtdghkmgkmfnjjaaGreatDoor
