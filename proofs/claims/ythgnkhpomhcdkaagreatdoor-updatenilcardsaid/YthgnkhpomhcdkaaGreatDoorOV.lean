import Derived.Test.YthgnkhpomhcdkaaGreatDoorOU
/-! update: Apply, where a fault is found. -/
namespace Go.Proofs.YthgnkhpomhcdkaaGreatDoor
open Go Go.RowKit Dp

set_option maxHeartbeats 8000000 in
set_option maxRecDepth 100000 in
theorem apply_err (z : Int) (ub : Nat) (fr : Bool) (u : V5) (w : World) (hE : EnvU w)
    (hb : ∀ W, Below w.heap.size w W → Calls Tryz.prog 19 #[.pointer (some ⟨ub, 0, none⟩), u.v, .bool fr] W fun e w' => e = .returned (.tuple #[u.v, .iface 66 (.agg #[.iface 69 (.int .i64 z), .int .i64 0])]) ∧ Below W.heap.size W w') :
    Calls Tryz.prog 8 #[.pointer (some ⟨ub, 0, none⟩), u.v, .bool fr] w fun e w' => e = .returned (.tuple #[nullV, .bool false, .int .i64 z, .int .i64 0]) ∧ Below w.heap.size w w' := by
  have hB2 : Below w.heap.size w ((w.alloc (u.obj 28)).alloc (.cells #[.int .i64 0, .int .i64 0, .string ⟨#[]⟩, .slice none 0 0, .slice none 0 0] 28)) := ((Below.refl _ w).alloc (Nat.le_refl _) _).alloc (by simp) _
  have X0 : ((w.alloc (u.obj 28)).alloc (.cells #[.int .i64 0, .int .i64 0, .string ⟨#[]⟩, .slice none 0 0, .slice none 0 0] 28)).heap[w.heap.size]? = some (u.obj 28) := al_lt (by simp) (al_eq rfl)
  have X1 : ((w.alloc (u.obj 28)).alloc (.cells #[.int .i64 0, .int .i64 0, .string ⟨#[]⟩, .slice none 0 0, .slice none 0 0] 28)).heap[w.heap.size + 1]? = some (.cells #[.int .i64 0, .int .i64 0, .string ⟨#[]⟩, .slice none 0 0, .slice none 0 0] 28) := al_eq (by simp)
  obtain ⟨z0, z1, z2, z3, z4⟩ := box_five X0 (Below.refl _ _)
  have hch := hid_of (hb _ hB2)
  replace hB2 := hid_of hB2; replace X0 := hid_of X0; replace X1 := hid_of X1
  have htold := hid_of (fun W (hbw : Below w.heap.size w W) => told_any z 0 W (hE.keep hbw))
  clear hb hE
  unfold V5.v V5.obj at *
  go_enter Tryz.func8, Tryz.ntmps8
  go_wp2_with fail
  generalize (w.alloc (.cells #[.int .i64 u.k, .int .i64 u.x, .string u.s, .slice u.an u.ln u.cn, .slice u.ai u.li u.ci] 28)).alloc (.cells #[.int .i64 0, .int .i64 0, .string ⟨#[]⟩, .slice none 0 0, .slice none 0 0] 28) = wq at *
  refine hch.out.mono ?_
  rintro e W1 ⟨rfl, hb1⟩
  have HB1 := hid_of (hB2.out.trans (hb1.mono hB2.out.size))
  have C1 := hid_of (block_keep X1.out hb1)
  have hbA : Below W1.heap.size W1 (W1.alloc (.cells #[.int .i64 u.k, .int .i64 u.x, .string u.s, .slice u.an u.ln u.cn, .slice u.ai u.li u.ci] 28)) := (Below.refl _ W1).alloc (Nat.le_refl _) _
  have HB2 := hid_of (HB1.out.trans (hbA.mono HB1.out.size))
  have D1 := hid_of (block_keep C1.out hbA)
  have ht := hid_of (htold.out _ HB2.out)
  clear hb1 hbA C1 z0 z1 z2 z3 z4 X0 X1 hch HB1 hB2 htold
  go_wp2_with fail
  refine ht.out.mono ?_
  rintro e W3 ⟨rfl, hb3⟩
  have HB3 := hid_of (HB2.out.trans (hb3.mono HB2.out.size))
  have E1 := hid_of (block_keep D1.out hb3)
  clear hb3 D1 HB2 ht
  obtain ⟨t0, t1, t2, t3, t4, tf⟩ := row_cells E1.out
  have tf0 := tf 0; have tf1 := tf 1; have tf2 := tf 2; have tf3 := tf 3; have tf4 := tf 4
  clear tf
  go_wp2_with fail
  rw [← put5_def]
  have hr5 := put5_at E1.out (.int .i64 0) (.int .i64 0) (.string ⟨#[]⟩) (.slice none 0 0) (.slice none 0 0)
  have hB5 := hid_of (HB3.out.trans (put5_below (w := W3) (g := w.heap.size + 1) (by omega) (.int .i64 0) (.int .i64 0) (.string ⟨#[]⟩) (.slice none 0 0) (.slice none 0 0)))
  clear t0 t1 t2 t3 t4 tf0 tf1 tf2 tf3 tf4 E1 HB3
  generalize put5 W3 (w.heap.size + 1) (.int .i64 0) (.int .i64 0) (.string ⟨#[]⟩) (.slice none 0 0) (.slice none 0 0) = w9 at hr5 hB5 ⊢
  have q0 : w9.cell? ⟨w.heap.size + 1, 0, none⟩ = some (.int .i64 0) := cell_of hr5 0
  have q1 : w9.cell? ⟨w.heap.size + 1, 1, none⟩ = some (.int .i64 0) := cell_of hr5 1
  have q2 : w9.cell? ⟨w.heap.size + 1, 2, none⟩ = some (.string ⟨#[]⟩) := cell_of hr5 2
  have q3 : w9.cell? ⟨w.heap.size + 1, 3, none⟩ = some (.slice none 0 0) := cell_of hr5 3
  have q4 : w9.cell? ⟨w.heap.size + 1, 4, none⟩ = some (.slice none 0 0) := cell_of hr5 4
  refine bodyPost_ret (v := .tuple #[.agg #[.int .i64 0, .int .i64 0, .string ⟨#[]⟩, .slice none 0 0, .slice none 0 0], .bool false, .int .i64 z, .int .i64 0]) (by simp [results, Tryz.results8, go_sem, q0, q1, q2, q3, q4]) rfl ?_
  exact ⟨rfl, hB5.out⟩
end Go.Proofs.YthgnkhpomhcdkaaGreatDoor
