import Derived.Test.YthgnkhpomhcdkaaGreatDoorOS
import Derived.Test.YthgnkhpomhcdkaaGreatDoorOQ
/-! update: told, of an error that is located. -/
namespace Go.Proofs.YthgnkhpomhcdkaaGreatDoor
open Go Go.RowKit

theorem put2_at {w : World} {g : Nat} {o0 o1 : Value} {t : TypeId} (h : w.heap[g]? = some (.cells #[o0, o1] t (0, 0))) (a0 a1 : Value) : ((w.setCell ⟨g, 0, none⟩ a0).setCell ⟨g, 1, none⟩ a1).heap[g]? = some (.cells #[a0, a1] t (0, 0)) := by
  simp [World.setCell, Array.getElem?_modify, h]
theorem put2_far {w : World} {g : Nat} (a0 a1 : Value) {k : Nat} (hk : k ≠ g) : ((w.setCell ⟨g, 0, none⟩ a0).setCell ⟨g, 1, none⟩ a1).heap[k]? = w.heap[k]? :=
  (Below.heap_setCell _ _ _ _ hk).trans (Below.heap_setCell _ _ _ _ hk)
theorem put2_below {w : World} {g B : Nat} (h : B ≤ g) (a0 a1 : Value) : Below B w ((w.setCell ⟨g, 0, none⟩ a0).setCell ⟨g, 1, none⟩ a1) :=
  ⟨rfl, rfl, rfl, by simp [World.setCell], fun k hk => put2_far _ _ (by omega)⟩
set_option maxHeartbeats 4000000 in
set_option maxRecDepth 100000 in
theorem told_any (z i : Int) (w : World) (hE : EnvU w) :
    Calls Tryz.prog 20 #[.iface 66 (.agg #[.iface 69 (.int .i64 z), .int .i64 i])] w fun e w' => e = .returned (.tuple #[.int .i64 z, .int .i64 i]) ∧ Below w.heap.size w w' := by
  have hB0 : Below w.heap.size w ((w.alloc (.cells #[.int .i64 0] 69)).alloc (.cells #[.nilIface, .int .i64 0] 66)) := ((Below.refl _ w).alloc (Nat.le_refl _) _).alloc (by simp) _
  have X0 : ((w.alloc (.cells #[.int .i64 0] 69)).alloc (.cells #[.nilIface, .int .i64 0] 66)).heap[w.heap.size]? = some (.cells #[.int .i64 0] 69) := al_lt (by simp) (al_eq rfl)
  have X1 : ((w.alloc (.cells #[.int .i64 0] 69)).alloc (.cells #[.nilIface, .int .i64 0] 66)).heap[w.heap.size + 1]? = some (.cells #[.nilIface, .int .i64 0] 66) := al_eq (by simp)
  have hs1 : ((w.alloc (.cells #[.int .i64 0] 69)).alloc (.cells #[.nilIface, .int .i64 0] 66)).heap.size = w.heap.size + 1 + 1 := by simp
  have hE0 := hE.keep hB0
  clear hE
  replace hB0 := hid_of hB0; replace X0 := hid_of X0; replace X1 := hid_of X1; replace hE0 := hid_of hE0
  go_enter Tryz.func20, Tryz.ntmps20
  go_wp2_with fail
  generalize (w.alloc (.cells #[.int .i64 0] 69)).alloc (.cells #[.nilIface, .int .i64 0] 66) = wq at *
  refine (as_fault z i ⟨w.heap.size, 0, none⟩ _ wq hE0.out.et (cell_of X0.out 0) (frozen_of X0.out 0)).mono ?_
  rintro e W1 ⟨rfl, hW1⟩
  obtain ⟨Y, hY, hbY⟩ : ∃ Y, W1 = World.setCell Y ⟨w.heap.size, 0, none⟩ (.int .i64 z) ∧ Below wq.heap.size wq Y := ⟨_, hW1, by
    repeat refine Below.alloc ?_ (by first | omega | (simp only [size_al] <;> omega)) _
    exact Below.refl _ _⟩
  clear hW1
  have hYs := hbY.size
  have C0 := block_keep X0.out hbY
  have C1 := block_keep X1.out hbY
  have D0 : W1.heap[w.heap.size]? = some (.cells #[.int .i64 z] 69 (0, 0)) := by rw [hY]; exact put1_at C0 _
  have D1 : W1.heap[w.heap.size + 1]? = some (.cells #[.nilIface, .int .i64 0] 66) := by rw [hY]; exact (put1_far _ (by omega)).trans C1
  have HB1 : Below w.heap.size w W1 := by rw [hY]; exact (hB0.out.trans (hbY.mono hB0.out.size)).trans (put1_below (Nat.le_refl _) _)
  have hEt : W1.cell? ⟨0, 0, none⟩ = some (.iface 149 (.agg #[.pointer (some ⟨7, 44, none⟩)])) := by
    have h1 := stay hbY hE0.out.et
    rw [hY]
    refine (World.cell?_of_block (w := Y) (put1_far _ ?_)).trans h1
    intro e
    have h2 := hE0.out.et
    rw [cell_of (show wq.heap[0]? = _ by rw [show 0 = w.heap.size from e]; exact X0.out) 0] at h2
    simp at h2
  have hs2 : w.heap.size + 1 < W1.heap.size := (Array.getElem?_eq_some_iff.1 D1).1
  clear hY hbY C0 C1 hB0 X0 X1 hE0 hYs hs1
  have hAs := hid_of (as_located z i (w.heap.size + 1) _ _ W1 hEt (cell_of D1 0) (cell_of D1 1) (frozen_of D1 0) (frozen_of D1 1))
  replace D0 := hid_of D0; replace D1 := hid_of D1; replace HB1 := hid_of HB1
  clear hEt
  go_wp2_with fail
  refine hAs.out.mono ?_
  rintro e W2 ⟨rfl, hW2⟩
  obtain ⟨Y, hY, hbY⟩ : ∃ Y, W2 = (World.setCell Y ⟨w.heap.size + 1, 0, none⟩ (.iface 69 (.int .i64 z))).setCell ⟨w.heap.size + 1, 1, none⟩ (.int .i64 i) ∧ Below W1.heap.size W1 Y := ⟨_, hW2, by
    repeat refine Below.alloc ?_ (by first | omega | (simp only [size_al] <;> omega)) _
    exact Below.refl _ _⟩
  clear hW2 hAs
  have E0 : W2.heap[w.heap.size]? = some (.cells #[.int .i64 z] 69 (0, 0)) := by rw [hY]; exact (put2_far _ _ (by omega)).trans (block_keep D0.out hbY)
  have E1 : W2.heap[w.heap.size + 1]? = some (.cells #[.iface 69 (.int .i64 z), .int .i64 i] 66 (0, 0)) := by rw [hY]; exact put2_at (block_keep D1.out hbY) _ _
  have HB2 : Hid (Below w.heap.size w W2) := hid_of (by rw [hY]; exact (HB1.out.trans (hbY.mono HB1.out.size)).trans (put2_below (by omega) _ _))
  clear hY hbY D0 D1 HB1
  have f0 := cell_of E0 0
  have l1 := cell_of E1 1
  simp only [List.getElem?_toArray, List.getElem?_cons_zero, List.getElem?_cons_succ] at f0 l1
  clear E0 E1
  go_wp2_with fail
  go_quiet (fail)
  go_wp2_with fail
  go_ret2
  exact ⟨rfl, below_drewN HB2.out _⟩
end Go.Proofs.YthgnkhpomhcdkaaGreatDoor
/-! update: Apply. -/
namespace Go.Proofs.YthgnkhpomhcdkaaGreatDoor
open Go Go.RowKit Dp

set_option maxHeartbeats 8000000 in
set_option maxRecDepth 100000 in
theorem apply_ok (t R : Tr) (ub : Nat) (fr : Bool) (u : V5) (S0 : Nat → Prop) (w : World) (hSw0 : ∀ k, S0 k → k < w.heap.size) (hV : VRep w t u.cs) (hR : SmallT R)
    (hb : ∀ W, Below w.heap.size w W → Calls Tryz.prog 19 #[.pointer (some ⟨ub, 0, none⟩), u.v, .bool fr] W (Laid S0 W R)) :
    Calls Tryz.prog 8 #[.pointer (some ⟨ub, 0, none⟩), u.v, .bool fr] w fun e w' => Below w.heap.size w w' ∧ ∃ y : V5, e = .returned (.tuple #[y.v, .bool (!eqT R t), .int .i64 0, .int .i64 0]) ∧ VRep w' R y.cs := by
  have hB2 : Below w.heap.size w ((w.alloc (u.obj 28)).alloc (.cells #[.int .i64 0, .int .i64 0, .string ⟨#[]⟩, .slice none 0 0, .slice none 0 0] 28)) := ((Below.refl _ w).alloc (Nat.le_refl _) _).alloc (by simp) _
  have X0 : ((w.alloc (u.obj 28)).alloc (.cells #[.int .i64 0, .int .i64 0, .string ⟨#[]⟩, .slice none 0 0, .slice none 0 0] 28)).heap[w.heap.size]? = some (u.obj 28) := al_lt (by simp) (al_eq rfl)
  have X1 : ((w.alloc (u.obj 28)).alloc (.cells #[.int .i64 0, .int .i64 0, .string ⟨#[]⟩, .slice none 0 0, .slice none 0 0] 28)).heap[w.heap.size + 1]? = some (.cells #[.int .i64 0, .int .i64 0, .string ⟨#[]⟩, .slice none 0 0, .slice none 0 0] 28) := al_eq (by simp)
  obtain ⟨z0, z1, z2, z3, z4⟩ := box_five X0 (Below.refl _ _)
  have hch := hid_of (hb _ hB2)
  replace hB2 := hid_of hB2; replace X0 := hid_of X0; replace X1 := hid_of X1
  obtain ⟨q, hq⟩ : ∃ q, Hid (eqT R t = q) := ⟨_, hid_of rfl⟩
  have heq := hid_of (fun (y : V5) W (hbw : Below w.heap.size w W) (hy : VRep W R y.cs) => (jeq_any R t y.cs u.cs W hy (VRep.keep hbw _ _ hV) hR))
  rw [hq.out] at heq ⊢
  clear hb hV hR
  unfold V5.v V5.obj at *
  go_enter Tryz.func8, Tryz.ntmps8
  go_wp2_with fail
  generalize (w.alloc (.cells #[.int .i64 u.k, .int .i64 u.x, .string u.s, .slice u.an u.ln u.cn, .slice u.ai u.li u.ci] 28)).alloc (.cells #[.int .i64 0, .int .i64 0, .string ⟨#[]⟩, .slice none 0 0, .slice none 0 0] 28) = wq at *
  refine hch.out.mono ?_
  rintro e W1 ⟨hb1, ⟨ka, xa, sa, ana, lna, cna, aia, lia, cia⟩, rfl, hy⟩
  unfold V5.v
  dsimp only
  have hwq : w.heap.size + 1 < wq.heap.size := (Array.getElem?_eq_some_iff.1 X1.out).1
  have HB1 := hid_of (hB2.out.trans (hb1.mono hB2.out.size))
  have C0 := hid_of (block_keep X0.out hb1)
  have C1 := hid_of (block_keep X1.out hb1)
  have ne1 : ¬ w.heap.size + 1 = W1.heap.size := by have := (Array.getElem?_eq_some_iff.1 C1.out).1; omega
  have hbA : Below W1.heap.size W1 (W1.alloc (.cells #[.int .i64 ka, .int .i64 xa, .string sa, .slice ana lna cna, .slice aia lia cia] 28)) := (Below.refl _ W1).alloc (Nat.le_refl _) _
  have HB2 := hid_of (HB1.out.trans (hbA.mono HB1.out.size))
  have D0 := hid_of (block_keep C0.out hbA)
  have D1 := hid_of (block_keep C1.out hbA)
  have D2 := hid_of (heap_alloc_new W1 (.cells #[.int .i64 ka, .int .i64 xa, .string sa, .slice ana lna cna, .slice aia lia cia] 28))
  have hy2 := hid_of (hy.keep hbA)
  clear hb1 hy hbA C0 C1 z0 z1 z2 z3 z4 X0 X1 hch HB1 hB2
  go_wp2_with fail
  generalize W1.alloc (.cells #[.int .i64 ka, .int .i64 xa, .string sa, .slice ana lna cna, .slice aia lia cia] 28) = W2 at *
  have he2 := hid_of (heq.out ⟨ka, xa, sa, ana, lna, cna, aia, lia, cia⟩ W2.drew (below_drew HB2.out) (VRep.keep (below_drew (Below.refl _ W2)) _ _ hy2.out.rep))
  unfold V5.cs five at he2
  dsimp only at he2
  clear heq
  obtain ⟨z0, z1, z2, z3, z4, -⟩ := row_cells D0.out
  obtain ⟨v0, v1, v2, v3, v4, -⟩ := row_cells D2.out
  go_region_held3 (fun W => W.cell? ⟨W1.heap.size, 0, none⟩ = some (.int .i64 ka) ∧ W.cell? ⟨W1.heap.size, 1, none⟩ = some (.int .i64 xa) ∧ W.cell? ⟨W1.heap.size, 2, none⟩ = some (.string sa) ∧ W.cell? ⟨W1.heap.size, 3, none⟩ = some (.slice ana lna cna) ∧ W.cell? ⟨W1.heap.size, 4, none⟩ = some (.slice aia lia cia) ∧ W.cell? ⟨w.heap.size, 0, none⟩ = some (.int .i64 u.k) ∧ W.cell? ⟨w.heap.size, 1, none⟩ = some (.int .i64 u.x) ∧ W.cell? ⟨w.heap.size, 2, none⟩ = some (.string u.s) ∧ W.cell? ⟨w.heap.size, 3, none⟩ = some (.slice u.an u.ln u.cn) ∧ W.cell? ⟨w.heap.size, 4, none⟩ = some (.slice u.ai u.li u.ci)) (go_keep) ((go_at_call 21; refine he2.out.mono ?_; rintro e W3 ⟨rfl, hb3'⟩; have hb3 : Below W2.heap.size W2 W3 := ⟨hb3'.os, hb3'.tape, hb3'.output, hb3'.size, hb3'.block⟩; have HB3 := hid_of (HB2.out.trans (hb3.mono HB2.out.size)); have E0 := hid_of (block_keep D0.out hb3); have E1 := hid_of (block_keep D1.out hb3); have E2 := hid_of (block_keep D2.out hb3); have hy3 := hid_of (hy2.out.keep hb3); obtain ⟨i0, i1, i2, i3, i4, -⟩ := row_cells E0.out; obtain ⟨j0, j1, j2, j3, j4, -⟩ := row_cells E2.out; obtain ⟨t0, t1, t2, t3, t4, tf⟩ := row_cells E1.out; have tf0 := tf 0; have tf1 := tf 1; have tf2 := tf 2; have tf3 := tf 3; have tf4 := tf 4; clear hb3 hb3' tf))
  rw [← put5_def]
  have hr5 := put5_at E1.out (.int .i64 ka) (.int .i64 xa) (.string sa) (.slice ana lna cna) (.slice aia lia cia)
  have hB5 := hid_of (HB3.out.trans (put5_below (w := W3) (g := w.heap.size + 1) (by omega) (.int .i64 ka) (.int .i64 xa) (.string sa) (.slice ana lna cna) (.slice aia lia cia)))
  have hfin2 := hid_of (Seen.rep (hy3.out.agree (W' := put5 W3 (w.heap.size + 1) (.int .i64 ka) (.int .i64 xa) (.string sa) (.slice ana lna cna) (.slice aia lia cia)) ⟨Nat.le_of_eq (put5_size _ _ _ _ _ _ _).symm, fun p u hp hc => (World.cell?_of_block (w := W3) (put5_far (.int .i64 ka) (.int .i64 xa) (.string sa) (.slice ana lna cna) (.slice aia lia cia) (show p.block ≠ w.heap.size + 1 from fun e => by
    have hp' : S0 p.block ∨ wq.heap.size ≤ p.block := hp
    have hp2 := hSw0 p.block
    rcases hp' with h | h
    · have := hp2 h; omega
    · omega))).trans hc⟩))
  clear z0 z1 z2 z3 z4 v0 v1 v2 v3 v4 i0 i1 i2 i3 i4 j0 j1 j2 j3 j4 t0 t1 t2 t3 t4 tf0 tf1 tf2 tf3 tf4 D0 D1 D2 E0 E1 E2 HB2 HB3 hy2 hy3 he2 hq
  generalize put5 W3 (w.heap.size + 1) (.int .i64 ka) (.int .i64 xa) (.string sa) (.slice ana lna cna) (.slice aia lia cia) = w9 at hr5 hB5 hfin2 ⊢
  have q0 : w9.cell? ⟨w.heap.size + 1, 0, none⟩ = some (.int .i64 ka) := cell_of hr5 0
  have q1 : w9.cell? ⟨w.heap.size + 1, 1, none⟩ = some (.int .i64 xa) := cell_of hr5 1
  have q2 : w9.cell? ⟨w.heap.size + 1, 2, none⟩ = some (.string sa) := cell_of hr5 2
  have q3 : w9.cell? ⟨w.heap.size + 1, 3, none⟩ = some (.slice ana lna cna) := cell_of hr5 3
  have q4 : w9.cell? ⟨w.heap.size + 1, 4, none⟩ = some (.slice aia lia cia) := cell_of hr5 4
  go_wp2_with fail
  refine bodyPost_ret (v := .tuple #[.agg #[.int .i64 ka, .int .i64 xa, .string sa, .slice ana lna cna, .slice aia lia cia], .bool (!q), .int .i64 0, .int .i64 0]) (by simp [results, Tryz.results8, go_sem, q0, q1, q2, q3, q4]) rfl ?_
  exact ⟨hB5.out, ⟨ka, xa, sa, ana, lna, cna, aia, lia, cia⟩, rfl, hfin2.out⟩
end Go.Proofs.YthgnkhpomhcdkaaGreatDoor
