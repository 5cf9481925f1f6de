import Derived.Test.YtloeongljbgmnaaEL
import Derived.WalkMore
import Derived.ScopeJumps
/-! epoch: sift. -/
namespace Go.Proofs.Ytloeongljbgmnaa
open Go Go.RowKit
theorem mk_stay (w : World) : (Instr.makeSlice 47 (.int .i64 0) (.int .i64 1)).run Try.prog w = .ok (.slice (some ⟨w.heap.size, 0, none⟩) 0 1) (w.alloc (.cells #[.slice none 0 0, .int .i64 0] 110)) := by kernel_rfl
theorem blocks_u : Try.prog.underlying 47 = some (.slice 110) := by kernel_rfl
theorem block_info : ∃ ri, Try.prog.info? 110 = some ri ∧ ri.zero = some (.agg #[.slice none 0 0, .int .i64 0]) ∧ ri.size = 2 ∧ ri.bytes = 32 := by
  have : (Try.prog.info? 110).map (fun i => (i.zero, i.size, i.bytes)) = some (some (.agg #[.slice none 0 0, .int .i64 0]), 2, 32) := by kernel_rfl
  cases hq : Try.prog.info? 110 with
  | none => rw [hq] at this; cases this
  | some ri => rw [hq] at this; simp at this; exact ⟨ri, rfl, this.1, this.2.1, this.2.2⟩
theorem owns_room {w : World} {lo g : Nat} {a b : Value} (hlo : lo ≤ g) (hg : w.heap[g]? = some (.cells #[a, b] 110 (0, 0))) : w.ownsRow lo 110 2 (.slice (some ⟨g, 0, none⟩) 0 1) 0 [] :=
  ⟨by simp, .inr ⟨g, 1, #[a, b], rfl, hlo, hg, by omega, by unfold maxLen; omega, by simp, by simp⟩⟩
theorem grown_keep {w w' : World} {g k : Nat} {o : Obj} (h : w.grownBy w' (some g)) (hk : w.heap[k]? = some o) (hne : k ≠ g) : w'.heap[k]? = some o := (h.block k (Array.getElem?_eq_some_iff.1 hk).1 (fun e => hne (Option.some.inj e))).trans hk
set_option maxRecDepth 100000 in
set_option maxHeartbeats 4000000 in
theorem sift_held (g gr : Nat) (la : Option Addr) (num gen t pin : Int) (w : World) (hp : w.cell? ⟨g, 0, none⟩ = some (.int .i64 pin)) (hlt : pin < t) (h1 : One w la gr num gen t) : Calls Try.prog 48 #[.agg #[.int .i64 1, .slice la 1 1], .slice (some ⟨g, 0, none⟩) 1 2] w fun e w' => Below w.heap.size w w' ∧ ∃ a n m, e = .returned (.tuple #[.agg #[.int .i64 1, .slice a n m], .slice none 0 0]) := by
  obtain ⟨gk, gb, rfl, e1, e2, e3⟩ := h1.at_
  obtain ⟨ri, hri, hri1, hri2, hri3⟩ := block_info
  obtain ⟨W2, hW2⟩ : ∃ W2, Hid ((w.alloc (.cells #[.int .i64 1, .slice (some ⟨gk, 0, none⟩) 1 1] 49)).alloc (.cells #[.int .i64 0, .slice none 0 0] 49) = W2) := ⟨_, rfl⟩
  have x0 := heap_alloc2_old w (.cells #[.int .i64 1, .slice (some ⟨gk, 0, none⟩) 1 1] 49) (.cells #[.int .i64 0, .slice none 0 0] 49)
  have x1 := heap_alloc2_new w (.cells #[.int .i64 1, .slice (some ⟨gk, 0, none⟩) 1 1] 49) (.cells #[.int .i64 0, .slice none 0 0] 49)
  have hB2 : Below w.heap.size w W2 := by rw [← hW2.out]; exact ((Below.refl _ w).alloc (Nat.le_refl _) _).alloc (by simp) _
  have hs2 : W2.heap.size = w.heap.size + 2 := by rw [← hW2.out]; simp
  rw [hW2.out] at x0 x1
  obtain ⟨f0, f1⟩ := cells2 x0
  obtain ⟨W3, hW3⟩ : ∃ W3, Hid (W2.alloc (.cells #[.slice none 0 0, .int .i64 0] 110) = W3) := ⟨_, rfl⟩
  have hB23 : Below W2.heap.size W2 W3 := by rw [← hW3.out]; exact (Below.refl _ W2).alloc (Nat.le_refl _) _
  have z2 := heap_alloc_new W2 (.cells #[.slice none 0 0, .int .i64 0] 110)
  rw [hW3.out] at z2
  have z0 := (hB23.block _ (Array.getElem?_eq_some_iff.1 x0).1).trans x0
  have z1 := (hB23.block _ (Array.getElem?_eq_some_iff.1 x1).1).trans x1
  have hB : Below w.heap.size w W3 := hB2.trans (hB23.mono hB2.size)
  replace hs2 := hid_of hs2
  obtain ⟨a0, a1⟩ := cells2 z0
  have ek := (hB.block _ (Array.getElem?_eq_some_iff.1 e1).1).trans e1
  obtain ⟨b0, b1⟩ := cells2 ek
  obtain ⟨W4, hW4⟩ : ∃ W4, Hid (W3.alloc (.cells #[.slice (some ⟨gb, 0, none⟩) 1 1, .int .i64 t] 110) = W4) := ⟨_, rfl⟩
  have hB4 : Below W3.heap.size W3 W4 := by rw [← hW4.out]; exact (Below.refl _ W3).alloc (Nat.le_refl _) _
  have k4 := heap_alloc_new W3 (.cells #[.slice (some ⟨gb, 0, none⟩) 1 1, .int .i64 t] 110)
  rw [hW4.out] at k4
  obtain ⟨c0, c1⟩ := cells2 k4
  have p4 := stay hB4 (stay hB hp)
  have hm := mk_stay
  have hl : pin < t := hlt
  have y0 := (hB4.block _ (Array.getElem?_eq_some_iff.1 z0).1).trans z0
  have y1 := (hB4.block _ (Array.getElem?_eq_some_iff.1 z1).1).trans z1
  have y2 := (hB4.block _ (Array.getElem?_eq_some_iff.1 z2).1).trans z2
  have hown := hid_of ((owns_room (lo := w.heap.size) hB2.size y2).alloc (.cells #[.slice (some ⟨gb, 0, none⟩) 1 1, .int .i64 t] 110))
  have hm1 : Hid (0 + 1 ≤ maxLen) := by unfold Hid maxLen; omega
  have hbs : Hid (w.heap.size ≤ (W4.alloc (.cells #[.slice (some ⟨gb, 0, none⟩) 1 1, .int .i64 t] 110)).heap.size) := Nat.le_trans (Nat.le_trans hB.size hB4.size) ((Below.refl _ W4).alloc (Nat.le_refl _) _).size
  have hone : Hid (∀ u ∈ [Value.slice (some ⟨gb, 0, none⟩) 1 1, .int .i64 t], u.oneCell' = true) := by unfold Hid; simp [Value.oneCell']
  have hb4 : Hid (Below w.heap.size w W4) := hB.trans (hB4.mono hB.size)
  replace y0 := hid_of y0
  replace y1 := hid_of y1
  clear x0 x1 hB2 hB23 e1 e2 e3 ek hp hlt h1 z0 z1 z2 k4 hB hB4 y2
  go_enter Try.func48, Try.ntmps48
  go_upto_region 1 with (rw [hW2.out])
  go_step3
  go_wp2_with (rw [hW3.out])
  go_step3
  go_wp2_with fail
  refine wp_loop_rounds 2 ?_
  rw [rounds_succ]
  go_wp2_with (rw [hW4.out])
  refine wp_loop_rounds 1 ?_
  rw [rounds_succ]
  go_wp2_with (at_builtin; refine wpList_append_lies _ rfl _ _ 47 rfl w.heap.size 110 ri _ 2 32 blocks_u hri hri1 hri2 hri3 rfl (by decide) _ 0 [] rfl hown.out _ 1 1 [.slice (some ⟨gb, 0, none⟩) 1 1, .int .i64 t] rfl rfl (World.news_of_block (heap_alloc_new W4 _)) hone.out (by decide) hm1.out (by decide) hbs.out _ rfl ?_; intro g1 cc W6 r1 r2 r3 r4; replace r1 := hid_of r1; replace r2 := hid_of r2; clear r3 r4)
  have r2' : (W4.alloc (.cells #[.slice (some ⟨gb, 0, none⟩) 1 1, .int .i64 t] 110)).grownBy W6 (some W2.heap.size) := r2.out
  have hBA : Below W4.heap.size W4 (W4.alloc (.cells #[.slice (some ⟨gb, 0, none⟩) 1 1, .int .i64 t] 110)) := (Below.refl _ W4).alloc (Nat.le_refl _) _
  have s0 := grown_keep r2' ((hBA.block _ (Array.getElem?_eq_some_iff.1 y0.out).1).trans y0.out) (by rw [hs2.out]; omega)
  have s1 := grown_keep r2' ((hBA.block _ (Array.getElem?_eq_some_iff.1 y1.out).1).trans y1.out) (by rw [hs2.out]; omega)
  have hB6 : Hid (Below w.heap.size w W6) := (((Fr.of_below (S := fun _ => False) (hb4.out.trans (hBA.mono hb4.out.size))).grown r2' (fun g e => .inr (by cases e; rw [hs2.out]; omega)))).below (Nat.le_refl _) (fun _ h => h.elim)
  obtain ⟨t0, t1⟩ := cells2 s0
  have kk := setRow_heap W6 (w.heap.size + 1) _ #[.int .i64 1, .slice (some ⟨g1, 0, none⟩) 1 cc] _ _ s1
  obtain ⟨u0, u1⟩ := cells2 kk
  clear r1 r2 r2' hBA s0 kk y0 y1 hown hb4 hW4 hW3 hW2 a0 a1 b0 b1 c0 c1 f0 f1 p4
  rw [rounds_succ]
  go_wp2_with (refine wpList_store_row rfl 49 _ _ rfl (w.heap.size + 1) _ rfl rfl _ _ s1 list_i rfl (ls_one _ _ _ _) ?_)
  go_wp2_with fail
  rw [Exit.noGoto_ret]
  exact bodyPost_ret (v := .tuple #[.agg #[.int .i64 1, .slice (some ⟨g1, 0, none⟩) 1 cc], .slice none 0 0]) (by simp [results, Try.results48, go_sem, u0, u1]) rfl ⟨below_setRow' hB6.out (by omega) _, _, _, _, rfl⟩
end Go.Proofs.Ytloeongljbgmnaa
