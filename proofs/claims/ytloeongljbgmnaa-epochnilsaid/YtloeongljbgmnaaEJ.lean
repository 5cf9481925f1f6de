import Derived.Test.YtloeongljbgmnaaEI
/-! epoch: with, batchOf. -/
namespace Go.Proofs.Ytloeongljbgmnaa
open Go Go.RowKit
/-- A list with one block of one batch of one Ref, in memory. -/
structure One (w : World) (la : Option Addr) (gr : Nat) (num gen t : Int) : Prop where
  at_ : ∃ gk gb : Nat, la = some ⟨gk, 0, none⟩ ∧ w.heap[gk]? = some (.cells #[.slice (some ⟨gb, 0, none⟩) 1 1, .int .i64 t] 110 (0, 0)) ∧ w.heap[gb]? = some (.cells #[.slice (some ⟨gr, 0, none⟩) 1 1, .int .i64 t] 61 (0, 0)) ∧ w.heap[gr]? = some (.cells #[.int .i64 num, .int .i64 gen] 82 (0, 0))
theorem One.keep {w w' : World} {la : Option Addr} {gr : Nat} {num gen t : Int} (h : One w la gr num gen t) (hk : ∀ (b : Nat) vs ty, w.heap[b]? = some (.cells vs ty (0, 0)) → hotL ty = false → w'.heap[b]? = some (.cells vs ty (0, 0))) : One w' la gr num gen t := by
  obtain ⟨gk, gb, h1, h2, h3, h4⟩ := h.at_
  exact ⟨gk, gb, h1, hk _ _ _ h2 rfl, hk _ _ _ h3 rfl, hk _ _ _ h4 rfl⟩
theorem One.under {w w' : World} {la : Option Addr} {gr : Nat} {num gen t : Int} (h : One w la gr num gen t) (hB : Below w.heap.size w w') : One w' la gr num gen t := h.keep (fun b _ _ e _ => (hB.block b (Array.getElem?_eq_some_iff.1 e).1).trans e)
theorem cell_far {w : World} {p q : Addr} {u v : Value} (h : w.cell? q = some v) (hb : q.block ≠ p.block) : (w.setCell p u).cell? q = some v := (World.cell?_setCell_other _ _ _ _ (fun e => by first | exact hb (congrArg Addr.block e) | exact hb (congrArg Addr.block e).symm)).trans h
theorem list_i : (Try.prog.info? 49).map (·.size) = some 2 := by kernel_rfl
theorem ls_one (a : Option Addr) (n c : Nat) (x : Int) : (#[.int .i64 x, .slice a n c] : Array Value).all (·.oneCell') = true := by simp [Value.oneCell']
set_option maxRecDepth 100000 in
set_option maxHeartbeats 4000000 in
theorem lwith_any (gr : Nat) (num gen t : Int) (w : World) (hr : w.heap[gr]? = some (.cells #[.int .i64 num, .int .i64 gen] 82 (0, 0))) : Calls Try.prog 25 #[.agg #[.int .i64 0, .slice none 0 0], .agg #[.slice (some ⟨gr, 0, none⟩) 1 1, .int .i64 t]] w fun e w' => Below w.heap.size w w' ∧ ∃ la, e = .returned (.agg #[.int .i64 1, .slice la 1 1]) ∧ One w' la gr num gen t := by
  obtain ⟨W3, hW3⟩ : ∃ W3, Hid (((w.alloc (.cells #[.int .i64 0, .slice none 0 0] 49)).alloc (.cells #[.slice (some ⟨gr, 0, none⟩) 1 1, .int .i64 t] 61)).alloc (.cells #[.int .i64 0, .slice none 0 0] 49) = W3) := ⟨_, rfl⟩
  obtain ⟨z0, z1, z2⟩ := heap_alloc3 w (.cells #[.int .i64 0, .slice none 0 0] 49) (.cells #[.slice (some ⟨gr, 0, none⟩) 1 1, .int .i64 t] 61) (.cells #[.int .i64 0, .slice none 0 0] 49)
  have hB : Below w.heap.size w W3 := by rw [← hW3.out]; exact (((Below.refl _ w).alloc (Nat.le_refl _) _).alloc (by simp) _).alloc (by simp; omega) _
  rw [hW3.out] at z0 z1 z2
  have hr3 := (hB.block _ (Array.getElem?_eq_some_iff.1 hr).1).trans hr
  obtain ⟨a0, a1⟩ := cells2 z0
  obtain ⟨b0, b1⟩ := cells2 z1
  have hbb := hid_of (behindB_any (some ⟨gr, 0, none⟩) 1 1 t)
  have hbo := hid_of (fun g W hg => blockof_any g (some ⟨gr, 0, none⟩) 1 1 t W hg)
  have hbk := hid_of (fun g => behindK_any (some ⟨g, 0, none⟩) 1 1 t)
  replace hB := hid_of hB
  replace hr3 := hid_of hr3
  replace z2 := hid_of z2
  clear hr z0 z1
  go_enter Try.func25, Try.ntmps25
  go_upto_region 1 with (rw [hW3.out])
  go_upto_region 5 with fail
  have nn : w.heap.size ≠ w.heap.size + 1 + 1 := by omega
  have nn' : w.heap.size + 1 ≠ w.heap.size + 1 + 1 := by omega
  go_region_held3 (fun w' => w'.cell? ⟨w.heap.size, 0, none⟩ = some (.int .i64 0) ∧ w'.cell? ⟨w.heap.size + 1, 0, none⟩ = some (.slice (some ⟨gr, 0, none⟩) 1 1) ∧ w'.cell? ⟨w.heap.size + 1, 1, none⟩ = some (.int .i64 t)) (first | (go_keep; done) | (refine ⟨?_, ?_, ?_⟩ <;> (first | exact cell_far (cell_far q0 nn) nn | exact cell_far (cell_far q1 nn') nn' | exact cell_far (cell_far q2 nn') nn' | go_keep))) (first
    | (go_at_call 44; refine (hbb.out _).mono ?_; rintro e Z1 ⟨hz1, g1, rfl, k1⟩; have t0 : Z1.cell? ⟨w.heap.size, 0, none⟩ = some (.int .i64 0) := stay hz1 a0; have t1 : Z1.cell? ⟨w.heap.size + 1, 0, none⟩ = some (.slice (some ⟨gr, 0, none⟩) 1 1) := stay hz1 b0; have t2 : Z1.cell? ⟨w.heap.size + 1, 1, none⟩ = some (.int .i64 t) := stay hz1 b1; have za : Hid (Z1.heap[w.heap.size + 2]? = some (.cells #[.int .i64 0, .slice none 0 0] 49 (0, 0))) := (hz1.block _ (Array.getElem?_eq_some_iff.1 z2.out).1).trans z2.out; replace hz1 := hid_of hz1; replace k1 := hid_of k1)
    | (go_at_call 43; refine (hbo.out g1 Z1 k1.out).mono ?_; rintro e Z2 ⟨rfl, hz2⟩; have s0 : Z2.cell? ⟨w.heap.size, 0, none⟩ = some (.int .i64 0) := stay hz2 t0; have s1 : Z2.cell? ⟨w.heap.size + 1, 0, none⟩ = some (.slice (some ⟨gr, 0, none⟩) 1 1) := stay hz2 t1; have s2 : Z2.cell? ⟨w.heap.size + 1, 1, none⟩ = some (.int .i64 t) := stay hz2 t2; have zc : Hid (Z2.heap[w.heap.size + 2]? = some (.cells #[.int .i64 0, .slice none 0 0] 49 (0, 0))) := (hz2.block _ (Array.getElem?_eq_some_iff.1 za.out).1).trans za.out; replace hz2 := hid_of hz2)
    | (go_at_call 42; refine (hbk.out g1 Z2).mono ?_; rintro e Z3 ⟨hz3, g3, rfl, k3⟩; have q0 : Z3.cell? ⟨w.heap.size, 0, none⟩ = some (.int .i64 0) := stay hz3 s0; have q1 : Z3.cell? ⟨w.heap.size + 1, 0, none⟩ = some (.slice (some ⟨gr, 0, none⟩) 1 1) := stay hz3 s1; have q2 : Z3.cell? ⟨w.heap.size + 1, 1, none⟩ = some (.int .i64 t) := stay hz3 s2; have zz := (hz3.block _ (Array.getElem?_eq_some_iff.1 zc.out).1).trans zc.out; have q3 : Z3.cell? ⟨w.heap.size + 2, 0, none⟩ = some (.int .i64 0) := cell_of zz rfl; have q4 : Z3.cell? ⟨w.heap.size + 2, 1, none⟩ = some (.slice none 0 0) := cell_of zz rfl; have q5 : ∀ k, Z3.frozen? ⟨w.heap.size + 2, k, none⟩ = false := fun k => warm zz; replace zz := hid_of zz; replace hz3 := hid_of hz3; replace k3 := hid_of k3))
  rw [show IntKind.i64.wrap 1 = 1 from by decide] at *
  have hB3 : Below w.heap.size w Z3 := hB.out.trans (((below_drew (Below.refl _ W3)).trans (hz1.out.trans ((hz2.out.trans (hz3.out.mono hz2.out.size)).mono hz1.out.size))).mono hB.out.size)
  have hX : Below w.heap.size w ((Z3.setCell ⟨w.heap.size + 2, 0, none⟩ (.int .i64 1)).setCell ⟨w.heap.size + 2, 1, none⟩ (.slice (some ⟨g3, 0, none⟩) 1 1)) := (((Fr.of_below (S := fun _ => False) hB3).set _ _ (.inr (by show w.heap.size ≤ w.heap.size + 2; omega))).set _ _ (.inr (by show w.heap.size ≤ w.heap.size + 2; omega))).below (Nat.le_refl _) (fun _ h => h.elim)
  have hone3 : One Z3 (some ⟨g3, 0, none⟩) gr num gen t := by
    have e1 := (hz2.out.trans (hz3.out.mono hz2.out.size)).block _ (Array.getElem?_eq_some_iff.1 k1.out).1
    have e2 := (hz1.out.trans ((hz2.out.trans (hz3.out.mono hz2.out.size)).mono hz1.out.size)).block gr (Array.getElem?_eq_some_iff.1 hr3.out).1
    exact ⟨g3, g1, rfl, k3.out, e1.trans k1.out, e2.trans hr3.out⟩
  have hone : One ((Z3.setCell ⟨w.heap.size + 2, 0, none⟩ (.int .i64 1)).setCell ⟨w.heap.size + 2, 1, none⟩ (.slice (some ⟨g3, 0, none⟩) 1 1)) (some ⟨g3, 0, none⟩) gr num gen t := by
    obtain ⟨gk, gb, h1, h2, h3, h4⟩ := hone3.at_
    have far : ∀ {b : Nat} {vs : Array Value} {ty : TypeId}, Z3.heap[b]? = some (.cells vs ty (0, 0)) → ty ≠ 49 → ((Z3.setCell ⟨w.heap.size + 2, 0, none⟩ (.int .i64 1)).setCell ⟨w.heap.size + 2, 1, none⟩ (.slice (some ⟨g3, 0, none⟩) 1 1)).heap[b]? = some (.cells vs ty (0, 0)) := fun {b vs ty} e ht => by
      have hne := ne_of_types e zz.out ht
      exact (Below.heap_setCell _ _ _ _ hne).trans ((Below.heap_setCell _ _ _ _ hne).trans e)
    exact ⟨gk, gb, h1, far h2 (by decide), far h3 (by decide), far h4 (by decide)⟩
  have kk := heap_setCell_same _ (w.heap.size + 2) 1 _ _ (.slice (some ⟨g3, 0, none⟩) 1 1) (heap_setCell_same Z3 (w.heap.size + 2) 0 _ _ (.int .i64 1) zz.out)
  have r0 := cell_of (k := 0) kk rfl
  have r1 := cell_of (k := 1) kk rfl
  replace hX := hid_of hX
  replace hone := hid_of hone
  generalize (Z3.setCell ⟨w.heap.size + 2, 0, none⟩ (.int .i64 1)).setCell ⟨w.heap.size + 2, 1, none⟩ (.slice (some ⟨g3, 0, none⟩) 1 1) = X at *
  clear hone3 hB3 kk hz1 hz2 hz3 k1 k3 zz za zc q3 q4 q5 z2 hr3 hB
  go_wp2_with fail
  exact bodyPost_ret (v := .agg #[.int .i64 1, .slice (some ⟨g3, 0, none⟩) 1 1]) (by simp [results, Try.results25, go_sem, r0, r1]) rfl ⟨hX.out, _, rfl, hone.out⟩
end Go.Proofs.Ytloeongljbgmnaa
