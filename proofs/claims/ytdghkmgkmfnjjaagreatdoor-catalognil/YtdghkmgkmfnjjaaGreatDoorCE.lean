import Derived.Test.YtdghkmgkmfnjjaaGreatDoorCD
/-! edited, by its closures. -/
namespace Go.Proofs.YtdghkmgkmfnjjaaGreatDoor
open Go Go.RowKit Go.Maps

theorem collAt_new (w : World) (cnt : Int) (ix : Value) : CollAt (w.alloc (.cells #[.string nameC, .int .i64 cnt, .int .i64 2, .int .i64 0, .int .i64 0, .string ⟨#[]⟩, .slice none 0 0, .slice none 0 0, .int .i64 0, .int .i64 0, .slice none 0 0, .pointer none, ix] 67)) w.heap.size cnt ix := heap_alloc_new w _
theorem Cat1.grown {w w' : World} {cb kb : Nat} {j : Nat} (h : Cat1 w cb kb) (hg : w.grownBy w' (some j)) (hj : cb ≠ j) (hjj : ∃ cs t f, w.heap[j]? = some (.cells cs t f)) : Cat1 w' cb kb := by
  obtain ⟨mb, n, h1, h2, h3⟩ := h
  refine ⟨mb, n, (hg.block _ (Array.getElem?_eq_some_iff.1 h1).1 (fun e => hj (by cases e; rfl))).trans h1, h2, World.ownsMap.kept h3 hg (fun e => ?_)⟩
  obtain ⟨es, cl, hb, -⟩ := h3
  obtain ⟨cs, t, f, hh⟩ := hjj
  cases e
  rw [hb] at hh
  cases hh
set_option maxHeartbeats 4000000 in
set_option maxRecDepth 100000 in
theorem edited_index (cb kb u v : Nat) (cnt : Int) (a : Option Addr) (n c : Nat) (Q : World → Nat → Prop) (w : World) (h : Cat1 w cb kb) (hk : CollAt w kb cnt (.slice a n c))
    (hcl : ∀ W nk, Below w.heap.size w W → w.heap.size ≤ nk → CollAt W nk cnt (.slice a n c) → Calls Tryz.prog 32 #[.pointer (some ⟨nk, 0, none⟩), .pointer (some ⟨u, 0, none⟩), .pointer (some ⟨v, 0, none⟩)] W fun e W' => e = .returned (.int .i64 0) ∧ W.grownBy W' (some nk) ∧ W'.cell? ⟨nk, 0, none⟩ = some (.string nameC) ∧ Q W' nk)
    (hQ : ∀ W W' nk, Q W nk → Below W.heap.size W W' → Q W' nk) :
    Calls Tryz.prog 31 #[.pointer (some ⟨cb, 0, none⟩), .string nameC, .func (.func 32) #[] #[.pointer (some ⟨u, 0, none⟩), .pointer (some ⟨v, 0, none⟩)]] w fun e w' => ∃ nb nk, e = .returned (.tuple #[.pointer (some ⟨nb, 0, none⟩), .int .i64 0]) ∧ Cat1 w' nb nk ∧ Q w' nk ∧ Below w.heap.size w w' := by
  have hf := hid_of (find_one cb kb w h)
  have z := hk.at
  have z0 := z 0; have z1 := z 1; have z2 := z 2; have z3 := z 3; have z4 := z 4; have z5 := z 5; have z6 := z 6; have z7 := z 7; have z8 := z 8; have z9 := z 9; have z10 := z 10; have z11 := z 11; have z12 := z 12
  simp only [List.getElem?_toArray, List.getElem?_cons_zero, List.getElem?_cons_succ] at z0 z1 z2 z3 z4 z5 z6 z7 z8 z9 z10 z11 z12
  clear z
  have hB1 := (Below.refl _ w).alloc (Nat.le_refl _) (.cells #[.string nameC, .int .i64 cnt, .int .i64 2, .int .i64 0, .int .i64 0, .string ⟨#[]⟩, .slice none 0 0, .slice none 0 0, .int .i64 0, .int .i64 0, .slice none 0 0, .pointer none, .slice a n c] 67)
  have hcc := hid_of (hcl _ w.heap.size hB1 (Nat.le_refl _) (collAt_new w cnt (.slice a n c)))
  have h1 := h.keep hB1
  replace hB1 := hid_of hB1
  replace hQ := hid_of hQ
  replace h1 := hid_of h1
  have hnl : cb ≠ w.heap.size := by
    obtain ⟨mb, m, g1, -, -⟩ := h
    exact fun e => by have := (Array.getElem?_eq_some_iff.1 g1).1; omega
  replace hnl := hid_of hnl
  clear hcl h hk
  go_enter Tryz.func31, Tryz.ntmps31
  go_wp2_with fail
  refine hf.out.mono ?_
  rintro e Z ⟨rfl, hZ⟩
  obtain rfl : w = Z := hZ.symm
  clear hZ hf
  go_wp2_with fail
  refine hcc.out.mono ?_
  rintro e X2 ⟨rfl, hg2, hn2, hq2⟩
  have hB2 := hB1.out.grown hg2 hB1.out.size (fun j hj => by cases hj; exact Nat.le_refl _)
  have hT : Cat1 X2 cb kb := Cat1.grown h1.out hg2 hnl.out ⟨_, _, _, collAt_new w cnt (.slice a n c)⟩
  have hw := hid_of (with_one cb w.heap.size kb X2 hT hn2)
  replace hB2 := hid_of hB2
  replace hq2 := hid_of hq2
  clear hcc hg2 hn2 hT z0 z1 z2 z3 z4 z5 z6 z7 z8 z9 z10 z11 z12 h1 hB1 hnl
  go_wp2_with fail
  refine hw.out.mono ?_
  rintro e X3 ⟨nb, rfl, hT3, hB3⟩
  replace hq2 := hid_of (hQ.out X2 X3 _ hq2.out hB3)
  replace hB3 := hid_of (hB2.out.trans (hB3.mono hB2.out.size))
  replace hT3 := hid_of hT3
  clear hw hQ hB2
  go_wp2_with fail
  go_ret2
  exact ⟨nb, _, rfl, hT3.out, hq2.out, hB3.out⟩
set_option maxHeartbeats 4000000 in
set_option maxRecDepth 100000 in
theorem index1_c (u v nk : Nat) (cnt : Int) (w : World) (hu : w.heap[u]? = some (.cells #[.string ⟨#[110]⟩, .string ⟨#[116]⟩, .bool false] 27 (0, 0))) (hv : w.cell? ⟨v, 0, none⟩ = some (.slice none 0 0)) (h : CollAt w nk cnt (.slice none 0 0)) :
    Calls Tryz.prog 32 #[.pointer (some ⟨nk, 0, none⟩), .pointer (some ⟨u, 0, none⟩), .pointer (some ⟨v, 0, none⟩)] w fun e w' => ∃ xb, e = .returned (.int .i64 0) ∧ w.grownBy w' (some nk) ∧ Coll1 w' nk cnt xb ∧ Ix0 w' xb := by
  obtain ⟨s0, s1, s2⟩ := spec_at hu
  have ha := hid_of (add_index nk cnt w h)
  clear hu h
  go_enter Tryz.func32, Tryz.ntmps32
  go_wp2_with fail
  refine ha.out.mono ?_
  rintro e X1 ⟨xb, rfl, h1, h2, h3⟩
  replace h1 := hid_of h1
  replace h2 := hid_of h2
  replace h3 := hid_of h3
  clear ha
  go_wp2_with fail
  go_ret
  exact ⟨xb, rfl, h1.out, h2.out, h3.out⟩
set_option maxHeartbeats 4000000 in
set_option maxRecDepth 100000 in
theorem index_c (cb kb : Nat) (w : World) (h : Cat1 w cb kb) (hk : CollAt w kb 0 (.slice none 0 0)) :
    Calls Tryz.prog 14 #[.pointer (some ⟨cb, 0, none⟩), .string nameC, .agg #[.string ⟨#[110]⟩, .string ⟨#[116]⟩, .bool false], .slice none 0 0] w fun e w' => ∃ nb nk xb, e = .returned (.tuple #[.pointer (some ⟨nb, 0, none⟩), .int .i64 0]) ∧ Cat1 w' nb nk ∧ Coll1 w' nk 0 xb ∧ Ix0 w' xb ∧ Below w.heap.size w w' := by
  have hB := ((Below.refl _ w).alloc (Nat.le_refl _) (.cells #[.string ⟨#[110]⟩, .string ⟨#[116]⟩, .bool false] 27)).alloc (by simp) (.cells #[.slice none 0 0] 28)
  have n1 := new1 w (.cells #[.string ⟨#[110]⟩, .string ⟨#[116]⟩, .bool false] 27) (.cells #[.slice none 0 0] 28)
  have n2 := cell_of_one (new2 w (.cells #[.string ⟨#[110]⟩, .string ⟨#[116]⟩, .bool false] 27) (.cells #[.slice none 0 0] 28))
  have he := hid_of (edited_index cb kb w.heap.size (w.heap.size + 1) 0 none 0 0 (fun W nk => ∃ xb, Coll1 W nk 0 xb ∧ Ix0 W xb) _ (h.keep hB) (hk.keep hB) (fun W nk hW _ hc => (index1_c w.heap.size (w.heap.size + 1) nk 0 W (block_keep n1 hW) (stay hW n2) hc).mono (fun e W' hh => by
    obtain ⟨xb, h1, h2, h3, h4⟩ := hh
    refine ⟨h1, h2, ?_, xb, h3, h4⟩
    obtain ⟨g, c, g1, -⟩ := h3
    exact g1.at 0)) (fun W W' nk hq hW => by
    obtain ⟨xb, h1, h2⟩ := hq
    exact ⟨xb, h1.keep hW, h2.keep hW⟩))
  replace hB := hid_of hB
  clear h hk n1 n2
  go_enter Tryz.func14, Tryz.ntmps14
  go_wp2_with fail
  refine he.out.mono ?_
  rintro e X1 ⟨nb, nk, rfl, h1, ⟨xb, h2, h3⟩, h4⟩
  replace h1 := hid_of h1
  replace h2 := hid_of h2
  replace h3 := hid_of h3
  replace h4 := hid_of (hB.out.trans (h4.mono hB.out.size))
  clear he hB
  go_wp2_with fail
  go_ret2
  exact ⟨nb, nk, xb, rfl, h1.out, h2.out, h3.out, h4.out⟩
end Go.Proofs.YtdghkmgkmfnjjaaGreatDoor
