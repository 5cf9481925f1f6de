import Derived.Test.YtdghkmgkmfnjjaaGreatDoorCE
/-! edited, by its closures. -/
namespace Go.Proofs.YtdghkmgkmfnjjaaGreatDoor
open Go Go.RowKit Go.Maps

set_option maxHeartbeats 4000000 in
set_option maxRecDepth 100000 in
theorem edited_commit (cb kb u v : Nat) (cnt : Int) (a : Option Addr) (n c : Nat) (Q : World → Nat → Prop) (w : World) (h : Cat1 w cb kb) (hk : CollAt w kb cnt (.slice a n c))
    (hcl : ∀ W nk, Below w.heap.size w W → w.heap.size ≤ nk → CollAt W nk cnt (.slice a n c) → Calls Tryz.prog 36 #[.pointer (some ⟨nk, 0, none⟩), .pointer (some ⟨u, 0, none⟩), .pointer (some ⟨v, 0, none⟩)] W fun e W' => e = .returned (.int .i64 0) ∧ W.grownBy W' (some nk) ∧ W'.cell? ⟨nk, 0, none⟩ = some (.string nameC) ∧ Q W' nk)
    (hQ : ∀ W W' nk, Q W nk → Below W.heap.size W W' → Q W' nk) :
    Calls Tryz.prog 31 #[.pointer (some ⟨cb, 0, none⟩), .string nameC, .func (.func 36) #[] #[.pointer (some ⟨u, 0, none⟩), .pointer (some ⟨v, 0, none⟩)]] w fun e w' => ∃ nb nk, e = .returned (.tuple #[.pointer (some ⟨nb, 0, none⟩), .int .i64 0]) ∧ Cat1 w' nb nk ∧ Q w' nk ∧ Below w.heap.size w w' := by
  have hf := hid_of (find_one cb kb w h)
  have z := hk.at
  have z0 := z 0; have z1 := z 1; have z2 := z 2; have z3 := z 3; have z4 := z 4; have z5 := z 5; have z6 := z 6; have z7 := z 7; have z8 := z 8; have z9 := z 9; have z10 := z 10; have z11 := z 11; have z12 := z 12
  simp only [List.getElem?_toArray, List.getElem?_cons_zero, List.getElem?_cons_succ] at z0 z1 z2 z3 z4 z5 z6 z7 z8 z9 z10 z11 z12
  clear z
  have hB1 := (Below.refl _ w).alloc (Nat.le_refl _) (.cells #[.string nameC, .int .i64 cnt, .int .i64 2, .int .i64 0, .int .i64 0, .string ⟨#[]⟩, .slice none 0 0, .slice none 0 0, .int .i64 0, .int .i64 0, .slice none 0 0, .pointer none, .slice a n c] 67)
  have hcc := hid_of (hcl _ w.heap.size hB1 (Nat.le_refl _) (collAt_new w cnt (.slice a n c)))
  have h1 := h.keep hB1
  replace hB1 := hid_of hB1
  replace hQ := hid_of hQ
  replace h1 := hid_of h1
  have hnl : cb ≠ w.heap.size := by
    obtain ⟨mb, m, g1, -, -⟩ := h
    exact fun e => by have := (Array.getElem?_eq_some_iff.1 g1).1; omega
  replace hnl := hid_of hnl
  clear hcl h hk
  go_enter Tryz.func31, Tryz.ntmps31
  go_wp2_with fail
  refine hf.out.mono ?_
  rintro e Z ⟨rfl, hZ⟩
  obtain rfl : w = Z := hZ.symm
  clear hZ hf
  go_wp2_with fail
  refine hcc.out.mono ?_
  rintro e X2 ⟨rfl, hg2, hn2, hq2⟩
  have hB2 := hB1.out.grown hg2 hB1.out.size (fun j hj => by cases hj; exact Nat.le_refl _)
  have hT : Cat1 X2 cb kb := Cat1.grown h1.out hg2 hnl.out ⟨_, _, _, collAt_new w cnt (.slice a n c)⟩
  have hw := hid_of (with_one cb w.heap.size kb X2 hT hn2)
  replace hB2 := hid_of hB2
  replace hq2 := hid_of hq2
  clear hcc hg2 hn2 hT z0 z1 z2 z3 z4 z5 z6 z7 z8 z9 z10 z11 z12 h1 hB1 hnl
  go_wp2_with fail
  refine hw.out.mono ?_
  rintro e X3 ⟨nb, rfl, hT3, hB3⟩
  replace hq2 := hid_of (hQ.out X2 X3 _ hq2.out hB3)
  replace hB3 := hid_of (hB2.out.trans (hB3.mono hB2.out.size))
  replace hT3 := hid_of hT3
  clear hw hQ hB2
  go_wp2_with fail
  go_ret2
  exact ⟨nb, _, rfl, hT3.out, hq2.out, hB3.out⟩
set_option maxHeartbeats 4000000 in
set_option maxRecDepth 100000 in
theorem edited_full (cb kb u v : Nat) (cnt : Int) (a : Option Addr) (n c : Nat) (w : World) (h : Cat1 w cb kb) (hk : CollAt w kb cnt (.slice a n c))
    (hcl : ∀ W nk, Below w.heap.size w W → w.heap.size ≤ nk → CollAt W nk cnt (.slice a n c) → Calls Tryz.prog 36 #[.pointer (some ⟨nk, 0, none⟩), .pointer (some ⟨u, 0, none⟩), .pointer (some ⟨v, 0, none⟩)] W fun e W' => e = .returned (.int .i64 5) ∧ W.grownBy W' (some nk)) :
    Calls Tryz.prog 31 #[.pointer (some ⟨cb, 0, none⟩), .string nameC, .func (.func 36) #[] #[.pointer (some ⟨u, 0, none⟩), .pointer (some ⟨v, 0, none⟩)]] w fun e w' => e = .returned (.tuple #[.pointer none, .int .i64 5]) ∧ Below w.heap.size w w' := by
  have hf := hid_of (find_one cb kb w h)
  have z := hk.at
  have z0 := z 0; have z1 := z 1; have z2 := z 2; have z3 := z 3; have z4 := z 4; have z5 := z 5; have z6 := z 6; have z7 := z 7; have z8 := z 8; have z9 := z 9; have z10 := z 10; have z11 := z 11; have z12 := z 12
  simp only [List.getElem?_toArray, List.getElem?_cons_zero, List.getElem?_cons_succ] at z0 z1 z2 z3 z4 z5 z6 z7 z8 z9 z10 z11 z12
  clear z
  have hB1 := (Below.refl _ w).alloc (Nat.le_refl _) (.cells #[.string nameC, .int .i64 cnt, .int .i64 2, .int .i64 0, .int .i64 0, .string ⟨#[]⟩, .slice none 0 0, .slice none 0 0, .int .i64 0, .int .i64 0, .slice none 0 0, .pointer none, .slice a n c] 67)
  have hcc := hid_of (hcl _ w.heap.size hB1 (Nat.le_refl _) (collAt_new w cnt (.slice a n c)))
  replace hB1 := hid_of hB1
  clear hcl h hk
  go_enter Tryz.func31, Tryz.ntmps31
  go_wp2_with fail
  refine hf.out.mono ?_
  rintro e Z ⟨rfl, hZ⟩
  obtain rfl : w = Z := hZ.symm
  clear hZ hf
  go_wp2_with fail
  refine hcc.out.mono ?_
  rintro e X2 ⟨rfl, hg2⟩
  have hB2 := hid_of (hB1.out.grown hg2 hB1.out.size (fun j hj => by cases hj; exact Nat.le_refl _))
  clear hcc hg2 z0 z1 z2 z3 z4 z5 z6 z7 z8 z9 z10 z11 z12 hB1
  go_wp2_with fail
  go_ret2
  exact ⟨rfl, hB2.out⟩
end Go.Proofs.YtdghkmgkmfnjjaaGreatDoor
