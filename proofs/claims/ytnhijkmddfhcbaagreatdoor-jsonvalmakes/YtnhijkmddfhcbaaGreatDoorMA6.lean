import Derived.Test.YtnhijkmddfhcbaaGreatDoorMA5
import Derived.Test.YtnhijkmddfhcbaaGreatDoorU1
/-! JsonvalMakes: the walk. -/
namespace Go.Proofs.YtnhijkmddfhcbaaGreatDoor.Tree
open Go Go.RowKit

set_option maxHeartbeats 1000000 in
set_option maxRecDepth 100000 in
theorem large_rows (k x : Int) (s : ByteArray) (an : Option Addr) (ln cn : Nat) (ai : Option Addr) (li ci : Nat) (t : Tr) (w : World) (hV : Hid (VRep w t (five k x s (.slice an ln cn) (.slice ai li ci)))) :
    Calls Tryz.prog 4 #[.agg #[.int .i64 k, .int .i64 x, .string s, .slice an ln cn, .slice ai li ci]] w fun e w' => (∃ z, e = .returned (.bool z)) ∧ Below w.heap.size w w' := by
  have hcall := fun o => hid_e (parts_any t (five k x s (.slice an ln cn) (.slice ai li ci)) 10000 (w.alloc o) (VRep.keep ((Below.refl _ w).alloc (Nat.le_refl _) o) _ _ hV.out))
  go_enter Tryz.func4, Tryz.ntmps4
  go_wp2_with fail
  go_fit (hcall _).out
  rintro e w1 ⟨⟨n, rfl⟩, hb1⟩
  go_wp2_with fail
  go_ret
  exact ⟨⟨_, rfl⟩, below_box hb1⟩
set_option maxHeartbeats 16000000 in
set_option maxRecDepth 100000 in
theorem makes_true (an : Option Addr) (cn : Nat) (ai : Option Addr) (ci : Nat) (ns : List ByteArray) (its : List Tr) (N : Int) (T : ByteArray) (w : World) (hV : Hid (VRep w (.node 0 0 ⟨#[]⟩ ns its) (five 0 0 ⟨#[]⟩ (.slice an ns.length cn) (.slice ai its.length ci)))) (hS : Hid (SmallT (.node 0 0 ⟨#[]⟩ ns its))) (hE : Hid (Env w)) (hP : Hid (EnvP w)) :
    Calls Tryz.prog 3 #[.slice an ns.length cn, .slice ai its.length ci, .int .i64 N, .string T] w fun e w' => e = .returned (.bool true) ∧ Below w.heap.size w w' := by
  have h8 := hP.out.big
  have hb : Hid (ns.length * 16 ≤ 140737488351232 ∧ its.length * 80 ≤ 140737488351232 ∧ SmallL its) := by have h := hS.out; unfold SmallT at h; exact ⟨h.2.1, h.2.2.2.1, h.2.2.2.2⟩
  have hb1 : Hid (ns.length * 16 ≤ 140737488355328) := Nat.le_trans hb.out.1 (by decide)
  have hb2 : Hid (its.length * 80 ≤ 140737488355328) := Nat.le_trans hb.out.2.1 (by decide)
  have hb3 : Hid ((ns.length + 16) * 16 ≤ 140737488355328) := by have := hb.out.1; rw [Hid]; omega
  have hb4 : Hid ((its.length + 16) * 80 ≤ 140737488355328) := by have := hb.out.2.1; rw [Hid]; omega
  have hS6 : Hid (SmallT (.node 6 0 ⟨#[]⟩ ns its)) := by have h := hS.out; unfold SmallT at h; rw [Hid]; unfold SmallT; exact h
  have hS5 : Hid (SmallT (.node 5 0 ⟨#[]⟩ [] its)) := by have h := hS.out; unfold SmallT at h; rw [Hid]; unfold SmallT; exact ⟨h.1, by simp, (fun n hn => by cases hn), h.2.2.2⟩
  have hv := fun W (hW : Below w.heap.size w W) => hid_e (VRep.keep hW _ _ hV.out)
  have hlv := fun W (hW : Below w.heap.size w W) => hid_e (live_true W (hE.out.below hW h8) (hP.out.below hW h8))
  have heq := fun W (t : Tr) cs cs' (h : VRep W t cs) (h' : VRep W t cs') => hid_e (equal_same t cs cs' W h h')
  clear hE hP hV
  go_enter Tryz.func3, Tryz.ntmps3
  go_wp2_with fail
  go_fit (large_rows 0 0 ⟨#[]⟩ an ns.length cn ai its.length ci _ w (hv w (Below.refl _ _)))
  rintro e X1 ⟨⟨z, rfl⟩, hB⟩
  cases z
  rotate_left
  · go_wp2_with fail
    go_ret
    exact ⟨rfl, hB⟩
  go_wp2_with fail
  refine (of_code N X1).mono ?_
  rintro e X2 ⟨rfl, hs⟩
  replace hB := hB.trans (hs.mono hB.size)
  clear hs
  go_wp2_with fail
  refine (heq X2 _ _ _ (vrep_leaf _ 3 N ⟨#[]⟩) (vrep_leaf _ 3 N ⟨#[]⟩)).out.mono ?_
  rintro e X3 ⟨rfl, hs⟩
  replace hB := hB.trans (hs.mono hB.size)
  clear hs
  go_wp2_with fail
  refine (word_code T X3).mono ?_
  rintro e X4 ⟨rfl, hs⟩
  replace hB := hB.trans (hs.mono hB.size)
  clear hs
  go_wp2_with fail
  refine (heq X4 _ _ _ (vrep_leaf _ 4 0 T) (vrep_leaf _ 4 0 T)).out.mono ?_
  rintro e X5 ⟨rfl, hs⟩
  replace hB := hB.trans (hs.mono hB.size)
  clear hs
  go_wp2_with fail
  refine (flag_true X5).mono ?_
  rintro e X6 ⟨rfl, hs⟩
  replace hB := hB.trans (hs.mono hB.size)
  clear hs
  go_wp2_with fail
  refine (heq X6 _ _ _ (vrep_leaf _ 2 0 ⟨#[]⟩) (vrep_leaf _ 2 0 ⟨#[]⟩)).out.mono ?_
  rintro e X7 ⟨rfl, hs⟩
  replace hB := hB.trans (hs.mono hB.size)
  clear hs
  go_wp2_with fail
  refine (flag_false X7).mono ?_
  rintro e X8 ⟨rfl, hs⟩
  replace hB := hB.trans (hs.mono hB.size)
  clear hs
  go_wp2_with fail
  refine (heq X8 _ _ _ (vrep_leaf _ 1 0 ⟨#[]⟩) (vrep_leaf _ 1 0 ⟨#[]⟩)).out.mono ?_
  rintro e X9 ⟨rfl, hs⟩
  replace hB := hB.trans (hs.mono hB.size)
  clear hs
  go_upto_region 5 with fail
  go_wp2_with fail
  refine (copy_top 0 0 ⟨#[]⟩ an cn ns ai ci its X9 (hv X9 hB).out hS.out).mono ?_
  rintro e Y1 ⟨g, cap, ag, cg, xs, rfl, hs, hn9, hi9, -, hin⟩
  replace hn9 := ownsRow_lo hn9 hB.size
  replace hi9 := ownsRow_lo hi9 hB.size
  have hgl : Hid (w.heap.size ≤ g ∧ g < Y1.heap.size) := ownsRow_ge hn9 (g := g) rfl
  have hgi : Hid (∀ j, (Value.slice ag its.length cg).ownBlock = some j → w.heap.size ≤ j ∧ j < Y1.heap.size) := fun j hj => ownsRow_ge hi9 hj
  have hin1 : Hid (∀ W', Agree (fun j => w.heap.size ≤ j ∧ j < Y1.heap.size ∧ j ≠ g ∧ (Value.slice ag its.length cg).ownBlock ≠ some j) (Y1.alloc (.cells #[.int .i64 0, .int .i64 0, .string ⟨#[]⟩, .slice (some ⟨g, 0, none⟩) ns.length cap, .slice ag its.length cg] 26)) W' → ItemsRep W' its xs) := by
    intro W' ha
    refine hin W' ⟨Nat.le_trans (by rw [World.size_alloc]; omega) ha.1, fun p u hp hc => ha.2 p u ⟨Nat.le_trans hB.size hp.1, lt_of_cell hc, hp.2.1, hp.2.2⟩ ?_⟩
    exact (World.cell?_of_block (w := Y1) (Below.heap_alloc Y1 _ _ (lt_of_cell hc))).trans hc
  have x9 := heap_alloc_new Y1 (.cells #[.int .i64 0, .int .i64 0, .string ⟨#[]⟩, .slice (some ⟨g, 0, none⟩) ns.length cap, .slice ag its.length cg] 26)
  replace hn9 := hid_e (hn9.alloc (.cells #[.int .i64 0, .int .i64 0, .string ⟨#[]⟩, .slice (some ⟨g, 0, none⟩) ns.length cap, .slice ag its.length cg] 26))
  replace hi9 := hid_e (hi9.alloc (.cells #[.int .i64 0, .int .i64 0, .string ⟨#[]⟩, .slice (some ⟨g, 0, none⟩) ns.length cap, .slice ag its.length cg] 26))
  replace hB := (hB.trans (hs.mono hB.size)).alloc (hB.trans (hs.mono hB.size)).size (.cells #[.int .i64 0, .int .i64 0, .string ⟨#[]⟩, .slice (some ⟨g, 0, none⟩) ns.length cap, .slice ag its.length cg] 26)
  have hz1 : Hid ((Y1.alloc (.cells #[.int .i64 0, .int .i64 0, .string ⟨#[]⟩, .slice (some ⟨g, 0, none⟩) ns.length cap, .slice ag its.length cg] 26)).heap.size = Y1.heap.size + 1) := World.size_alloc _ _
  clear hs hin
  go_upto_region 6 with fail
  generalize Y1.alloc (.cells #[.int .i64 0, .int .i64 0, .string ⟨#[]⟩, .slice (some ⟨g, 0, none⟩) ns.length cap, .slice ag its.length cg] 26) = W1 at x9 hn9 hi9 hB hin1 hz1 ⊢
  obtain ⟨b9, hb9⟩ : ∃ b, Y1.heap.size = b := ⟨_, rfl⟩
  rw [hb9] at x9 hgl hgi hin1 hz1
  rw [hb9]
  clear hb9
  have h1c := hid_e (ItemsRep.one its xs (hin1.out W1 ⟨Nat.le_refl _, fun _ _ _ h => h⟩))
  obtain ⟨-, -, -, y3, y4, -⟩ := row_cells x9
  go_wp2_with fail
  clear y3 y4
  refine (named_code g cap _ ns ag its.length cg _ xs W1 hn9 hi9 h1c hb1.out hb2.out).mono ?_
  rintro e Y2 ⟨go, capo, ao, co, rfl, hs, hn10, hi10⟩
  rw [hz1.out] at hn10 hi10
  have h12 : Hid (Below W1.heap.size W1 (Y2.alloc (.cells #[.int .i64 6, .int .i64 0, .string ⟨#[]⟩, .slice (some ⟨go, 0, none⟩) ns.length capo, .slice ao its.length co] 26))) := hs.alloc hs.size _
  have hz2 : Hid ((Y2.alloc (.cells #[.int .i64 6, .int .i64 0, .string ⟨#[]⟩, .slice (some ⟨go, 0, none⟩) ns.length capo, .slice ao its.length co] 26)).heap.size = Y2.heap.size + 1 ∧ b9 < Y2.heap.size) := ⟨World.size_alloc _ _, by have h1 := hz1.out; have h2 := hs.size; omega⟩
  have hgo : Hid (go < Y2.heap.size ∧ ∀ j, (Value.slice ao its.length co).ownBlock = some j → b9 < j ∧ j < Y2.heap.size) := ⟨(ownsRow_ge hn10 (g := go) rfl).2, fun j hj => by have := ownsRow_ge hi10 hj; omega⟩
  have hgo2 : Hid (b9 < go) := by have := (ownsRow_ge hn10 (g := go) rfl).1; rw [Hid]; omega
  have x10 := heap_alloc_new Y2 (.cells #[.int .i64 6, .int .i64 0, .string ⟨#[]⟩, .slice (some ⟨go, 0, none⟩) ns.length capo, .slice ao its.length co] 26)
  replace hn10 := hid_e (hn10.alloc (.cells #[.int .i64 6, .int .i64 0, .string ⟨#[]⟩, .slice (some ⟨go, 0, none⟩) ns.length capo, .slice ao its.length co] 26))
  replace hi10 := hid_e (hi10.alloc (.cells #[.int .i64 6, .int .i64 0, .string ⟨#[]⟩, .slice (some ⟨go, 0, none⟩) ns.length capo, .slice ao its.length co] 26))
  replace hB := hB.trans (h12.out.mono hB.size)
  have x9b := (h12.out.block _ (Array.getElem?_eq_some_iff.1 x9).1).trans x9
  clear hs
  go_upto_region 7 with fail
  generalize Y2.alloc (.cells #[.int .i64 6, .int .i64 0, .string ⟨#[]⟩, .slice (some ⟨go, 0, none⟩) ns.length capo, .slice ao its.length co] 26) = W2 at x10 hn10 hi10 hB h12 hz2 x9b ⊢
  obtain ⟨b10, hb10⟩ : ∃ b, Y2.heap.size = b := ⟨_, rfl⟩
  rw [hb10] at x10 hz2 hgo
  rw [hb10]
  clear hb10
  obtain ⟨-, -, -, -, y4, -⟩ := row_cells x9b
  go_wp2_with fail
  clear y4
  refine (listed_code ag its.length cg _ xs W2 (hid_e (ownsRow_below hi9.out h12.out)) h1c hb2.out).mono ?_
  rintro e Y3 ⟨al, cl, rfl, hs, hi11⟩
  rw [hz2.out.1] at hi11
  have h23 : Hid (Below W2.heap.size W2 (Y3.alloc (.cells #[.int .i64 5, .int .i64 0, .string ⟨#[]⟩, .slice none 0 0, .slice al its.length cl] 26))) := hs.alloc hs.size _
  have hz3 : Hid ((Y3.alloc (.cells #[.int .i64 5, .int .i64 0, .string ⟨#[]⟩, .slice none 0 0, .slice al its.length cl] 26)).heap.size = Y3.heap.size + 1 ∧ b10 < Y3.heap.size) := ⟨World.size_alloc _ _, by have h1 := hz2.out.1; have h2 := hs.size; omega⟩
  have x11 := heap_alloc_new Y3 (.cells #[.int .i64 5, .int .i64 0, .string ⟨#[]⟩, .slice none 0 0, .slice al its.length cl] 26)
  replace hi11 := hid_e (hi11.alloc (.cells #[.int .i64 5, .int .i64 0, .string ⟨#[]⟩, .slice none 0 0, .slice al its.length cl] 26))
  replace hB := hB.trans (h23.out.mono hB.size)
  clear hs x9b
  go_upto_region 8 with fail
  generalize Y3.alloc (.cells #[.int .i64 5, .int .i64 0, .string ⟨#[]⟩, .slice none 0 0, .slice al its.length cl] 26) = W3 at x11 hi11 hB h23 hz3 ⊢
  obtain ⟨b11, hb11⟩ : ∃ b, Y3.heap.size = b := ⟨_, rfl⟩
  rw [hb11] at x11 hz3
  rw [hb11]
  clear hb11
  go_wp2_with fail
  go_fit (copy_any (.node 6 0 ⟨#[]⟩ ns its) _ W3 (vrep_kind (hv W3 hB).out 6 0 ⟨#[]⟩) hS6.out)
  rintro e Y4 ⟨kp, xp, sp, anp, lnp, cnp, aip, lip, cip, rfl, hs12, hs⟩
  rw [hz3.out.1] at hs12
  have h34 : Hid (Below W3.heap.size W3 (Y4.alloc (.cells #[.int .i64 kp, .int .i64 xp, .string sp, .slice anp lnp cnp, .slice aip lip cip] 26))) := hs.alloc hs.size _
  have hz4 : Hid ((Y4.alloc (.cells #[.int .i64 kp, .int .i64 xp, .string sp, .slice anp lnp cnp, .slice aip lip cip] 26)).heap.size = Y4.heap.size + 1 ∧ b11 < Y4.heap.size) := ⟨World.size_alloc _ _, by have h1 := hz3.out.1; have h2 := hs.size; omega⟩
  have x12 := heap_alloc_new Y4 (.cells #[.int .i64 kp, .int .i64 xp, .string sp, .slice anp lnp cnp, .slice aip lip cip] 26)
  replace hs12 := hid_e (hs12.keep ((Below.refl _ Y4).alloc (Nat.le_refl _) (.cells #[.int .i64 kp, .int .i64 xp, .string sp, .slice anp lnp cnp, .slice aip lip cip] 26)))
  replace hB := hB.trans (h34.out.mono hB.size)
  clear hs
  go_upto_region 9 with fail
  generalize Y4.alloc (.cells #[.int .i64 kp, .int .i64 xp, .string sp, .slice anp lnp cnp, .slice aip lip cip] 26) = W4 at x12 hs12 hB h34 hz4 ⊢
  obtain ⟨b12, hb12⟩ : ∃ b, Y4.heap.size = b := ⟨_, rfl⟩
  rw [hb12] at x12 hz4
  rw [hb12]
  clear hb12
  go_wp2_with fail
  go_fit (copy_any (.node 5 0 ⟨#[]⟩ [] its) _ W4 (vrep_items (hv W4 hB).out 5 0 ⟨#[]⟩) hS5.out)
  rintro e Y5 ⟨kq, xq, sq, anq, lnq, cnq, aiq, liq, ciq, rfl, hs13, hs⟩
  rw [hz4.out.1] at hs13
  have h45 : Hid (Below W4.heap.size W4 (Y5.alloc (.cells #[.int .i64 kq, .int .i64 xq, .string sq, .slice anq lnq cnq, .slice aiq liq ciq] 26))) := hs.alloc hs.size _
  have hz5 : Hid (b12 < Y5.heap.size) := by have h1 := hz4.out.1; have h2 := hs.size; rw [Hid]; omega
  have x13 := heap_alloc_new Y5 (.cells #[.int .i64 kq, .int .i64 xq, .string sq, .slice anq lnq cnq, .slice aiq liq ciq] 26)
  replace hs13 := hid_e (hs13.keep ((Below.refl _ Y5).alloc (Nat.le_refl _) (.cells #[.int .i64 kq, .int .i64 xq, .string sq, .slice anq lnq cnq, .slice aiq liq ciq] 26)))
  replace hB := hB.trans (h45.out.mono hB.size)
  clear hs
  go_upto_region 10 with fail
  generalize Y5.alloc (.cells #[.int .i64 kq, .int .i64 xq, .string sq, .slice anq lnq cnq, .slice aiq liq ciq] 26) = W5 at x13 hs13 hB h45 ⊢
  obtain ⟨b13, hb13⟩ : ∃ b, Y5.heap.size = b := ⟨_, rfl⟩
  rw [hb13] at x13 hz5
  rw [hb13]
  clear hb13
  have hord : b9 < b10 ∧ b10 < b11 ∧ b11 < b12 ∧ b12 < b13 := ⟨hz2.out.2, hz3.out.2, hz4.out.2, hz5.out⟩
  have h35 : Below W3.heap.size W3 W5 := h34.out.trans (h45.out.mono h34.out.size)
  have h25 : Below W2.heap.size W2 W5 := h23.out.trans (h35.mono h23.out.size)
  have h15 : Below W1.heap.size W1 W5 := h12.out.trans (h25.mono h12.out.size)
  have bk : ∀ {W : World} {b : Nat} {o : Obj}, W.heap[b]? = some o → Below W.heap.size W W5 → W5.heap[b]? = some o := fun h hh => (hh.block _ (Array.getElem?_eq_some_iff.1 h).1).trans h
  have hG : GAt w g cap ag cg b9 b10 b11 b12 b13 ns its xs go capo ao co al cl #[.int .i64 kp, .int .i64 xp, .string sp, .slice anp lnp cnp, .slice aip lip cip] #[.int .i64 kq, .int .i64 xq, .string sq, .slice anq lnq cnq, .slice aiq liq ciq] W5 := ⟨⟨⟨hB, bk x11 h35, x13, ownsRow_below hi11.out h35, fun W' ha => hin1.out W' ((Chg.of_below h15).agree (fun _ _ h => h) ha), fun W' ha => hs13.out W' ⟨ha.1, fun p u hp hc => ha.2 p u (by show b12 < p.block; have : b12 + 1 ≤ p.block := hp; omega) hc⟩⟩, bk x10 h25, bk x12 h45.out, ownsRow_below hn10.out h25, ownsRow_below hi10.out h25, fun W' ha => (hs12.out.keep h45.out) W' ⟨ha.1, fun p u hp hc => ha.2 p u (by show b11 < p.block; have : b11 + 1 ≤ p.block := hp; omega) hc⟩⟩, bk x9 h15, ownsRow_below hn9.out h15, ownsRow_below hi9.out h15⟩
  clear x9 x10 x11 x12 x13 hn9 hi9 hn10 hi10 hi11 hin1 hs12 hs13 h12 h23 h34 h45 h35 h25 h15 bk hz1 hz2 hz3 hz4 hz5 h1c
  replace hG := hG.drew hord
  clear hB
  generalize hX : W5.drew = X at hG
  refine wp_region_noPanic ?_
  refine Until.wp_region_U (fun w' => GAt w g cap ag cg b9 b10 b11 b12 b13 ns its xs go capo ao co al cl #[.int .i64 kp, .int .i64 xp, .string sp, .slice anp lnp cnp, .slice aip lip cip] #[.int .i64 kq, .int .i64 xq, .string sq, .slice anq lnq cnq, .slice aiq liq ciq] w') (fun _ => True) 100 (by kernel_rfl) ?_
  rw [hX]
  clear hX
  refine Until.wpU_load0 (i := 0) (oi := { dst := some 63, op := Op.load 26 (Operand.tmp 10), type := 26, pos := "law.go:160", after := #[], guard := none }) (v := .agg #[.int .i64 6, .int .i64 0, .string ⟨#[]⟩, .slice (some ⟨go, 0, none⟩) ns.length capo, .slice ao its.length co]) rfl (by kernel_rfl) (by kernel_rfl) (by kernel_rfl) (by kernel_rfl) (by kernel_rfl) (fun _ _ _ h => h) hG (fun _ => trivial) (by rfl) (by intro w' hw'; obtain ⟨t0, t1, t2, t3, t4, -⟩ := row_cells hw'.all.x10; clear hw'; go_simp) ?_
  try simp only [Act.put, List.setIfInBounds_toArray, List.set_cons_zero, List.set_cons_succ]
  refine Until.wpU_load0 (i := 1) (oi := { dst := some 64, op := Op.load 26 (Operand.tmp 12), type := 26, pos := "law.go:160", after := #[], guard := none }) (v := .agg #[.int .i64 kp, .int .i64 xp, .string sp, .slice anp lnp cnp, .slice aip lip cip]) rfl (by kernel_rfl) (by kernel_rfl) (by kernel_rfl) (by kernel_rfl) (by kernel_rfl) (fun _ _ _ h => h) hG (fun _ => trivial) (by rfl) (by intro w' hw'; obtain ⟨t0, t1, t2, t3, t4, -⟩ := row_cells hw'.all.x12; clear hw'; go_simp) ?_
  try simp only [Act.put, List.setIfInBounds_toArray, List.set_cons_zero, List.set_cons_succ]
  refine Until.wpU_ready (rs := [2]) (by kernel_rfl) (by simp) ?_
  refine (Until.AllU.cons (o := { dst := some 65, op := Op.call { callee := Callee.value (Operand.func 5), args := #[Operand.tmp 63, Operand.tmp 64], argTypes := #[26, 26] }, type := 4, pos := "law.go:160", after := #[{ on := 0, ground := Ground.data }, { on := 1, ground := Ground.data }], guard := none }) rfl (fun K hK => ?_) Until.AllU.nil)
  go_simp
  refine (heq _ _ _ _ hG.all.obj hG.all.s12.rep).out.mono ?_
  rintro e Y6 ⟨rfl, hs⟩
  replace hG := hG.more hs hord
  clear hs
  refine hK.out _ _ hG (fun _ => trivial) ?_
  clear hK K
  try simp only [Act.put, List.setIfInBounds_toArray, List.set_cons_zero, List.set_cons_succ]
  refine Until.wpU_pure (i := 3) (oi := { dst := some 66, op := Op.unOp UnOp.not 4 (Operand.tmp 65), type := 4, pos := "law.go:160", after := #[{ on := 2, ground := Ground.data }], guard := none }) (v := .bool false) rfl (by kernel_rfl) (by kernel_rfl) (by kernel_rfl) (by kernel_rfl) (by kernel_rfl) (fun _ _ _ h => h) hG (fun _ => trivial) (by rfl) (by intro w'; go_simp) ?_
  try simp only [Act.put, List.setIfInBounds_toArray, List.set_cons_zero, List.set_cons_succ]
  refine Until.wpU_pure (i := 4) (oi := { dst := some 67, op := Op.move (Operand.tmp 66), type := 4, pos := "law.go:160", after := #[{ on := 3, ground := Ground.data }, { on := 2, ground := Ground.chain }], guard := none }) (v := .bool false) rfl (by kernel_rfl) (by kernel_rfl) (by kernel_rfl) (by kernel_rfl) (by kernel_rfl) (fun _ _ _ h => h) hG (fun _ => trivial) (by rfl) (by intro w'; go_simp) ?_
  try simp only [Act.put, List.setIfInBounds_toArray, List.set_cons_zero, List.set_cons_succ]
  refine Until.wpU_load0 (i := 5) (oi := { dst := some 68, op := Op.load 26 (Operand.tmp 11), type := 26, pos := "law.go:160", after := #[{ on := 4, ground := Ground.guard }], guard := some (4, false) }) (v := .agg #[.int .i64 5, .int .i64 0, .string ⟨#[]⟩, .slice none 0 0, .slice al its.length cl]) rfl (by kernel_rfl) (by kernel_rfl) (by kernel_rfl) (by kernel_rfl) (by kernel_rfl) (fun _ _ _ h => h) hG (fun _ => trivial) (by rfl) (by intro w' hw'; obtain ⟨t0, t1, t2, t3, t4, -⟩ := row_cells hw'.all.lat.x11; clear hw'; go_simp) ?_
  try simp only [Act.put, List.setIfInBounds_toArray, List.set_cons_zero, List.set_cons_succ]
  refine Until.wpU_load0 (i := 6) (oi := { dst := some 69, op := Op.load 26 (Operand.tmp 13), type := 26, pos := "law.go:160", after := #[{ on := 4, ground := Ground.guard }], guard := some (4, false) }) (v := .agg #[.int .i64 kq, .int .i64 xq, .string sq, .slice anq lnq cnq, .slice aiq liq ciq]) rfl (by kernel_rfl) (by kernel_rfl) (by kernel_rfl) (by kernel_rfl) (by kernel_rfl) (fun _ _ _ h => h) hG (fun _ => trivial) (by rfl) (by intro w' hw'; obtain ⟨t0, t1, t2, t3, t4, -⟩ := row_cells hw'.all.lat.x13; clear hw'; go_simp) ?_
  try simp only [Act.put, List.setIfInBounds_toArray, List.set_cons_zero, List.set_cons_succ]
  refine Until.wpU_ready (rs := [7]) (by kernel_rfl) (by simp) ?_
  refine (Until.AllU.cons (o := { dst := some 70, op := Op.call { callee := Callee.value (Operand.func 5), args := #[Operand.tmp 68, Operand.tmp 69], argTypes := #[26, 26] }, type := 4, pos := "law.go:160", after := #[{ on := 5, ground := Ground.data }, { on := 6, ground := Ground.data }, { on := 4, ground := Ground.chain }, { on := 4, ground := Ground.guard }], guard := some (4, false) }) rfl (fun K hK => ?_) Until.AllU.nil)
  go_simp
  refine (heq _ _ _ _ hG.all.lat.list hG.all.lat.s13.rep).out.mono ?_
  rintro e Y7 ⟨rfl, hs⟩
  replace hG := hG.more hs hord
  clear hs
  refine hK.out _ _ hG (fun _ => trivial) ?_
  clear hK K
  try simp only [Act.put, List.setIfInBounds_toArray, List.set_cons_zero, List.set_cons_succ]
  refine Until.wpU_pure (i := 8) (oi := { dst := some 71, op := Op.unOp UnOp.not 4 (Operand.tmp 70), type := 4, pos := "law.go:160", after := #[{ on := 7, ground := Ground.data }, { on := 4, ground := Ground.guard }], guard := some (4, false) }) (v := .bool false) rfl (by kernel_rfl) (by kernel_rfl) (by kernel_rfl) (by kernel_rfl) (by kernel_rfl) (fun _ _ _ h => h) hG (fun _ => trivial) (by rfl) (by intro w'; go_simp) ?_
  try simp only [Act.put, List.setIfInBounds_toArray, List.set_cons_zero, List.set_cons_succ]
  refine Until.wpU_pure (i := 9) (oi := { dst := some 72, op := Op.pick (Operand.tmp 67) (Operand.const (Value.bool true)) (Operand.tmp 71), type := 4, pos := "law.go:160", after := #[{ on := 4, ground := Ground.data }, { on := 8, ground := Ground.data }], guard := none }) (v := .bool false) rfl (by kernel_rfl) (by kernel_rfl) (by kernel_rfl) (by kernel_rfl) (by kernel_rfl) (fun _ _ _ h => h) hG (fun _ => trivial) (by rfl) (by intro w'; go_simp) ?_
  try simp only [Act.put, List.setIfInBounds_toArray, List.set_cons_zero, List.set_cons_succ]
  refine Until.wpU_pure (i := 10) (oi := { dst := some 73, op := Op.move (Operand.tmp 72), type := 4, pos := "law.go:160", after := #[{ on := 9, ground := Ground.data }, { on := 7, ground := Ground.chain }], guard := none }) (v := .bool false) rfl (by kernel_rfl) (by kernel_rfl) (by kernel_rfl) (by kernel_rfl) (by kernel_rfl) (fun _ _ _ h => h) hG (fun _ => trivial) (by rfl) (by intro w'; go_simp) ?_
  try simp only [Act.put, List.setIfInBounds_toArray, List.set_cons_zero, List.set_cons_succ]
  refine Until.wpU_load0 (i := 11) (oi := { dst := some 74, op := Op.load 26 (Operand.tmp 9), type := 26, pos := "law.go:160", after := #[{ on := 10, ground := Ground.guard }], guard := some (10, false) }) (v := .agg #[.int .i64 0, .int .i64 0, .string ⟨#[]⟩, .slice (some ⟨g, 0, none⟩) ns.length cap, .slice ag its.length cg]) rfl (by kernel_rfl) (by kernel_rfl) (by kernel_rfl) (by kernel_rfl) (by kernel_rfl) (fun _ _ _ h => h) hG (fun _ => trivial) (by rfl) (by intro w' hw'; obtain ⟨t0, t1, t2, t3, t4, -⟩ := row_cells hw'.x9; clear hw'; go_simp) ?_
  try simp only [Act.put, List.setIfInBounds_toArray, List.set_cons_zero, List.set_cons_succ]
  refine Until.wpU_pure (i := 12) (oi := { dst := some 75, op := Op.move (Operand.tmp 0), type := 22, pos := "law.go:160", after := #[{ on := 10, ground := Ground.guard }], guard := some (10, false) }) (v := .slice an ns.length cn) rfl (by kernel_rfl) (by kernel_rfl) (by kernel_rfl) (by kernel_rfl) (by kernel_rfl) (fun _ _ _ h => h) hG (fun _ => trivial) (by rfl) (by intro w'; go_simp) ?_
  try simp only [Act.put, List.setIfInBounds_toArray, List.set_cons_zero, List.set_cons_succ]
  refine Until.wpU_pure (i := 13) (oi := { dst := some 76, op := Op.move (Operand.tmp 1), type := 23, pos := "law.go:160", after := #[{ on := 10, ground := Ground.guard }], guard := some (10, false) }) (v := .slice ai its.length ci) rfl (by kernel_rfl) (by kernel_rfl) (by kernel_rfl) (by kernel_rfl) (by kernel_rfl) (fun _ _ _ h => h) hG (fun _ => trivial) (by rfl) (by intro w'; go_simp) ?_
  try simp only [Act.put, List.setIfInBounds_toArray, List.set_cons_zero, List.set_cons_succ]
  refine Until.wpU_pure (i := 14) (oi := { dst := some 77, op := Op.build 26 #[(3, Operand.tmp 75), (4, Operand.tmp 76)], type := 26, pos := "law.go:160", after := #[{ on := 12, ground := Ground.data }, { on := 13, ground := Ground.data }, { on := 10, ground := Ground.guard }], guard := some (10, false) }) (v := .agg #[.int .i64 0, .int .i64 0, .string ⟨#[]⟩, .slice an ns.length cn, .slice ai its.length ci]) rfl (by kernel_rfl) (by kernel_rfl) (by kernel_rfl) (by kernel_rfl) (by kernel_rfl) (fun _ _ _ h => h) hG (fun _ => trivial) (by rfl) (by intro w'; go_simp) ?_
  try simp only [Act.put, List.setIfInBounds_toArray, List.set_cons_zero, List.set_cons_succ]
  refine Until.wpU_ready (rs := [15]) (by kernel_rfl) (by simp) ?_
  refine (Until.AllU.cons (o := { dst := some 78, op := Op.call { callee := Callee.value (Operand.func 9), args := #[Operand.tmp 77], argTypes := #[26] }, type := 26, pos := "law.go:160", after := #[{ on := 14, ground := Ground.data }, { on := 10, ground := Ground.chain }, { on := 10, ground := Ground.guard }], guard := some (10, false) }) rfl (fun K hK => ?_) Until.AllU.nil)
  go_simp
  refine (copy_any (.node 0 0 ⟨#[]⟩ ns its) _ _ (hv _ hG.all.lat.below).out hS.out).mono ?_
  rintro e Y8 ⟨kr, xr, sr, anr, lnr, cnr, air, lir, cir, rfl, hsr, hs⟩
  have hvr := hid_e hsr.rep
  replace hG := hG.more hs hord
  clear hs hsr
  refine hK.out _ _ hG (fun _ => trivial) ?_
  clear hK K
  try simp only [Act.put, List.setIfInBounds_toArray, List.set_cons_zero, List.set_cons_succ]
  refine Until.wpU_ready (rs := [16]) (by kernel_rfl) (by simp) ?_
  refine (Until.AllU.cons (o := { dst := some 79, op := Op.call { callee := Callee.value (Operand.func 5), args := #[Operand.tmp 74, Operand.tmp 78], argTypes := #[26, 26] }, type := 4, pos := "law.go:160", after := #[{ on := 11, ground := Ground.data }, { on := 15, ground := Ground.data }, { on := 15, ground := Ground.chain }, { on := 10, ground := Ground.guard }], guard := some (10, false) }) rfl (fun K hK => ?_) Until.AllU.nil)
  go_simp
  refine (heq _ _ _ _ hG.given hvr.out).out.mono ?_
  rintro e Y9 ⟨rfl, hs⟩
  replace hG := hG.more hs hord
  clear hs hvr
  refine hK.out _ _ hG (fun _ => trivial) ?_
  clear hK K
  try simp only [Act.put, List.setIfInBounds_toArray, List.set_cons_zero, List.set_cons_succ]
  refine Until.wpU_pure (i := 17) (oi := { dst := some 80, op := Op.unOp UnOp.not 4 (Operand.tmp 79), type := 4, pos := "law.go:160", after := #[{ on := 16, ground := Ground.data }, { on := 10, ground := Ground.guard }], guard := some (10, false) }) (v := .bool false) rfl (by kernel_rfl) (by kernel_rfl) (by kernel_rfl) (by kernel_rfl) (by kernel_rfl) (fun _ _ _ h => h) hG (fun _ => trivial) (by rfl) (by intro w'; go_simp) ?_
  try simp only [Act.put, List.setIfInBounds_toArray, List.set_cons_zero, List.set_cons_succ]
  refine Until.wpU_pure (i := 18) (oi := { dst := some 81, op := Op.pick (Operand.tmp 73) (Operand.const (Value.bool true)) (Operand.tmp 80), type := 4, pos := "law.go:160", after := #[{ on := 10, ground := Ground.data }, { on := 17, ground := Ground.data }], guard := none }) (v := .bool false) rfl (by kernel_rfl) (by kernel_rfl) (by kernel_rfl) (by kernel_rfl) (by kernel_rfl) (fun _ _ _ h => h) hG (fun _ => trivial) (by rfl) (by intro w'; go_simp) ?_
  try simp only [Act.put, List.setIfInBounds_toArray, List.set_cons_zero, List.set_cons_succ]
  refine Until.wpU_done (by kernel_rfl) ?_ _
  refine NoPanic.normal ?_
  obtain ⟨y0, y1, y2, y3, y4, -⟩ := row_cells hG.x9
  go_wp2_with fail
  clear y0 y1 y2 y3 y4
  refine (shallow_code 0 0 ⟨#[]⟩ g ns.length cap _ ag its.length cg xs _ _ Y9 hG.all.lat.below.size hG.all.lat.below.size (hid_e hG.n9) (hid_e hG.i9) hb3.out hb4.out).mono ?_
  rintro e Z1 ⟨rfl, hk⟩
  have hM := hG.all.keep (Chg.of_kp2 hk) (fun j hj => by
    rcases hj with h | h
    · obtain rfl : g = j := by simpa using h
      exact ⟨hgl.out.1, hgl.out.2, .inl rfl⟩
    · exact ⟨(hgi.out j h).1, (hgi.out j h).2, .inr h⟩) hord.1 hord.2.1 hord.2.2.1 hord.2.2.2
  clear hk hG
  obtain ⟨y0, y1, y2, y3, y4, -⟩ := row_cells hM.x10
  obtain ⟨z0, z1, z2, z3, z4, -⟩ := row_cells hM.x12
  go_wp2_with fail
  clear y0 y1 y2 y3 y4 z0 z1 z2 z3 z4
  refine (heq _ _ _ _ hM.obj hM.s12.rep).out.mono ?_
  rintro e Z2 ⟨rfl, hs⟩
  replace hM := hM.more hs hord.1 hord.2.1 hord.2.2.1 hord.2.2.2
  clear hs
  obtain ⟨y0, y1, y2, y3, y4, -⟩ := row_cells hM.lat.x11
  obtain ⟨z0, z1, z2, z3, z4, -⟩ := row_cells hM.lat.x13
  go_wp2_with fail
  clear y0 y1 y2 y3 y4 z0 z1 z2 z3 z4
  refine (heq _ _ _ _ hM.lat.list hM.lat.s13.rep).out.mono ?_
  rintro e Z3 ⟨rfl, hs⟩
  replace hM := hM.more hs hord.1 hord.2.1 hord.2.2.1 hord.2.2.2
  clear hs
  obtain ⟨y0, y1, y2, y3, y4, -⟩ := row_cells hM.x10
  go_wp2_with fail
  clear y0 y1 y2 y3 y4
  have hz : b9 + 1 ≤ Z3.heap.size := by have := ownsRow_ge hM.n10 (g := go) rfl; omega
  refine (shallow_code 6 0 ⟨#[]⟩ go ns.length capo _ ao its.length co xs _ _ Z3 hz hz (hid_e hM.n10) (hid_e hM.i10) hb3.out hb4.out).mono ?_
  rintro e Z4 ⟨rfl, hk⟩
  have hL := hM.lat.keep (Chg.of_kp2 hk) (fun j hj => by
    have h1 := hgl.out
    have h2 := hgo2.out
    have h3 := hgo.out.1
    rcases hj with h | h
    · obtain rfl : go = j := by simpa using h
      exact ⟨by omega, by omega, fun h => by omega⟩
    · have h4 := hgo.out.2 j h
      exact ⟨by omega, by omega, fun h => by omega⟩) hord.2.1 hord.2.2.1 hord.2.2.2
  clear hk hM
  obtain ⟨y0, y1, y2, y3, y4, -⟩ := row_cells hL.x11
  obtain ⟨z0, z1, z2, z3, z4, -⟩ := row_cells hL.x13
  go_wp2_with fail
  clear y0 y1 y2 y3 y4 z0 z1 z2 z3 z4
  refine (heq _ _ _ _ hL.list hL.s13.rep).out.mono ?_
  rintro e Z5 ⟨rfl, hs⟩
  have hB5 := hL.below.trans (hs.mono hL.below.size)
  clear hs hL
  go_wp2_with fail
  go_fit (hlv Z5 hB5).out
  rintro e Z6 ⟨rfl, hs⟩
  go_wp2_with fail
  go_ret
  exact ⟨rfl, hB5.trans (hs.mono hB5.size)⟩
end Go.Proofs.YtnhijkmddfhcbaaGreatDoor.Tree
