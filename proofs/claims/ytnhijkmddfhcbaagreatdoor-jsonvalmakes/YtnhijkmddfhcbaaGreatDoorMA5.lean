import Derived.Test.YtnhijkmddfhcbaaGreatDoorMA1
import Derived.Deep.AppendLies
import Derived.Laws.OwnMore
import Derived.Lib.LazyBuf
import Derived.Test.YtnhijkmddfhcbaaGreatDoorW26
/-! slices.Clone of names and of items; jsonval's Named and Listed. -/
namespace Go.Proofs.YtnhijkmddfhcbaaGreatDoor.Tree
open Go Go.RowKit

theorem wpList_append_zero {P : Program} {ops : Array Oper} {rest : List Oper} {o : Oper} {a : Act} {Q : Exit → Act → World → Prop} (w : World) (hgd : o.guard = none) (s y : Operand) (t : TypeId)
    (ho : o.op = .call { callee := .builtin .append, args := #[s, y], argTypes := #[t, t] }) (e : TypeId) (i : TypeInfo) (ht : P.underlying t = some (.slice e)) (hi : P.info? e = some i)
    (g n cap : Nat) (hn : n ≤ cap) (hse : a.eval s = .slice (some ⟨g, 0, none⟩) n cap) (ax : Option Addr) (c : Nat) (hx : a.eval y = .slice ax 0 c)
    (h : wpList P ops Q rest (a.put o.dst (.slice (some ⟨g, 0, none⟩) n cap)) w) : wpList P ops Q (o :: rest) a w :=
  wpList_plain hgd fun K hK => by
    have hr := run_append_none (P := P) w t o.type e i ht hi g n cap hn ax c
    unfold Oper.wp execOp
    simp only [ho, resolve, invoke, builtin, Sem.run_bind, Sem.run_pure, Result.andThen_ok, List.map_toArray, List.map_cons, List.map_nil, hse, hx, hr]
    exact hK _ _ h
theorem owns_emptyV (w : World) (e : TypeId) (size : Nat) : (w.alloc (.cells #[] e)).ownsRow w.heap.size e size (.slice (some ⟨w.heap.size, 0, none⟩) 0 0) 0 [] :=
  ⟨by simp, .inr ⟨w.heap.size, 0, #[], rfl, Nat.le_refl _, heap_alloc_new w _, Nat.le_refl _, Nat.zero_le _, by simp, by simp⟩⟩
set_option maxHeartbeats 1000000 in
set_option maxRecDepth 100000 in
theorem clone_names (g cap lo : Nat) (l : List ByteArray) (w : World) (hR : Hid (w.ownsRow lo 9 1 (.slice (some ⟨g, 0, none⟩) l.length cap) l.length (strs l))) (hl : l.length * 16 ≤ 140737488355328) :
    Calls Tryz.prog 15 #[.slice (some ⟨g, 0, none⟩) l.length cap] w fun e w' => ∃ g' cap', e = .returned (.slice (some ⟨g', 0, none⟩) l.length cap') ∧ w'.ownsRow w.heap.size 9 1 (.slice (some ⟨g', 0, none⟩) l.length cap') l.length (strs l) ∧ Below w.heap.size w w' := by
  obtain ⟨i9, hi9, hz0, hz1, hz2⟩ := info_parts A9
  have hq := run_eql_slice_nil (P := Tryz.prog) w 22 9 (some ⟨g, 0, none⟩) l.length cap Tryz.underlying22
  go_enter Tryz.func15, Tryz.ntmps15
  have hsl : (strs l).length = l.length := strs_length l
  obtain ⟨n, hn⟩ : ∃ n, l.length = n := ⟨_, rfl⟩
  rw [hn] at hR hl hq hsl ⊢
  by_cases h0 : n = 0
  · subst h0
    rw [List.eq_nil_of_length_eq_zero hsl]
    clear hR hsl hn
    go_wp2_with (at_builtin; refine wpList_append_zero _ rfl _ _ 22 rfl 9 i9 Tryz.underlying22 hi9 w.heap.size 0 0 (Nat.le_refl _) rfl _ _ rfl ?_)
    go_ret
    exact ⟨_, _, rfl, owns_emptyV w _ _, (Below.refl _ _).alloc (Nat.le_refl _) _⟩
  · go_wp2_with (at_builtin; refine wpList_append_lies _ rfl _ _ 22 rfl w.heap.size 9 i9 _ 1 16 Tryz.underlying22 hi9 hz0 hz1 hz2 rfl (by decide) _ 0 [] rfl (owns_emptyV w _ _) ⟨g, 0, none⟩ n cap (strs l) rfl (by omega) (fun j u hu => by rw [add_off, Nat.zero_add]; exact row_cell (hR.out.alloc _) j u hu) (strs1 l) (by omega) (by unfold maxLen; omega) (by omega) (by rw [World.size_alloc]; omega) _ rfl ?_; intro g' cap' W' ho hgr hat hlt)
    simp only [Nat.zero_add, List.nil_append] at ho ⊢
    have hb : Below w.heap.size w W' := ((Below.refl _ w).alloc (Nat.le_refl _) _).trans (grown_below hgr (by rw [World.size_alloc]; omega) (fun g hg => by cases hg; exact Nat.le_refl _))
    clear hgr hat hlt
    go_wp2_with fail
    go_ret
    exact ⟨g', cap', rfl, ho, hb⟩
theorem ItemsRep.one {W : World} : (ts : List Tr) → (xs : List Value) → ItemsRep W ts xs → ∀ u ∈ xs, u.oneCell' = true
  | [], xs, h, u, hu => by unfold ItemsRep at h; subst h; cases hu
  | t :: ts, xs, h, u, hu => by
    unfold ItemsRep at h
    obtain ⟨cs, r, rfl, -, h2, h3⟩ := h
    obtain ⟨k, x, s, an, ln, cn, ai, li, ci, rfl⟩ := vrep_five h2
    rcases List.mem_append.1 hu with hu | hu
    · exact five_one k x s an ln cn ai li ci u hu
    · exact ItemsRep.one ts r h3 u hu
set_option maxHeartbeats 1000000 in
set_option maxRecDepth 100000 in
theorem clone_items (ao : Option Addr) (m ci lo : Nat) (xs : List Value) (w : World) (hR : Hid (w.ownsRow lo 26 5 (.slice ao m ci) m xs)) (h1 : Hid (∀ u ∈ xs, u.oneCell' = true)) (hl : m * 80 ≤ 140737488355328) :
    Calls Tryz.prog 16 #[.slice ao m ci] w fun e w' => ∃ ao' ci', e = .returned (.slice ao' m ci') ∧ w'.ownsRow w.heap.size 26 5 (.slice ao' m ci') m xs ∧ Below w.heap.size w w' := by
  obtain ⟨i9, hi9, hz0, hz1, hz2⟩ := info_parts AV
  rcases id hR.out.2 with ⟨hv, h0⟩ | ⟨g, cap, cur, hv, -⟩
  · have e0 : xs = [] := List.eq_nil_of_length_eq_zero (by have := hR.out.1; omega)
    subst e0
    rw [hv, h0]
    have hq := run_eql_slice_nil (P := Tryz.prog) w 23 26 none 0 0 Tryz.underlying23
    go_enter Tryz.func16, Tryz.ntmps16
    go_wp2_with fail
    go_ret
    exact ⟨_, _, rfl, World.ownsRow_nil _ _ _ _, Below.refl _ _⟩
  · simp only [Value.slice.injEq] at hv
    obtain ⟨rfl, -, rfl⟩ := hv
    have hq := run_eql_slice_nil (P := Tryz.prog) w 23 26 (some ⟨g, 0, none⟩) m ci Tryz.underlying23
    go_enter Tryz.func16, Tryz.ntmps16
    by_cases h0 : m = 0
    · subst h0
      have e0 : xs = [] := List.eq_nil_of_length_eq_zero (by have := hR.out.1; omega)
      subst e0
      go_wp2_with (at_builtin; refine wpList_append_zero _ rfl _ _ 23 rfl 26 i9 Tryz.underlying23 hi9 w.heap.size 0 0 (Nat.le_refl _) rfl _ _ rfl ?_)
      go_ret
      exact ⟨_, _, rfl, owns_emptyV w _ _, (Below.refl _ _).alloc (Nat.le_refl _) _⟩
    · go_wp2_with (at_builtin; refine wpList_append_lies _ rfl _ _ 23 rfl w.heap.size 26 i9 _ 5 80 Tryz.underlying23 hi9 hz0 hz1 hz2 rfl (by decide) _ 0 [] rfl (owns_emptyV w _ _) ⟨g, 0, none⟩ m ci xs rfl hR.out.1 (fun j u hu => by rw [add_off, Nat.zero_add]; exact row_cell (hR.out.alloc _) j u hu) h1.out (by omega) (by unfold maxLen; omega) (by omega) (by rw [World.size_alloc]; omega) _ rfl ?_; intro g' cap' W' ho hgr hat hlt)
      simp only [Nat.zero_add, List.nil_append] at ho ⊢
      have hb : Below w.heap.size w W' := ((Below.refl _ w).alloc (Nat.le_refl _) _).trans (grown_below hgr (by rw [World.size_alloc]; omega) (fun g hg => by cases hg; exact Nat.le_refl _))
      clear hgr hat hlt
      go_wp2_with fail
      go_ret
      exact ⟨_, cap', rfl, ho, hb⟩
/-- What Named answers: lists of its own. -/
def NamedAt (w : World) (ns : List ByteArray) (m : Nat) (xs : List Value) (e : Ending) (w' : World) : Prop :=
  ∃ (g cap : Nat) (ao : Option Addr) (ci : Nat), e = .returned (.agg #[.int .i64 6, .int .i64 0, .string ⟨#[]⟩, .slice (some ⟨g, 0, none⟩) ns.length cap, .slice ao m ci]) ∧ Below w.heap.size w w' ∧
    w'.ownsRow w.heap.size 9 1 (.slice (some ⟨g, 0, none⟩) ns.length cap) ns.length (strs ns) ∧ w'.ownsRow w.heap.size 26 5 (.slice ao m ci) m xs
/-- What Listed answers. -/
def ListedAt (w : World) (m : Nat) (xs : List Value) (e : Ending) (w' : World) : Prop :=
  ∃ (ao : Option Addr) (ci : Nat), e = .returned (.agg #[.int .i64 5, .int .i64 0, .string ⟨#[]⟩, .slice none 0 0, .slice ao m ci]) ∧ Below w.heap.size w w' ∧ w'.ownsRow w.heap.size 26 5 (.slice ao m ci) m xs
set_option maxHeartbeats 1000000 in
set_option maxRecDepth 100000 in
theorem named_code (g cap lo : Nat) (ns : List ByteArray) (ao : Option Addr) (m ci lo' : Nat) (xs : List Value) (w : World) (hN : Hid (w.ownsRow lo 9 1 (.slice (some ⟨g, 0, none⟩) ns.length cap) ns.length (strs ns))) (hR : Hid (w.ownsRow lo' 26 5 (.slice ao m ci) m xs)) (h1 : Hid (∀ u ∈ xs, u.oneCell' = true)) (hl : ns.length * 16 ≤ 140737488355328) (hm : m * 80 ≤ 140737488355328) :
    Calls Tryz.prog 10 #[.slice (some ⟨g, 0, none⟩) ns.length cap, .slice ao m ci] w (NamedAt w ns m xs) := by
  have n0 := heap_alloc_new w (.cells #[.int .i64 0, .int .i64 0, .string ⟨#[]⟩, .slice none 0 0, .slice none 0 0] 26)
  have hB0 : Below w.heap.size w (w.alloc (.cells #[.int .i64 0, .int .i64 0, .string ⟨#[]⟩, .slice none 0 0, .slice none 0 0] 26)) := (Below.refl _ _).alloc (Nat.le_refl _) _
  replace hN := hid_e (hN.out.alloc (.cells #[.int .i64 0, .int .i64 0, .string ⟨#[]⟩, .slice none 0 0, .slice none 0 0] 26))
  replace hR := hid_e (hR.out.alloc (.cells #[.int .i64 0, .int .i64 0, .string ⟨#[]⟩, .slice none 0 0, .slice none 0 0] 26))
  go_enter Tryz.func10, Tryz.ntmps10
  go_upto_region 1 with fail
  generalize w.alloc (.cells #[.int .i64 0, .int .i64 0, .string ⟨#[]⟩, .slice none 0 0, .slice none 0 0] 26) = X0 at n0 hB0 hN hR ⊢
  have hs0 : Hid (w.heap.size < X0.heap.size) := (Array.getElem?_eq_some_iff.1 n0).1
  go_wp2_with fail
  refine (clone_names g cap lo ns X0 hN hl).mono ?_
  rintro e X1 ⟨g1, cap1, rfl, ho1, hb1⟩
  have n1 := (hb1.block _ hs0.out).trans n0
  replace hR := hid_e (ownsRow_below hR.out hb1)
  have hs1 := hid_e hb1.size
  have hg1 := hid_e (ownsRow_ge ho1 (g := g1) rfl)
  have hB1 := hB0.trans (hb1.mono hB0.size)
  replace ho1 := hid_e ho1
  clear n0 hN hb1 hB0
  go_wp2_with fail
  refine (clone_items ao m ci lo' xs X1 hR h1 hm).mono ?_
  rintro e X2 ⟨ao2, ci2, rfl, ho2, hb2⟩
  have n2 := (hb2.block _ (Array.getElem?_eq_some_iff.1 n1).1).trans n1
  have ho1' := hid_e (ownsRow_below ho1.out hb2)
  have hB2 := hB1.trans (hb2.mono hB1.size)
  have hsep : Hid (∀ j, (Value.slice ao2 m ci2).ownBlock = some j → X1.heap.size ≤ j) := fun j hj => (ownsRow_ge ho2 hj).1
  replace ho2 := hid_e ho2
  clear n1 hR hb2 hB1 ho1
  obtain ⟨z0, z1, z2, z3, z4, zf⟩ := row_cells n2
  have zf0 := zf 0; have zf1 := zf 1; have zf2 := zf 2; have zf3 := zf 3; have zf4 := zf 4
  clear zf
  go_wp2_with fail
  have hr5 := put5_cells n2 (.int .i64 6) (.int .i64 0) (.string ⟨#[]⟩) (.slice (some ⟨g1, 0, none⟩) ns.length cap1) (.slice ao2 m ci2)
  have r0 := hr5 0; have r1 := hr5 1; have r2 := hr5 2; have r3 := hr5 3; have r4 := hr5 4
  clear hr5
  refine bodyPost_ret (v := .agg #[.int .i64 6, .int .i64 0, .string ⟨#[]⟩, .slice (some ⟨g1, 0, none⟩) ns.length cap1, .slice ao2 m ci2]) (by simp [results, Tryz.results10, go_sem, r0, r1, r2, r3, r4]) rfl ?_
  have h1 := hg1.out
  have h2 := hs0.out
  have h3 := hs1.out
  exact ⟨g1, cap1, ao2, ci2, rfl, hB2.trans (put5_below (Nat.le_refl _) _ _ _ _ _), ownsRow_lo (ownsRow_keep ho1'.out (fun j hj => put5_far _ _ _ _ _ (by have := ownsRow_ge ho1'.out hj; omega))) (by omega), ownsRow_lo (ownsRow_keep ho2.out (fun j hj => put5_far _ _ _ _ _ (by have := hsep.out j hj; omega))) (by omega)⟩
set_option maxHeartbeats 1000000 in
set_option maxRecDepth 100000 in
theorem listed_code (ao : Option Addr) (m ci lo' : Nat) (xs : List Value) (w : World) (hR : Hid (w.ownsRow lo' 26 5 (.slice ao m ci) m xs)) (h1 : Hid (∀ u ∈ xs, u.oneCell' = true)) (hm : m * 80 ≤ 140737488355328) :
    Calls Tryz.prog 11 #[.slice ao m ci] w (ListedAt w m xs) := by
  have n0 := heap_alloc_new w (.cells #[.int .i64 0, .int .i64 0, .string ⟨#[]⟩, .slice none 0 0, .slice none 0 0] 26)
  have hB0 : Below w.heap.size w (w.alloc (.cells #[.int .i64 0, .int .i64 0, .string ⟨#[]⟩, .slice none 0 0, .slice none 0 0] 26)) := (Below.refl _ _).alloc (Nat.le_refl _) _
  replace hR := hid_e (hR.out.alloc (.cells #[.int .i64 0, .int .i64 0, .string ⟨#[]⟩, .slice none 0 0, .slice none 0 0] 26))
  go_enter Tryz.func11, Tryz.ntmps11
  go_upto_region 1 with fail
  generalize w.alloc (.cells #[.int .i64 0, .int .i64 0, .string ⟨#[]⟩, .slice none 0 0, .slice none 0 0] 26) = X1 at n0 hB0 hR ⊢
  have hs0 : Hid (w.heap.size < X1.heap.size) := (Array.getElem?_eq_some_iff.1 n0).1
  go_wp2_with fail
  refine (clone_items ao m ci lo' xs X1 hR h1 hm).mono ?_
  rintro e X2 ⟨ao2, ci2, rfl, ho2, hb2⟩
  have n2 := (hb2.block _ hs0.out).trans n0
  have hB2 := hB0.trans (hb2.mono hB0.size)
  have hsep : Hid (∀ j, (Value.slice ao2 m ci2).ownBlock = some j → X1.heap.size ≤ j) := fun j hj => (ownsRow_ge ho2 hj).1
  replace ho2 := hid_e ho2
  clear n0 hR hb2 hB0
  obtain ⟨z0, z1, z2, z3, z4, zf⟩ := row_cells n2
  have zf0 := zf 0; have zf1 := zf 1; have zf2 := zf 2; have zf3 := zf 3; have zf4 := zf 4
  clear zf
  go_wp2_with fail
  have hr5 := put5_cells n2 (.int .i64 5) (.int .i64 0) (.string ⟨#[]⟩) (.slice none 0 0) (.slice ao2 m ci2)
  have r0 := hr5 0; have r1 := hr5 1; have r2 := hr5 2; have r3 := hr5 3; have r4 := hr5 4
  clear hr5
  refine bodyPost_ret (v := .agg #[.int .i64 5, .int .i64 0, .string ⟨#[]⟩, .slice none 0 0, .slice ao2 m ci2]) (by simp [results, Tryz.results11, go_sem, r0, r1, r2, r3, r4]) rfl ?_
  have h2 := hs0.out
  exact ⟨ao2, ci2, rfl, hB2.trans (put5_below (Nat.le_refl _) _ _ _ _ _), ownsRow_lo (ownsRow_keep ho2.out (fun j hj => put5_far _ _ _ _ _ (by have := hsep.out j hj; omega))) (by omega)⟩
end Go.Proofs.YtnhijkmddfhcbaaGreatDoor.Tree
/-! shallow: a Value's own lists are written full, and grown; nothing else is written. -/
namespace Go.Proofs.YtnhijkmddfhcbaaGreatDoor.Tree
open Go Go.RowKit

/-- All that was there is as it was, but for two blocks. -/
structure Kp2 (a b : Option Nat) (w w' : World) : Prop where
  os : w'.os = w.os
  tape : w'.tape = w.tape
  output : w'.output = w.output
  size : w.heap.size ≤ w'.heap.size
  block : ∀ k, k < w.heap.size → some k ≠ a → some k ≠ b → w'.heap[k]? = w.heap[k]?
theorem grown_trans {w w1 w2 : World} {r : Option Nat} (h1 : w.grownBy w1 r) (h2 : w1.grownBy w2 r) : w.grownBy w2 r :=
  ⟨h2.os.trans h1.os, h2.tape.trans h1.tape, h2.output.trans h1.output, Nat.le_trans h1.size h2.size, fun k hk hne => (h2.block k (Nat.lt_of_lt_of_le hk h1.size) hne).trans (h1.block k hk hne)⟩
theorem store5 {w : World} {lo : Nat} {e : TypeId} {g m ci : Nat} {xs : List Value} (h : w.ownsRow lo e 5 (.slice (some ⟨g, 0, none⟩) m ci) m xs) (i : Nat) (a0 a1 a2 a3 a4 : Value) :
    (∃ ys, (((((w.setCell ⟨g, i, none⟩ a0).setCell ⟨g, i + 1, none⟩ a1).setCell ⟨g, i + 2, none⟩ a2).setCell ⟨g, i + 3, none⟩ a3).setCell ⟨g, i + 4, none⟩ a4).ownsRow lo e 5 (.slice (some ⟨g, 0, none⟩) m ci) m ys) ∧
      w.grownBy (((((w.setCell ⟨g, i, none⟩ a0).setCell ⟨g, i + 1, none⟩ a1).setCell ⟨g, i + 2, none⟩ a2).setCell ⟨g, i + 3, none⟩ a3).setCell ⟨g, i + 4, none⟩ a4) (some g) := by
  have s0 := h.stored i a0
  have s1 := s0.1.stored (i + 1) a1
  have s2 := s1.1.stored (i + 2) a2
  have s3 := s2.1.stored (i + 3) a3
  have s4 := s3.1.stored (i + 4) a4
  exact ⟨⟨_, s4.1⟩, grown_trans (grown_trans (grown_trans (grown_trans s0.2 s1.2) s2.2) s3.2) s4.2⟩
theorem row_at5 {W : World} {lo : Nat} {e : TypeId} {g n cap : Nat} {xs : List Value} (h : W.ownsRow lo e 5 (.slice (some ⟨g, 0, none⟩) n cap) n xs) (j : Nat) (hj : j < n * 5) : ∃ u, W.cell? ⟨g, j, none⟩ = some u := by
  rw [World.ownsRow.cellAt h j hj]
  exact ⟨_, List.getElem?_eq_getElem (by rw [h.1]; exact hj)⟩
/-- Rows of unlike types lie apart. -/
theorem rows_apart {w : World} {lo lo' : Nat} {e e' : TypeId} {size size' : Nat} {v v' : Value} {n n' : Nat} {xs xs' : List Value} (h : w.ownsRow lo e size v n xs) (h' : w.ownsRow lo' e' size' v' n' xs') (hne : e ≠ e') : v.ownBlock = none ∨ v.ownBlock ≠ v'.ownBlock := by
  rcases h.2 with ⟨rfl, _⟩ | ⟨g, cap, cur, rfl, hg, hh, _⟩
  · exact .inl rfl
  · refine .inr (fun eq => ?_)
    rcases h'.2 with ⟨rfl, _⟩ | ⟨g', cap', cur', rfl, hg', hh', _⟩
    · simp [Value.ownBlock] at eq
    · simp only [Value.ownBlock, Option.some.injEq] at eq
      subst eq
      rw [hh] at hh'
      simp only [Option.some.injEq, Obj.cells.injEq] at hh'
      exact hne hh'.2.1
theorem row_box {w : World} {lo : Nat} {v : Value} {n B : Nat} {xs : List Value} {b : Array Value} (h : w.ownsRow lo 9 1 v n xs) (hx : w.heap[B]? = some (.cells b 26 (0, 0))) : ∀ j, v.ownBlock = some j → j ≠ B := by
  intro j hj e
  subst e
  rcases h.2 with ⟨rfl, _⟩ | ⟨g', cap', cur, rfl, hg, hh, _⟩
  · cases hj
  · cases hj
    rw [hx] at hh
    simp at hh
/-- shallow on its way, at the last loop. -/
structure Sh (w : World) (g : Nat) (r0 : Option Nat) (lo lo' : Nat) (k x : Int) (s : ByteArray) (n m : Nat) (nv iv : Value) (wr : World) : Prop where
  kp : Kp2 (some g) r0 w wr
  box : wr.heap[w.heap.size]? = some (.cells #[.int .i64 k, .int .i64 x, .string s, nv, iv] 26 (0, 0))
  own1 : ∃ ys, wr.ownsRow lo 9 1 nv n ys
  own2 : ∃ ys, wr.ownsRow lo' 26 5 iv m ys
  off : iv.ownBlock ≠ some w.heap.size
  pos1 : ∀ j, nv.ownBlock = some j → j = g ∨ w.heap.size ≤ j
  pos2 : ∀ j, iv.ownBlock = some j → r0 = some j ∨ w.heap.size ≤ j
theorem Kp2.grown {w wr wz : World} {a b r : Option Nat} (h : Kp2 a b w wr) (hg : wr.grownBy wz r) (hr : ∀ j, r = some j → (a = some j ∨ b = some j) ∨ w.heap.size ≤ j) : Kp2 a b w wz :=
  ⟨hg.os.trans h.os, hg.tape.trans h.tape, hg.output.trans h.output, Nat.le_trans h.size hg.size, fun k hk ha hb => (hg.block k (Nat.lt_of_lt_of_le hk h.size) (fun e => by
    rcases hr k e.symm with (h1 | h1) | h1
    · exact ha h1.symm
    · exact hb h1.symm
    · omega)).trans (h.block k hk ha hb)⟩
theorem grown_box (w : World) (B j : Nat) (u : Value) : w.grownBy (w.setCell ⟨B, j, none⟩ u) (some B) :=
  ⟨rfl, rfl, rfl, by simp, fun k _ hk => Below.heap_setCell _ _ _ _ (fun e => hk (by rw [e]))⟩
/-- One item more. -/
theorem Sh.item {w wr wa : World} {g : Nat} {r0 : Option Nat} {lo lo' : Nat} {k x : Int} {s : ByteArray} {n m : Nat} {nv iv : Value} {ys : List Value} {ga cap : Nat} (h : Sh w g r0 lo lo' k x s n m nv iv wr) (o : Obj)
    (ho : wa.ownsRow lo' 26 5 (.slice (some ⟨ga, 0, none⟩) (m + 1) cap) (m + 1) ys) (hg : (wr.alloc o).grownBy wa iv.ownBlock) (hat : iv.ownBlock = some ga ∨ ga = (wr.alloc o).heap.size) :
    wa.heap[w.heap.size]? = some (.cells #[.int .i64 k, .int .i64 x, .string s, nv, iv] 26 (0, 0)) ∧ Sh w g r0 lo lo' k x s n (m + 1) nv (.slice (some ⟨ga, 0, none⟩) (m + 1) cap) (wa.setCell ⟨w.heap.size, 4, none⟩ (.slice (some ⟨ga, 0, none⟩) (m + 1) cap)) := by
  have hlt := (Array.getElem?_eq_some_iff.1 h.box).1
  have hga : ga ≠ w.heap.size := by
    rcases hat with e | e
    · intro e'; exact h.off (by rw [e, e'])
    · rw [World.size_alloc] at e; omega
  have hpos : ∀ j, (Value.slice (some ⟨ga, 0, none⟩) (m + 1) cap).ownBlock = some j → r0 = some j ∨ w.heap.size ≤ j := fun j hj => by
    cases hj
    rcases hat with e | e
    · exact h.pos2 _ e
    · rw [World.size_alloc] at e; exact .inr (by show w.heap.size ≤ ga; omega)
  have hbox : wa.heap[w.heap.size]? = some (.cells #[.int .i64 k, .int .i64 x, .string s, nv, iv] 26 (0, 0)) := (hg.block _ (by rw [World.size_alloc]; omega) (fun e => h.off e.symm)).trans ((Below.heap_alloc wr o _ hlt).trans h.box)
  obtain ⟨zs, hz⟩ := h.own1
  obtain ⟨us, hu⟩ := h.own2
  refine ⟨hbox, ⟨?_, ?_, ⟨zs, ?_⟩, ⟨ys, ?_⟩, ?_, h.pos1, hpos⟩⟩
  · refine (Kp2.grown (r := iv.ownBlock) (wz := wa) ⟨hg.os.trans h.kp.os, hg.tape.trans h.kp.tape, hg.output.trans h.kp.output, Nat.le_trans h.kp.size (Nat.le_trans (by rw [World.size_alloc]; omega) hg.size), fun j hj ha hb => ?_⟩ (World.grownBy.refl _ _) (fun j hj => ?_)).grown (grown_box wa _ _ _) (fun j hj => .inr (by cases hj; exact Nat.le_refl _))
    · refine (hg.block j (by rw [World.size_alloc]; have := h.kp.size; omega) (fun e => ?_)).trans ((Below.heap_alloc wr o j (Nat.lt_of_lt_of_le hj h.kp.size)).trans (h.kp.block j hj ha hb))
      rcases h.pos2 j e.symm with h1 | h1
      · exact hb h1.symm
      · omega
    · rcases h.pos2 j hj with h1 | h1
      · exact .inl (.inr h1)
      · exact .inr h1
  · simp [World.setCell, Array.getElem?_modify, hbox]
  · have hne := row_box hz h.box
    refine ownsRow_keep hz (fun j hj => (Below.heap_setCell _ _ _ _ (hne j hj)).trans ((hg.block j (by rw [World.size_alloc]; have := (ownsRow_ge hz hj).2; omega) (fun e => ?_)).trans (Below.heap_alloc wr o j (ownsRow_ge hz hj).2)))
    rcases rows_apart hz hu (by decide) with h1 | h1
    · rw [h1] at hj; cases hj
    · exact h1 (by rw [hj, e])
  · refine ownsRow_keep ho (fun j hj => Below.heap_setCell _ _ _ _ (fun e => ?_))
    cases hj
    exact hga e
  · simp only [Value.ownBlock, ne_eq, Option.some.injEq]
    exact hga
/-- One name more. -/
theorem Sh.name {w wr wa : World} {g : Nat} {r0 : Option Nat} {lo lo' : Nat} {k x : Int} {s : ByteArray} {n m : Nat} {nv iv : Value} {ys : List Value} {ga cap : Nat} (h : Sh w g r0 lo lo' k x s n m nv iv wr) (o : Obj)
    (ho : wa.ownsRow lo 9 1 (.slice (some ⟨ga, 0, none⟩) (n + 1) cap) (n + 1) ys) (hg : (wr.alloc o).grownBy wa nv.ownBlock) (hat : nv.ownBlock = some ga ∨ ga = (wr.alloc o).heap.size) :
    wa.heap[w.heap.size]? = some (.cells #[.int .i64 k, .int .i64 x, .string s, nv, iv] 26 (0, 0)) ∧ Sh w g r0 lo lo' k x s (n + 1) m (.slice (some ⟨ga, 0, none⟩) (n + 1) cap) iv (wa.setCell ⟨w.heap.size, 3, none⟩ (.slice (some ⟨ga, 0, none⟩) (n + 1) cap)) := by
  have hlt := (Array.getElem?_eq_some_iff.1 h.box).1
  obtain ⟨zs, hz⟩ := h.own1
  obtain ⟨us, hu⟩ := h.own2
  have hne := row_box hz h.box
  have hpos : ∀ j, (Value.slice (some ⟨ga, 0, none⟩) (n + 1) cap).ownBlock = some j → j = g ∨ w.heap.size ≤ j := fun j hj => by
    cases hj
    rcases hat with e | e
    · exact h.pos1 _ e
    · rw [World.size_alloc] at e; exact .inr (by show w.heap.size ≤ ga; omega)
  have hga : ga ≠ w.heap.size := by
    rcases hat with e | e
    · exact hne _ e
    · rw [World.size_alloc] at e; omega
  have hbox : wa.heap[w.heap.size]? = some (.cells #[.int .i64 k, .int .i64 x, .string s, nv, iv] 26 (0, 0)) := (hg.block _ (by rw [World.size_alloc]; omega) (fun e => hne _ e.symm rfl)).trans ((Below.heap_alloc wr o _ hlt).trans h.box)
  refine ⟨hbox, ⟨?_, ?_, ⟨ys, ?_⟩, ⟨us, ?_⟩, h.off, hpos, h.pos2⟩⟩
  · refine Kp2.grown (wr := wa) ⟨hg.os.trans h.kp.os, hg.tape.trans h.kp.tape, hg.output.trans h.kp.output, Nat.le_trans h.kp.size (Nat.le_trans (by rw [World.size_alloc]; omega) hg.size), fun j hj ha hb => ?_⟩ (grown_box wa _ _ _) (fun j hj => .inr (by cases hj; exact Nat.le_refl _))
    refine (hg.block j (by rw [World.size_alloc]; have := h.kp.size; omega) (fun e => ?_)).trans ((Below.heap_alloc wr o j (Nat.lt_of_lt_of_le hj h.kp.size)).trans (h.kp.block j hj ha hb))
    rcases h.pos1 j e.symm with h1 | h1
    · exact ha (by rw [h1])
    · omega
  · simp [World.setCell, Array.getElem?_modify, hbox]
  · refine ownsRow_keep ho (fun j hj => Below.heap_setCell _ _ _ _ (fun e => ?_))
    cases hj
    exact hga e
  · refine ownsRow_keep hu (fun j hj => (Below.heap_setCell _ _ _ _ (fun e => h.off (by rw [hj, e]))).trans ((hg.block j (by rw [World.size_alloc]; have := (ownsRow_ge hu hj).2; omega) (fun e => ?_)).trans (Below.heap_alloc wr o j (ownsRow_ge hu hj).2)))
    rcases rows_apart hz hu (by decide) with h1 | h1
    · rw [h1] at e; cases e
    · exact h1 (by rw [hj, e])
end Go.Proofs.YtnhijkmddfhcbaaGreatDoor.Tree
/-! shallow. -/
namespace Go.Proofs.YtnhijkmddfhcbaaGreatDoor.Tree
open Go Go.RowKit

set_option maxHeartbeats 8000000 in
set_option maxRecDepth 100000 in
theorem shallow_code (k x : Int) (s : ByteArray) (g n cn : Nat) (ys : List Value) (ao : Option Addr) (m ci : Nat) (xs : List Value) (lo lo' : Nat) (w : World) (hlo : lo ≤ w.heap.size) (hlo' : lo' ≤ w.heap.size)
    (hN : Hid (w.ownsRow lo 9 1 (.slice (some ⟨g, 0, none⟩) n cn) n ys)) (hR : Hid (w.ownsRow lo' 26 5 (.slice ao m ci) m xs)) (hn : (n + 16) * 16 ≤ 140737488355328) (hm : (m + 16) * 80 ≤ 140737488355328) :
    Calls Tryz.prog 12 #[.agg #[.int .i64 k, .int .i64 x, .string s, .slice (some ⟨g, 0, none⟩) n cn, .slice ao m ci]] w fun e w' => e = .returned (.tuple #[]) ∧ Kp2 (some g) (Value.slice ao m ci).ownBlock w w' := by
  obtain ⟨i9, hi9, hz0, hz1, hz2⟩ := info_parts A9
  obtain ⟨iV, hiV, hv0, hv1, hv2⟩ := info_parts AV
  have hbm : Hid (∀ q, q < 16 → m + q + 1 ≤ maxLen ∧ (m + q + 1) * 80 ≤ 140737488355328) := fun q hq => by unfold maxLen; omega
  have hbn : Hid (∀ q, q < 16 → n + q + 1 ≤ maxLen ∧ (n + q + 1) * 16 ≤ 140737488355328) := fun q hq => by unfold maxLen; omega
  have h51 : Hid (∀ u ∈ [Value.int .i64 9, .int .i64 0, .string ⟨#[]⟩, .slice none 0 0, .slice none 0 0], u.oneCell' = true) := five_one 9 0 ⟨#[]⟩ none 0 0 none 0 0
  have n0 := heap_alloc_new w (.cells #[.int .i64 k, .int .i64 x, .string s, .slice (some ⟨g, 0, none⟩) n cn, .slice ao m ci] 26)
  have hgl : Hid (g < w.heap.size) := (ownsRow_ge hN.out (g := g) rfl).2
  have hil : Hid (∀ j, (Value.slice ao m ci).ownBlock = some j → j < w.heap.size) := fun j hj => (ownsRow_ge hR.out hj).2
  have hap := hid_e (rows_apart hN.out hR.out (by decide))
  have hap2 : Hid ((Value.slice ao m ci).ownBlock = none ∨ (Value.slice ao m ci).ownBlock ≠ some g) := by
    rcases hap.out with h | h
    · exact absurd h (by simp [Value.ownBlock])
    · exact .inr (fun e => h e.symm)
  replace hN := hid_e (hN.out.alloc (.cells #[.int .i64 k, .int .i64 x, .string s, .slice (some ⟨g, 0, none⟩) n cn, .slice ao m ci] 26))
  replace hR := hid_e (hR.out.alloc (.cells #[.int .i64 k, .int .i64 x, .string s, .slice (some ⟨g, 0, none⟩) n cn, .slice ao m ci] 26))
  have hk0 : Hid (Kp2 (some g) (Value.slice ao m ci).ownBlock w (w.alloc (.cells #[.int .i64 k, .int .i64 x, .string s, .slice (some ⟨g, 0, none⟩) n cn, .slice ao m ci] 26))) := ⟨rfl, rfl, rfl, by rw [World.size_alloc]; omega, fun j hj _ _ => Below.heap_alloc _ _ _ hj⟩
  go_enter Tryz.func12, Tryz.ntmps12
  go_upto_region 1 with fail
  generalize w.alloc (.cells #[.int .i64 k, .int .i64 x, .string s, .slice (some ⟨g, 0, none⟩) n cn, .slice ao m ci] 26) = X0 at n0 hN hR hk0 ⊢
  have hX0 : Hid (w.heap.size < X0.heap.size) := (Array.getElem?_eq_some_iff.1 n0).1
  go_wp2_with fail
  go_loopw [2] (fun iv wr => ∃ i : Nat, i ≤ m ∧ iv = .int .i64 i ∧ ∃ zs, Hid (wr.ownsRow lo' 26 5 (.slice ao m ci) m zs) ∧ Hid (X0.grownBy wr (Value.slice ao m ci).ownBlock)) (fun iv _ => m - (intOf iv).toNat)
  case atStart => exact ⟨0, Nat.zero_le _, rfl, xs, hR, hid_e (World.grownBy.refl _ _)⟩
  case round =>
    obtain ⟨i, hi, rfl, zs, hO, hG⟩ := hrel
    have hbx := (hG.out.block _ hX0.out (fun e => by have := hil.out _ e.symm; omega)).trans n0
    obtain ⟨-, -, -, -, y4, -⟩ := row_cells hbx
    by_cases hlt : i < m
    · have i1 : (i : Int) < (m : Int) := by omega
      rcases id hO.out.2 with ⟨-, h0⟩ | ⟨gi, cap, cur, hv, -⟩
      · omega
      simp only [Value.slice.injEq] at hv
      obtain ⟨rfl, -, rfl⟩ := hv
      obtain ⟨u0, c0⟩ := row_at5 hO.out (i * 5) (by omega)
      have f0 := hO.out.frozenAt (i * 5)
      obtain ⟨u1, c1⟩ := row_at5 hO.out (i * 5 + 1) (by omega)
      have f1 := hO.out.frozenAt (i * 5 + 1)
      obtain ⟨u2, c2⟩ := row_at5 hO.out (i * 5 + 2) (by omega)
      have f2 := hO.out.frozenAt (i * 5 + 2)
      obtain ⟨u3, c3⟩ := row_at5 hO.out (i * 5 + 3) (by omega)
      have f3 := hO.out.frozenAt (i * 5 + 3)
      obtain ⟨u4, c4⟩ := row_at5 hO.out (i * 5 + 4) (by omega)
      have f4 := hO.out.frozenAt (i * 5 + 4)
      obtain ⟨⟨zs', s1⟩, s2⟩ := store5 hO.out (i * 5) (.int .i64 9) (.int .i64 0) (.string ⟨#[63]⟩) (.slice none 0 0) (.slice none 0 0)
      have hG2 : Hid _ := hid_e (grown_trans hG.out s2)
      replace s1 := hid_e s1
      clear s2
      go_wp2_with fail
      clear u0 u1 u2 u3 u4 c0 c1 c2 c3 c4 f0 f1 f2 f3 f4 y4
      go_roundw
      case rel => exact ⟨i + 1, by omega, by go_num, zs', s1, hG2⟩
      case measure => simp [intOf]; omega
    · obtain rfl : i = m := by omega
      clear hi hlt
      have hN1 := hid_e (hN.out.kept hG.out (hap.out))
      have hk1 := hid_e (hk0.out.grown hG.out (fun j hj => .inl (.inr hj)))
      have hX1 : Hid (w.heap.size < wr.heap.size) := Nat.lt_of_lt_of_le hX0.out hG.out.size
      replace hO := hid_e hO.out
      clear hG hk0 hN hR hX0 n0
      obtain ⟨-, -, -, y3, -, -⟩ := row_cells hbx
      go_wp2_with fail
      clear y3 y4
      generalize wr = X1 at hN1 hk1 hX1 hO hbx ⊢
      go_loopw [3] (fun iv wr => ∃ j : Nat, j ≤ n ∧ iv = .int .i64 j ∧ ∃ us, Hid (wr.ownsRow lo 9 1 (.slice (some ⟨g, 0, none⟩) n cn) n us) ∧ Hid (X1.grownBy wr (some g))) (fun iv _ => n - (intOf iv).toNat)
      case atStart => exact ⟨0, Nat.zero_le _, rfl, ys, hN1, hid_e (World.grownBy.refl _ _)⟩
      case round =>
        obtain ⟨j, hj, rfl, us, hU, hG⟩ := hrel
        have hby := (hG.out.block _ hX1.out (fun e => by have := hgl.out; cases e; omega)).trans hbx
        obtain ⟨-, -, -, y3, -, -⟩ := row_cells hby
        by_cases hlt : j < n
        · have i1 : (j : Int) < (n : Int) := by omega
          have hc : ∃ u, wr.cell? ⟨g, j, none⟩ = some u := by
            rw [World.ownsRow.cellAt hU.out j (by omega)]
            exact ⟨_, List.getElem?_eq_getElem (by rw [hU.out.1]; omega)⟩
          obtain ⟨u, c0⟩ := hc
          have f0 := hU.out.frozenAt j
          have s1 := hU.out.stored j (.string ⟨#[63]⟩)
          have hG2 := hid_e (grown_trans hG.out s1.2)
          have s2 := hid_e s1.1
          clear s1
          go_wp2_with fail
          clear c0 f0 y3
          go_roundw
          case rel => exact ⟨j + 1, by omega, by go_num, _, s2, hG2⟩
          case measure => simp [intOf]; omega
        · obtain rfl : j = n := by omega
          clear hj hlt
          have hO2 := hid_e (hO.out.kept (v := .slice ao i ci) hG.out hap2.out)
          have hSh0 : Hid (Sh w g (Value.slice ao i ci).ownBlock lo lo' k x s (j + 0) (i + 0) (.slice (some ⟨g, 0, none⟩) j cn) (.slice ao i ci) wr) :=
            ⟨hk1.out.grown hG.out (fun q hq => .inl (.inl hq)), hby, ⟨_, hU.out⟩, ⟨_, hO2.out⟩, fun e => by have := hil.out _ e; omega, fun q hq => .inl (by simpa [Value.ownBlock] using hq.symm), fun q hq => .inl hq⟩
          go_wp2_with fail
          clear y3
          generalize wr = X2 at hSh0 ⊢
          go_loopw [4] (fun iv wr => ∃ q : Nat, q ≤ 16 ∧ iv = .int .i64 q ∧ ∃ nv it, Hid (Sh w g (Value.slice ao i ci).ownBlock lo lo' k x s (j + q) (i + q) nv it wr)) (fun iv _ => 16 - (intOf iv).toNat)
          case atStart => exact ⟨0, Nat.zero_le _, rfl, _, _, hSh0⟩
          case round =>
            clear hSh0 hO hO2 hU hG hby hbx hN1 hk1
            obtain ⟨q, hq, rfl, nv, it, hS⟩ := hrel
            by_cases hlt : q < 16
            · have i1 : (q : Int) < 16 := by omega
              obtain ⟨vs, hown⟩ := hS.out.own2
              obtain ⟨us1, hown1⟩ := hS.out.own1
              obtain ⟨a4, c4, hit⟩ := ownsRow_slice hown
              obtain ⟨a3, c3, hnv⟩ := ownsRow_slice hown1
              subst hit hnv
              obtain ⟨-, -, -, -, y4, -⟩ := row_cells hS.out.box
              replace hown := hid_e hown
              clear hown1
              have hbs : Hid (lo' ≤ wr.heap.size + 1) := Nat.le_succ_of_le (Nat.le_trans hlo' hS.out.kp.size)
              go_upto_region 12 with fail
              go_upto_region 13 with (at_builtin; refine wpList_append_lies _ rfl _ _ 23 rfl lo' 26 iV _ 5 80 Tryz.underlying23 hiV hv0 hv1 hv2 rfl (by decide) _ (i + q) vs rfl (hown.out.alloc _) ⟨wr.heap.size, 0, none⟩ 1 1 [.int .i64 9, .int .i64 0, .string ⟨#[]⟩, .slice none 0 0, .slice none 0 0] rfl rfl (World.news_of_block (heap_alloc_new wr (.cells #[.int .i64 9, .int .i64 0, .string ⟨#[]⟩, .slice none 0 0, .slice none 0 0] 26))) h51.out (by decide) (hbm.out q hlt).1 (hbm.out q hlt).2 (by rw [World.size_alloc]; exact hbs.out) _ rfl ?_; intro ga capa Wa ho hgr hat hlta; obtain ⟨hbx, hS2⟩ := hS.out.item _ ho hgr hat; obtain ⟨-, -, -, -, z4, zf⟩ := row_cells hbx; have zf4 := zf 4; replace hS2 := hid_e hS2; clear zf y4 hown hS ho hgr hat hlta)
              clear z4 zf4 hbx
              generalize Wa.setCell ⟨w.heap.size, 4, none⟩ (.slice (some ⟨ga, 0, none⟩) (i + q + 1) capa) = Wb at hS2 ⊢
              have hbs2 : Hid (lo ≤ Wb.heap.size + 1) := Nat.le_succ_of_le (Nat.le_trans hlo hS2.out.kp.size)
              obtain ⟨us, hown⟩ := hS2.out.own1
              replace hown := hid_e hown
              obtain ⟨-, -, -, y3, -, -⟩ := row_cells hS2.out.box
              go_wp2_with (at_builtin; refine wpList_append_lies _ rfl _ _ 22 rfl lo 9 i9 _ 1 16 Tryz.underlying22 hi9 hz0 hz1 hz2 rfl (by decide) _ (j + q) us rfl (hown.out.alloc _) ⟨Wb.heap.size, 0, none⟩ 1 1 [.string ⟨#[63, 63]⟩] rfl rfl (World.news_of_block (heap_alloc_new Wb (.cells #[.string ⟨#[63, 63]⟩] 9))) (fun u hu => by obtain rfl := List.mem_singleton.1 hu; rfl) (by decide) (hbn.out q hlt).1 (hbn.out q hlt).2 (by rw [World.size_alloc]; exact hbs2.out) _ rfl ?_; intro gb capb Wc ho hgr hat hltb; obtain ⟨hbx, hS3⟩ := hS2.out.name _ ho hgr hat; obtain ⟨-, -, -, z3, -, zf⟩ := row_cells hbx; have zf3 := zf 3; replace hS3 := hid_e hS3; clear zf y3 hown hS2 ho hgr hat hltb)
              clear z3 zf3 hbx
              go_roundw
              case rel => exact ⟨q + 1, by omega, by go_num, _, _, hS3⟩
              case measure => simp [intOf]; omega
            · obtain rfl : q = 16 := by omega
              go_wp2_with fail
              go_end0
              exact ⟨rfl, hS.out.kp⟩
end Go.Proofs.YtnhijkmddfhcbaaGreatDoor.Tree
/-! What JsonvalMakes holds, and what keeps it. -/
namespace Go.Proofs.YtnhijkmddfhcbaaGreatDoor.Tree
open Go Go.RowKit

/-- What was there is as it was, but for certain blocks. -/
structure Chg (S : Nat → Prop) (w w' : World) : Prop where
  os : w'.os = w.os
  tape : w'.tape = w.tape
  output : w'.output = w.output
  size : w.heap.size ≤ w'.heap.size
  block : ∀ k, k < w.heap.size → ¬ S k → w'.heap[k]? = w.heap[k]?
theorem Chg.of_below {w w' : World} (h : Below w.heap.size w w') : Chg (fun _ => False) w w' := ⟨h.os, h.tape, h.output, h.size, fun k hk _ => h.block k hk⟩
theorem Chg.of_kp2 {a b : Option Nat} {w w' : World} (h : Kp2 a b w w') : Chg (fun j => a = some j ∨ b = some j) w w' := ⟨h.os, h.tape, h.output, h.size, fun k hk hn => h.block k hk (fun e => hn (.inl e.symm)) (fun e => hn (.inr e.symm))⟩
theorem Chg.cell {S : Nat → Prop} {w w' : World} (h : Chg S w w') {p : Addr} {u : Value} (hc : w.cell? p = some u) (hn : ¬ S p.block) : w'.cell? p = some u := (World.cell?_of_block (w := w) (h.block _ (lt_of_cell hc) hn)).trans hc
theorem Chg.obj {S : Nat → Prop} {w w' : World} (h : Chg S w w') {b : Nat} {o : Obj} (hc : w.heap[b]? = some o) (hn : ¬ S b) : w'.heap[b]? = some o := (h.block _ (Array.getElem?_eq_some_iff.1 hc).1 hn).trans hc
theorem Chg.row {S : Nat → Prop} {w w' : World} (h : Chg S w w') {lo : Nat} {e : TypeId} {size : Nat} {v : Value} {n : Nat} {xs : List Value} (ho : w.ownsRow lo e size v n xs) (hn : ∀ j, v.ownBlock = some j → ¬ S j) : w'.ownsRow lo e size v n xs :=
  ownsRow_keep ho (fun j hj => h.block j (ownsRow_ge ho hj).2 (hn j hj))
theorem Chg.agree {S T : Nat → Prop} {w w' w'' : World} (h : Chg S w w') (hn : ∀ j, T j → ¬ S j) (ha : Agree T w' w'') : Agree T w w'' := ⟨Nat.le_trans h.size ha.1, fun p u hp hc => ha.2 p u hp (h.cell hc (hn _ hp))⟩
theorem Chg.below {S : Nat → Prop} {w0 w w' : World} (h : Chg S w w') (hb : Below w0.heap.size w0 w) (hn : ∀ j, S j → w0.heap.size ≤ j) : Below w0.heap.size w0 w' :=
  ⟨h.os.trans hb.os, h.tape.trans hb.tape, h.output.trans hb.output, Nat.le_trans hb.size h.size, fun k hk => (h.block k (Nat.lt_of_lt_of_le hk hb.size) (fun e => by have := hn k e; omega)).trans (hb.block k hk)⟩
theorem reads_ownT {W : World} {lo : Nat} {nv : Value} {l : List ByteArray} (h : W.ownsRow lo 9 1 nv l.length (strs l)) : Reads W nv l := by
  rcases id h.2 with ⟨rfl, h0⟩ | ⟨g, cap, cur, rfl, -⟩
  · obtain rfl := List.eq_nil_of_length_eq_zero h0
    exact ⟨none, 0, rfl, ⟨Nat.le_refl _, by decide⟩, .inl rfl⟩
  · exact own_reads h (S := fun _ => True) trivial ⟨Nat.le_refl _, fun _ _ _ h => h⟩
theorem vrep_rows {W : World} {lo : Nat} {k x : Int} {s : ByteArray} {ns : List ByteArray} {its : List Tr} {xs : List Value} {nv : Value} {ao : Option Addr} {ci : Nat} (hN : Reads W nv ns) (hI : W.ownsRow lo 26 5 (.slice ao its.length ci) its.length xs) (hX : ItemsRep W its xs) :
    VRep W (.node k x s ns its) (five k x s nv (.slice ao its.length ci)) := by
  unfold VRep
  rcases id hI.2 with ⟨hv, h0⟩ | ⟨gi, ci', cur, hv, hg, hh, hc, hm, r⟩
  · have e := List.eq_nil_of_length_eq_zero h0
    subst e
    exact ⟨_, ao, ci, rfl, hN, ⟨Nat.zero_le _, by injection hv with _ _ h3; omega⟩, .inl rfl⟩
  · cases hv
    refine ⟨_, _, ci, rfl, hN, ⟨hc, by unfold maxLen at hm; omega⟩, .inr ⟨gi, 0, rfl, (Array.getElem?_eq_some_iff.1 hh).1, ?_⟩⟩
    exact ItemsRep.list its xs 0 hX (fun j u hj => by rw [Nat.zero_add]; exact row_cell hI j u hj)
/-- The list that was made, and the one that is wanted. -/
structure LAt (w : World) (g : Nat) (gi : Option Nat) (b9 b10 b11 b12 b13 : Nat) (its : List Tr) (xs : List Value) (al : Option Addr) (cl : Nat) (q : Array Value) (W : World) : Prop where
  below : Below w.heap.size w W
  x11 : W.heap[b11]? = some (.cells #[.int .i64 5, .int .i64 0, .string ⟨#[]⟩, .slice none 0 0, .slice al its.length cl] 26 (0, 0))
  x13 : W.heap[b13]? = some (.cells q 26 (0, 0))
  i11 : W.ownsRow (b10 + 1) 26 5 (.slice al its.length cl) its.length xs
  inner : ∀ W', Agree (fun j => w.heap.size ≤ j ∧ j < b9 ∧ j ≠ g ∧ gi ≠ some j) W W' → ItemsRep W' its xs
  s13 : Seen W (fun j => b12 < j) (.node 5 0 ⟨#[]⟩ [] its) q.toList
theorem LAt.keep {S : Nat → Prop} {w : World} {g : Nat} {gi : Option Nat} {b9 b10 b11 b12 b13 : Nat} {its : List Tr} {xs : List Value} {al : Option Addr} {cl : Nat} {q : Array Value} {W W' : World} (h : LAt w g gi b9 b10 b11 b12 b13 its xs al cl q W) (hc : Chg S W W')
    (hS : ∀ j, S j → w.heap.size ≤ j ∧ j < b10 ∧ (j < b9 → j = g ∨ gi = some j)) (h11 : b10 < b11) (h12 : b11 < b12) (h13 : b12 < b13) : LAt w g gi b9 b10 b11 b12 b13 its xs al cl q W' := by
  refine ⟨hc.below h.below (fun j hj => (hS j hj).1), hc.obj h.x11 (fun e => by have := hS _ e; omega), hc.obj h.x13 (fun e => by have := hS _ e; omega), hc.row h.i11 (fun j hj e => by have h1 := hS _ e; have h2 := ownsRow_ge h.i11 hj; omega), fun W'' ha => h.inner W'' (hc.agree (fun j hj e => ?_) ha), fun W'' ha => h.s13 W'' (hc.agree (fun j hj e => by have := hS _ e; omega) ha)⟩
  rcases (hS j e).2.2 hj.2.1 with h1 | h1
  · exact hj.2.2.1 h1
  · exact hj.2.2.2 h1
theorem LAt.list {w : World} {g : Nat} {gi : Option Nat} {b9 b10 b11 b12 b13 : Nat} {its : List Tr} {xs : List Value} {al : Option Addr} {cl : Nat} {q : Array Value} {W : World} (h : LAt w g gi b9 b10 b11 b12 b13 its xs al cl q W) : VRep W (.node 5 0 ⟨#[]⟩ [] its) (five 5 0 ⟨#[]⟩ (.slice none 0 0) (.slice al its.length cl)) :=
  vrep_rows ⟨none, 0, rfl, ⟨Nat.le_refl _, by decide⟩, .inl rfl⟩ h.i11 (h.inner W ⟨Nat.le_refl _, fun _ _ _ h => h⟩)
/-- The object too. -/
structure MkAt (w : World) (g : Nat) (gi : Option Nat) (b9 b10 b11 b12 b13 : Nat) (ns : List ByteArray) (its : List Tr) (xs : List Value) (go capo : Nat) (ao : Option Addr) (co : Nat) (al : Option Addr) (cl : Nat) (p q : Array Value) (W : World) : Prop where
  lat : LAt w g gi b9 b10 b11 b12 b13 its xs al cl q W
  x10 : W.heap[b10]? = some (.cells #[.int .i64 6, .int .i64 0, .string ⟨#[]⟩, .slice (some ⟨go, 0, none⟩) ns.length capo, .slice ao its.length co] 26 (0, 0))
  x12 : W.heap[b12]? = some (.cells p 26 (0, 0))
  n10 : W.ownsRow (b9 + 1) 9 1 (.slice (some ⟨go, 0, none⟩) ns.length capo) ns.length (strs ns)
  i10 : W.ownsRow (b9 + 1) 26 5 (.slice ao its.length co) its.length xs
  s12 : Seen W (fun j => b11 < j) (.node 6 0 ⟨#[]⟩ ns its) p.toList
theorem MkAt.keep {S : Nat → Prop} {w : World} {g : Nat} {gi : Option Nat} {b9 b10 b11 b12 b13 : Nat} {ns : List ByteArray} {its : List Tr} {xs : List Value} {go capo : Nat} {ao : Option Addr} {co : Nat} {al : Option Addr} {cl : Nat} {p q : Array Value} {W W' : World} (h : MkAt w g gi b9 b10 b11 b12 b13 ns its xs go capo ao co al cl p q W) (hc : Chg S W W')
    (hS : ∀ j, S j → w.heap.size ≤ j ∧ j < b9 ∧ (j = g ∨ gi = some j)) (h9 : b9 < b10) (h11 : b10 < b11) (h12 : b11 < b12) (h13 : b12 < b13) : MkAt w g gi b9 b10 b11 b12 b13 ns its xs go capo ao co al cl p q W' :=
  ⟨h.lat.keep hc (fun j hj => ⟨(hS j hj).1, by have := (hS j hj).2.1; omega, fun _ => (hS j hj).2.2⟩) h11 h12 h13, hc.obj h.x10 (fun e => by have := hS _ e; omega), hc.obj h.x12 (fun e => by have := hS _ e; omega), hc.row h.n10 (fun j hj e => by have h1 := hS _ e; have h2 := ownsRow_ge h.n10 hj; omega), hc.row h.i10 (fun j hj e => by have h1 := hS _ e; have h2 := ownsRow_ge h.i10 hj; omega), fun W'' ha => h.s12 W'' (hc.agree (fun j hj e => by have := hS _ e; omega) ha)⟩
theorem MkAt.more {w : World} {g : Nat} {gi : Option Nat} {b9 b10 b11 b12 b13 : Nat} {ns : List ByteArray} {its : List Tr} {xs : List Value} {go capo : Nat} {ao : Option Addr} {co : Nat} {al : Option Addr} {cl : Nat} {p q : Array Value} {W W' : World} (h : MkAt w g gi b9 b10 b11 b12 b13 ns its xs go capo ao co al cl p q W) (hb : Below W.heap.size W W') (h9 : b9 < b10) (h11 : b10 < b11) (h12 : b11 < b12) (h13 : b12 < b13) : MkAt w g gi b9 b10 b11 b12 b13 ns its xs go capo ao co al cl p q W' :=
  h.keep (Chg.of_below hb) (fun _ hj => hj.elim) h9 h11 h12 h13
theorem MkAt.obj {w : World} {g : Nat} {gi : Option Nat} {b9 b10 b11 b12 b13 : Nat} {ns : List ByteArray} {its : List Tr} {xs : List Value} {go capo : Nat} {ao : Option Addr} {co : Nat} {al : Option Addr} {cl : Nat} {p q : Array Value} {W : World} (h : MkAt w g gi b9 b10 b11 b12 b13 ns its xs go capo ao co al cl p q W) : VRep W (.node 6 0 ⟨#[]⟩ ns its) (five 6 0 ⟨#[]⟩ (.slice (some ⟨go, 0, none⟩) ns.length capo) (.slice ao its.length co)) :=
  vrep_rows (reads_ownT h.n10) h.i10 (h.lat.inner W ⟨Nat.le_refl _, fun _ _ _ h => h⟩)
/-- What was handed on to be spoilt too. -/
structure GAt (w : World) (g cap : Nat) (ag : Option Addr) (cg : Nat) (b9 b10 b11 b12 b13 : Nat) (ns : List ByteArray) (its : List Tr) (xs : List Value) (go capo : Nat) (ao : Option Addr) (co : Nat) (al : Option Addr) (cl : Nat) (p q : Array Value) (W : World) : Prop where
  all : MkAt w g (Value.slice ag its.length cg).ownBlock b9 b10 b11 b12 b13 ns its xs go capo ao co al cl p q W
  x9 : W.heap[b9]? = some (.cells #[.int .i64 0, .int .i64 0, .string ⟨#[]⟩, .slice (some ⟨g, 0, none⟩) ns.length cap, .slice ag its.length cg] 26 (0, 0))
  n9 : W.ownsRow w.heap.size 9 1 (.slice (some ⟨g, 0, none⟩) ns.length cap) ns.length (strs ns)
  i9 : W.ownsRow w.heap.size 26 5 (.slice ag its.length cg) its.length xs
theorem GAt.more {w : World} {g cap : Nat} {ag : Option Addr} {cg : Nat} {b9 b10 b11 b12 b13 : Nat} {ns : List ByteArray} {its : List Tr} {xs : List Value} {go capo : Nat} {ao : Option Addr} {co : Nat} {al : Option Addr} {cl : Nat} {p q : Array Value} {W W' : World} (h : GAt w g cap ag cg b9 b10 b11 b12 b13 ns its xs go capo ao co al cl p q W) (hb : Below W.heap.size W W') (h9 : b9 < b10 ∧ b10 < b11 ∧ b11 < b12 ∧ b12 < b13) : GAt w g cap ag cg b9 b10 b11 b12 b13 ns its xs go capo ao co al cl p q W' :=
  ⟨h.all.more hb h9.1 h9.2.1 h9.2.2.1 h9.2.2.2, (hb.block _ (Array.getElem?_eq_some_iff.1 h.x9).1).trans h.x9, ownsRow_below h.n9 hb, ownsRow_below h.i9 hb⟩
theorem GAt.drew {w : World} {g cap : Nat} {ag : Option Addr} {cg : Nat} {b9 b10 b11 b12 b13 : Nat} {ns : List ByteArray} {its : List Tr} {xs : List Value} {go capo : Nat} {ao : Option Addr} {co : Nat} {al : Option Addr} {cl : Nat} {p q : Array Value} {W : World} (h : GAt w g cap ag cg b9 b10 b11 b12 b13 ns its xs go capo ao co al cl p q W) (h9 : b9 < b10 ∧ b10 < b11 ∧ b11 < b12 ∧ b12 < b13) : GAt w g cap ag cg b9 b10 b11 b12 b13 ns its xs go capo ao co al cl p q W.drew :=
  h.more (below_drew (Below.refl _ _)) h9
theorem GAt.given {w : World} {g cap : Nat} {ag : Option Addr} {cg : Nat} {b9 b10 b11 b12 b13 : Nat} {ns : List ByteArray} {its : List Tr} {xs : List Value} {go capo : Nat} {ao : Option Addr} {co : Nat} {al : Option Addr} {cl : Nat} {p q : Array Value} {W : World} (h : GAt w g cap ag cg b9 b10 b11 b12 b13 ns its xs go capo ao co al cl p q W) : VRep W (.node 0 0 ⟨#[]⟩ ns its) (five 0 0 ⟨#[]⟩ (.slice (some ⟨g, 0, none⟩) ns.length cap) (.slice ag its.length cg)) :=
  vrep_rows (reads_ownT h.n9) h.i9 (h.all.lat.inner W ⟨Nat.le_refl _, fun _ _ _ h => h⟩)
/-- Another kind, the same lists. -/
theorem vrep_kind {W : World} {k x : Int} {s : ByteArray} {ns : List ByteArray} {its : List Tr} {nm : Value} {a : Option Addr} {c : Nat} (h : VRep W (.node k x s ns its) (five k x s nm (.slice a its.length c))) (k' x' : Int) (s' : ByteArray) : VRep W (.node k' x' s' ns its) (five k' x' s' nm (.slice a its.length c)) := by
  unfold VRep at h ⊢
  obtain ⟨nm', a', c', e, h2, h3, h4⟩ := h
  simp only [five, List.cons.injEq, Value.slice.injEq, true_and, and_true] at e
  obtain ⟨rfl, rfl, rfl⟩ := e
  exact ⟨nm, a, c, rfl, h2, h3, h4⟩
theorem vrep_items {W : World} {k x : Int} {s : ByteArray} {ns : List ByteArray} {its : List Tr} {nm : Value} {a : Option Addr} {c : Nat} (h : VRep W (.node k x s ns its) (five k x s nm (.slice a its.length c))) (k' x' : Int) (s' : ByteArray) : VRep W (.node k' x' s' [] its) (five k' x' s' (.slice none 0 0) (.slice a its.length c)) := by
  unfold VRep at h ⊢
  obtain ⟨nm', a', c', e, h2, h3, h4⟩ := h
  simp only [five, List.cons.injEq, Value.slice.injEq, true_and, and_true] at e
  obtain ⟨rfl, rfl, rfl⟩ := e
  exact ⟨_, a, c, rfl, ⟨none, 0, rfl, ⟨Nat.le_refl _, by decide⟩, .inl rfl⟩, h3, h4⟩
theorem vrep_leaf (W : World) (k x : Int) (s : ByteArray) : VRep W (.node k x s [] []) (five k x s (.slice none 0 0) (.slice none 0 0)) := by
  unfold VRep
  exact ⟨_, none, 0, rfl, ⟨none, 0, rfl, ⟨Nat.le_refl _, by decide⟩, .inl rfl⟩, ⟨Nat.le_refl _, by decide⟩, .inl rfl⟩
set_option maxHeartbeats 1000000 in
set_option maxRecDepth 100000 in
theorem of_code (n : Int) (w : World) : Calls Tryz.prog 6 #[.int .i64 n] w fun e w' => e = .returned (.agg #[.int .i64 3, .int .i64 n, .string ⟨#[]⟩, .slice none 0 0, .slice none 0 0]) ∧ Below w.heap.size w w' := by
  have hB : Below w.heap.size w (w.alloc (.cells #[.int .i64 3, .int .i64 n, .string ⟨#[]⟩, .slice none 0 0, .slice none 0 0] 26)) := (Below.refl _ _).alloc (Nat.le_refl _) _
  obtain ⟨r0, r1, r2, r3, r4, -⟩ := row_cells (heap_alloc_new w (.cells #[.int .i64 3, .int .i64 n, .string ⟨#[]⟩, .slice none 0 0, .slice none 0 0] 26))
  go_enter Tryz.func6, Tryz.ntmps6
  go_wp2_with fail
  refine bodyPost_ret (v := .agg #[.int .i64 3, .int .i64 n, .string ⟨#[]⟩, .slice none 0 0, .slice none 0 0]) (by simp [results, Tryz.results6, go_sem, r0, r1, r2, r3, r4]) rfl ?_
  exact ⟨rfl, hB⟩
set_option maxHeartbeats 1000000 in
set_option maxRecDepth 100000 in
theorem word_code (t : ByteArray) (w : World) : Calls Tryz.prog 7 #[.string t] w fun e w' => e = .returned (.agg #[.int .i64 4, .int .i64 0, .string t, .slice none 0 0, .slice none 0 0]) ∧ Below w.heap.size w w' := by
  have hB : Below w.heap.size w (w.alloc (.cells #[.int .i64 4, .int .i64 0, .string t, .slice none 0 0, .slice none 0 0] 26)) := (Below.refl _ _).alloc (Nat.le_refl _) _
  obtain ⟨r0, r1, r2, r3, r4, -⟩ := row_cells (heap_alloc_new w (.cells #[.int .i64 4, .int .i64 0, .string t, .slice none 0 0, .slice none 0 0] 26))
  go_enter Tryz.func7, Tryz.ntmps7
  go_wp2_with fail
  refine bodyPost_ret (v := .agg #[.int .i64 4, .int .i64 0, .string t, .slice none 0 0, .slice none 0 0]) (by simp [results, Tryz.results7, go_sem, r0, r1, r2, r3, r4]) rfl ?_
  exact ⟨rfl, hB⟩
set_option maxHeartbeats 1000000 in
set_option maxRecDepth 100000 in
theorem flag_true (w : World) : Calls Tryz.prog 8 #[.bool true] w fun e w' => e = .returned (.agg #[.int .i64 2, .int .i64 0, .string ⟨#[]⟩, .slice none 0 0, .slice none 0 0]) ∧ Below w.heap.size w w' := by
  have hB : Below w.heap.size w (w.alloc (.cells #[.int .i64 2, .int .i64 0, .string ⟨#[]⟩, .slice none 0 0, .slice none 0 0] 26)) := (Below.refl _ _).alloc (Nat.le_refl _) _
  obtain ⟨r0, r1, r2, r3, r4, -⟩ := row_cells (heap_alloc_new w (.cells #[.int .i64 2, .int .i64 0, .string ⟨#[]⟩, .slice none 0 0, .slice none 0 0] 26))
  go_enter Tryz.func8, Tryz.ntmps8
  go_wp2_with fail
  refine bodyPost_ret (v := .agg #[.int .i64 2, .int .i64 0, .string ⟨#[]⟩, .slice none 0 0, .slice none 0 0]) (by simp [results, Tryz.results8, go_sem, r0, r1, r2, r3, r4]) rfl ?_
  exact ⟨rfl, hB⟩
set_option maxHeartbeats 1000000 in
set_option maxRecDepth 100000 in
theorem flag_false (w : World) : Calls Tryz.prog 8 #[.bool false] w fun e w' => e = .returned (.agg #[.int .i64 1, .int .i64 0, .string ⟨#[]⟩, .slice none 0 0, .slice none 0 0]) ∧ Below w.heap.size w w' := by
  have hB : Below w.heap.size w (w.alloc (.cells #[.int .i64 1, .int .i64 0, .string ⟨#[]⟩, .slice none 0 0, .slice none 0 0] 26)) := (Below.refl _ _).alloc (Nat.le_refl _) _
  obtain ⟨r0, r1, r2, r3, r4, -⟩ := row_cells (heap_alloc_new w (.cells #[.int .i64 1, .int .i64 0, .string ⟨#[]⟩, .slice none 0 0, .slice none 0 0] 26))
  go_enter Tryz.func8, Tryz.ntmps8
  go_wp2_with fail
  refine bodyPost_ret (v := .agg #[.int .i64 1, .int .i64 0, .string ⟨#[]⟩, .slice none 0 0, .slice none 0 0]) (by simp [results, Tryz.results8, go_sem, r0, r1, r2, r3, r4]) rfl ?_
  exact ⟨rfl, hB⟩
end Go.Proofs.YtnhijkmddfhcbaaGreatDoor.Tree
