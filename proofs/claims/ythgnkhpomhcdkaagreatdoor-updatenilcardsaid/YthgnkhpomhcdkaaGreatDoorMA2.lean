import Derived.Test.YthgnkhpomhcdkaaGreatDoorMA1
import Derived.Deep.AppendLies
import Derived.Laws.OwnMore
import Derived.Lib.LazyBuf
/-! slices.Clone of names and of items; jsonval's Named and Listed. -/
namespace Go.Proofs.YthgnkhpomhcdkaaGreatDoor.Tree
open Go Go.RowKit

theorem wpList_append_zero {P : Program} {ops : Array Oper} {rest : List Oper} {o : Oper} {a : Act} {Q : Exit → Act → World → Prop} (w : World) (hgd : o.guard = none) (s y : Operand) (t : TypeId)
    (ho : o.op = .call { callee := .builtin .append, args := #[s, y], argTypes := #[t, t] }) (e : TypeId) (i : TypeInfo) (ht : P.underlying t = some (.slice e)) (hi : P.info? e = some i)
    (g n cap : Nat) (hn : n ≤ cap) (hse : a.eval s = .slice (some ⟨g, 0, none⟩) n cap) (ax : Option Addr) (c : Nat) (hx : a.eval y = .slice ax 0 c)
    (h : wpList P ops Q rest (a.put o.dst (.slice (some ⟨g, 0, none⟩) n cap)) w) : wpList P ops Q (o :: rest) a w :=
  wpList_plain hgd fun K hK => by
    have hr := run_append_none (P := P) w t o.type e i ht hi g n cap hn ax c
    unfold Oper.wp execOp
    simp only [ho, resolve, invoke, builtin, Sem.run_bind, Sem.run_pure, Result.andThen_ok, List.map_toArray, List.map_cons, List.map_nil, hse, hx, hr]
    exact hK _ _ h
theorem owns_emptyV (w : World) (e : TypeId) (size : Nat) : (w.alloc (.cells #[] e)).ownsRow w.heap.size e size (.slice (some ⟨w.heap.size, 0, none⟩) 0 0) 0 [] :=
  ⟨by simp, .inr ⟨w.heap.size, 0, #[], rfl, Nat.le_refl _, heap_alloc_new w _, Nat.le_refl _, Nat.zero_le _, by simp, by simp⟩⟩
set_option maxHeartbeats 1000000 in
set_option maxRecDepth 100000 in
theorem clone_names (g cap lo : Nat) (l : List ByteArray) (w : World) (hR : Hid (w.ownsRow lo 9 1 (.slice (some ⟨g, 0, none⟩) l.length cap) l.length (strs l))) (hl : l.length * 16 ≤ 140737488355328) :
    Calls Tryz.prog 329 #[.slice (some ⟨g, 0, none⟩) l.length cap] w fun e w' => ∃ g' cap', e = .returned (.slice (some ⟨g', 0, none⟩) l.length cap') ∧ w'.ownsRow w.heap.size 9 1 (.slice (some ⟨g', 0, none⟩) l.length cap') l.length (strs l) ∧ Below w.heap.size w w' := by
  obtain ⟨i9, hi9, hz0, hz1, hz2⟩ := info_parts A9
  have hq := run_eql_slice_nil (P := Tryz.prog) w 25 9 (some ⟨g, 0, none⟩) l.length cap Tryz.underlying25
  go_enter Tryz.func329, Tryz.ntmps329
  have hsl : (strs l).length = l.length := strs_length l
  obtain ⟨n, hn⟩ : ∃ n, l.length = n := ⟨_, rfl⟩
  rw [hn] at hR hl hq hsl ⊢
  by_cases h0 : n = 0
  · subst h0
    rw [List.eq_nil_of_length_eq_zero hsl]
    clear hR hsl hn
    go_wp2_with (at_builtin; refine wpList_append_zero _ rfl _ _ 25 rfl 9 i9 Tryz.underlying25 hi9 w.heap.size 0 0 (Nat.le_refl _) rfl _ _ rfl ?_)
    go_ret
    exact ⟨_, _, rfl, owns_emptyV w _ _, (Below.refl _ _).alloc (Nat.le_refl _) _⟩
  · go_wp2_with (at_builtin; refine wpList_append_lies _ rfl _ _ 25 rfl w.heap.size 9 i9 _ 1 16 Tryz.underlying25 hi9 hz0 hz1 hz2 rfl (by decide) _ 0 [] rfl (owns_emptyV w _ _) ⟨g, 0, none⟩ n cap (strs l) rfl (by omega) (fun j u hu => by rw [add_off, Nat.zero_add]; exact row_cell (hR.out.alloc _) j u hu) (strs1 l) (by omega) (by unfold maxLen; omega) (by omega) (by rw [World.size_alloc]; omega) _ rfl ?_; intro g' cap' W' ho hgr hat hlt)
    simp only [Nat.zero_add, List.nil_append] at ho ⊢
    have hb : Below w.heap.size w W' := ((Below.refl _ w).alloc (Nat.le_refl _) _).trans (grown_below hgr (by rw [World.size_alloc]; omega) (fun g hg => by cases hg; exact Nat.le_refl _))
    clear hgr hat hlt
    go_wp2_with fail
    go_ret
    exact ⟨g', cap', rfl, ho, hb⟩
theorem ItemsRep.one {W : World} : (ts : List Tr) → (xs : List Value) → ItemsRep W ts xs → ∀ u ∈ xs, u.oneCell' = true
  | [], xs, h, u, hu => by unfold ItemsRep at h; subst h; cases hu
  | t :: ts, xs, h, u, hu => by
    unfold ItemsRep at h
    obtain ⟨cs, r, rfl, -, h2, h3⟩ := h
    obtain ⟨k, x, s, an, ln, cn, ai, li, ci, rfl⟩ := vrep_five h2
    rcases List.mem_append.1 hu with hu | hu
    · exact five_one k x s an ln cn ai li ci u hu
    · exact ItemsRep.one ts r h3 u hu
set_option maxHeartbeats 1000000 in
set_option maxRecDepth 100000 in
theorem clone_items (ao : Option Addr) (m ci lo : Nat) (xs : List Value) (w : World) (hR : Hid (w.ownsRow lo 28 5 (.slice ao m ci) m xs)) (h1 : Hid (∀ u ∈ xs, u.oneCell' = true)) (hl : m * 80 ≤ 140737488355328) :
    Calls Tryz.prog 95 #[.slice ao m ci] w fun e w' => ∃ ao' ci', e = .returned (.slice ao' m ci') ∧ w'.ownsRow w.heap.size 28 5 (.slice ao' m ci') m xs ∧ Below w.heap.size w w' := by
  obtain ⟨i9, hi9, hz0, hz1, hz2⟩ := info_parts AV
  rcases id hR.out.2 with ⟨hv, h0⟩ | ⟨g, cap, cur, hv, -⟩
  · have e0 : xs = [] := List.eq_nil_of_length_eq_zero (by have := hR.out.1; omega)
    subst e0
    rw [hv, h0]
    have hq := run_eql_slice_nil (P := Tryz.prog) w 26 28 none 0 0 Tryz.underlying26
    go_enter Tryz.func95, Tryz.ntmps95
    go_wp2_with fail
    go_ret
    exact ⟨_, _, rfl, World.ownsRow_nil _ _ _ _, Below.refl _ _⟩
  · simp only [Value.slice.injEq] at hv
    obtain ⟨rfl, -, rfl⟩ := hv
    have hq := run_eql_slice_nil (P := Tryz.prog) w 26 28 (some ⟨g, 0, none⟩) m ci Tryz.underlying26
    go_enter Tryz.func95, Tryz.ntmps95
    by_cases h0 : m = 0
    · subst h0
      have e0 : xs = [] := List.eq_nil_of_length_eq_zero (by have := hR.out.1; omega)
      subst e0
      go_wp2_with (at_builtin; refine wpList_append_zero _ rfl _ _ 26 rfl 28 i9 Tryz.underlying26 hi9 w.heap.size 0 0 (Nat.le_refl _) rfl _ _ rfl ?_)
      go_ret
      exact ⟨_, _, rfl, owns_emptyV w _ _, (Below.refl _ _).alloc (Nat.le_refl _) _⟩
    · go_wp2_with (at_builtin; refine wpList_append_lies _ rfl _ _ 26 rfl w.heap.size 28 i9 _ 5 80 Tryz.underlying26 hi9 hz0 hz1 hz2 rfl (by decide) _ 0 [] rfl (owns_emptyV w _ _) ⟨g, 0, none⟩ m ci xs rfl hR.out.1 (fun j u hu => by rw [add_off, Nat.zero_add]; exact row_cell (hR.out.alloc _) j u hu) h1.out (by omega) (by unfold maxLen; omega) (by omega) (by rw [World.size_alloc]; omega) _ rfl ?_; intro g' cap' W' ho hgr hat hlt)
      simp only [Nat.zero_add, List.nil_append] at ho ⊢
      have hb : Below w.heap.size w W' := ((Below.refl _ w).alloc (Nat.le_refl _) _).trans (grown_below hgr (by rw [World.size_alloc]; omega) (fun g hg => by cases hg; exact Nat.le_refl _))
      clear hgr hat hlt
      go_wp2_with fail
      go_ret
      exact ⟨_, cap', rfl, ho, hb⟩
/-- What Named answers: lists of its own. -/
def NamedAt (w : World) (ns : List ByteArray) (m : Nat) (xs : List Value) (e : Ending) (w' : World) : Prop :=
  ∃ (g cap : Nat) (ao : Option Addr) (ci : Nat), e = .returned (.agg #[.int .i64 6, .int .i64 0, .string ⟨#[]⟩, .slice (some ⟨g, 0, none⟩) ns.length cap, .slice ao m ci]) ∧ Below w.heap.size w w' ∧
    w'.ownsRow w.heap.size 9 1 (.slice (some ⟨g, 0, none⟩) ns.length cap) ns.length (strs ns) ∧ w'.ownsRow w.heap.size 28 5 (.slice ao m ci) m xs
/-- What Listed answers. -/
def ListedAt (w : World) (m : Nat) (xs : List Value) (e : Ending) (w' : World) : Prop :=
  ∃ (ao : Option Addr) (ci : Nat), e = .returned (.agg #[.int .i64 5, .int .i64 0, .string ⟨#[]⟩, .slice none 0 0, .slice ao m ci]) ∧ Below w.heap.size w w' ∧ w'.ownsRow w.heap.size 28 5 (.slice ao m ci) m xs
set_option maxHeartbeats 1000000 in
set_option maxRecDepth 100000 in
theorem named_code (g cap lo : Nat) (ns : List ByteArray) (ao : Option Addr) (m ci lo' : Nat) (xs : List Value) (w : World) (hN : Hid (w.ownsRow lo 9 1 (.slice (some ⟨g, 0, none⟩) ns.length cap) ns.length (strs ns))) (hR : Hid (w.ownsRow lo' 28 5 (.slice ao m ci) m xs)) (h1 : Hid (∀ u ∈ xs, u.oneCell' = true)) (hl : ns.length * 16 ≤ 140737488355328) (hm : m * 80 ≤ 140737488355328) :
    Calls Tryz.prog 317 #[.slice (some ⟨g, 0, none⟩) ns.length cap, .slice ao m ci] w (NamedAt w ns m xs) := by
  have n0 := heap_alloc_new w (.cells #[.int .i64 0, .int .i64 0, .string ⟨#[]⟩, .slice none 0 0, .slice none 0 0] 28)
  have hB0 : Below w.heap.size w (w.alloc (.cells #[.int .i64 0, .int .i64 0, .string ⟨#[]⟩, .slice none 0 0, .slice none 0 0] 28)) := (Below.refl _ _).alloc (Nat.le_refl _) _
  replace hN := hid_e (hN.out.alloc (.cells #[.int .i64 0, .int .i64 0, .string ⟨#[]⟩, .slice none 0 0, .slice none 0 0] 28))
  replace hR := hid_e (hR.out.alloc (.cells #[.int .i64 0, .int .i64 0, .string ⟨#[]⟩, .slice none 0 0, .slice none 0 0] 28))
  go_enter Tryz.func317, Tryz.ntmps317
  go_upto_region 1 with fail
  generalize w.alloc (.cells #[.int .i64 0, .int .i64 0, .string ⟨#[]⟩, .slice none 0 0, .slice none 0 0] 28) = X0 at n0 hB0 hN hR ⊢
  have hs0 : Hid (w.heap.size < X0.heap.size) := (Array.getElem?_eq_some_iff.1 n0).1
  go_wp2_with fail
  refine (clone_names g cap lo ns X0 hN hl).mono ?_
  rintro e X1 ⟨g1, cap1, rfl, ho1, hb1⟩
  have n1 := (hb1.block _ hs0.out).trans n0
  replace hR := hid_e (ownsRow_below hR.out hb1)
  have hs1 := hid_e hb1.size
  have hg1 := hid_e (ownsRow_ge ho1 (g := g1) rfl)
  have hB1 := hB0.trans (hb1.mono hB0.size)
  replace ho1 := hid_e ho1
  clear n0 hN hb1 hB0
  go_wp2_with fail
  refine (clone_items ao m ci lo' xs X1 hR h1 hm).mono ?_
  rintro e X2 ⟨ao2, ci2, rfl, ho2, hb2⟩
  have n2 := (hb2.block _ (Array.getElem?_eq_some_iff.1 n1).1).trans n1
  have ho1' := hid_e (ownsRow_below ho1.out hb2)
  have hB2 := hB1.trans (hb2.mono hB1.size)
  have hsep : Hid (∀ j, (Value.slice ao2 m ci2).ownBlock = some j → X1.heap.size ≤ j) := fun j hj => (ownsRow_ge ho2 hj).1
  replace ho2 := hid_e ho2
  clear n1 hR hb2 hB1 ho1
  obtain ⟨z0, z1, z2, z3, z4, zf⟩ := row_cells n2
  have zf0 := zf 0; have zf1 := zf 1; have zf2 := zf 2; have zf3 := zf 3; have zf4 := zf 4
  clear zf
  go_wp2_with fail
  have hr5 := put5_cells n2 (.int .i64 6) (.int .i64 0) (.string ⟨#[]⟩) (.slice (some ⟨g1, 0, none⟩) ns.length cap1) (.slice ao2 m ci2)
  have r0 := hr5 0; have r1 := hr5 1; have r2 := hr5 2; have r3 := hr5 3; have r4 := hr5 4
  clear hr5
  refine bodyPost_ret (v := .agg #[.int .i64 6, .int .i64 0, .string ⟨#[]⟩, .slice (some ⟨g1, 0, none⟩) ns.length cap1, .slice ao2 m ci2]) (by simp [results, Tryz.results317, go_sem, r0, r1, r2, r3, r4]) rfl ?_
  have h1 := hg1.out
  have h2 := hs0.out
  have h3 := hs1.out
  exact ⟨g1, cap1, ao2, ci2, rfl, hB2.trans (put5_below (Nat.le_refl _) _ _ _ _ _), ownsRow_lo (ownsRow_keep ho1'.out (fun j hj => put5_far _ _ _ _ _ (by have := ownsRow_ge ho1'.out hj; omega))) (by omega), ownsRow_lo (ownsRow_keep ho2.out (fun j hj => put5_far _ _ _ _ _ (by have := hsep.out j hj; omega))) (by omega)⟩
set_option maxHeartbeats 1000000 in
set_option maxRecDepth 100000 in
theorem listed_code (ao : Option Addr) (m ci lo' : Nat) (xs : List Value) (w : World) (hR : Hid (w.ownsRow lo' 28 5 (.slice ao m ci) m xs)) (h1 : Hid (∀ u ∈ xs, u.oneCell' = true)) (hm : m * 80 ≤ 140737488355328) :
    Calls Tryz.prog 137 #[.slice ao m ci] w (ListedAt w m xs) := by
  have n0 := heap_alloc_new w (.cells #[.int .i64 0, .int .i64 0, .string ⟨#[]⟩, .slice none 0 0, .slice none 0 0] 28)
  have hB0 : Below w.heap.size w (w.alloc (.cells #[.int .i64 0, .int .i64 0, .string ⟨#[]⟩, .slice none 0 0, .slice none 0 0] 28)) := (Below.refl _ _).alloc (Nat.le_refl _) _
  replace hR := hid_e (hR.out.alloc (.cells #[.int .i64 0, .int .i64 0, .string ⟨#[]⟩, .slice none 0 0, .slice none 0 0] 28))
  go_enter Tryz.func137, Tryz.ntmps137
  go_upto_region 1 with fail
  generalize w.alloc (.cells #[.int .i64 0, .int .i64 0, .string ⟨#[]⟩, .slice none 0 0, .slice none 0 0] 28) = X1 at n0 hB0 hR ⊢
  have hs0 : Hid (w.heap.size < X1.heap.size) := (Array.getElem?_eq_some_iff.1 n0).1
  go_wp2_with fail
  refine (clone_items ao m ci lo' xs X1 hR h1 hm).mono ?_
  rintro e X2 ⟨ao2, ci2, rfl, ho2, hb2⟩
  have n2 := (hb2.block _ hs0.out).trans n0
  have hB2 := hB0.trans (hb2.mono hB0.size)
  have hsep : Hid (∀ j, (Value.slice ao2 m ci2).ownBlock = some j → X1.heap.size ≤ j) := fun j hj => (ownsRow_ge ho2 hj).1
  replace ho2 := hid_e ho2
  clear n0 hR hb2 hB0
  obtain ⟨z0, z1, z2, z3, z4, zf⟩ := row_cells n2
  have zf0 := zf 0; have zf1 := zf 1; have zf2 := zf 2; have zf3 := zf 3; have zf4 := zf 4
  clear zf
  go_wp2_with fail
  have hr5 := put5_cells n2 (.int .i64 5) (.int .i64 0) (.string ⟨#[]⟩) (.slice none 0 0) (.slice ao2 m ci2)
  have r0 := hr5 0; have r1 := hr5 1; have r2 := hr5 2; have r3 := hr5 3; have r4 := hr5 4
  clear hr5
  refine bodyPost_ret (v := .agg #[.int .i64 5, .int .i64 0, .string ⟨#[]⟩, .slice none 0 0, .slice ao2 m ci2]) (by simp [results, Tryz.results137, go_sem, r0, r1, r2, r3, r4]) rfl ?_
  have h2 := hs0.out
  exact ⟨ao2, ci2, rfl, hB2.trans (put5_below (Nat.le_refl _) _ _ _ _ _), ownsRow_lo (ownsRow_keep ho2.out (fun j hj => put5_far _ _ _ _ _ (by have := hsep.out j hj; omega))) (by omega)⟩
end Go.Proofs.YthgnkhpomhcdkaaGreatDoor.Tree
