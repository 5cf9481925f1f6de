import Derived.Test.YtgjemghfejaifaaGreatDoorSD
/-! schema: the makers that read no schemas: numbers, lists of values. -/
namespace Go.Proofs.YtgjemghfejaifaaGreatDoor
open Go Go.RowKit

/-- What a maker of numbers answers. -/
def boundZ (u : V5) (x : Int) : Int := if u.k = 3 ∧ x ≤ u.x then 0 else 210
def BoundPost (u : V5) (x : Int) (f : Nat) (t : TypeId) (w : World) (e : Ending) (w' : World) : Prop :=
  ∃ v z, e = .returned (.tuple #[v, .int .i64 z]) ∧ z = boundZ u x ∧ (z = 0 → v = .iface t (.agg #[.int .i64 u.x, fnV f])) ∧ Below w.heap.size w w'
theorem bound_no {u : V5} {x : Int} {f : Nat} {t : TypeId} {w w' : World} (h : ¬ (u.k = 3 ∧ x ≤ u.x)) (hb : Below w.heap.size w w') : BoundPost u x f t w (.returned (.tuple #[.nilIface, .int .i64 210])) w' :=
  ⟨_, _, rfl, by unfold boundZ; rw [if_neg h], (fun e => by cases e), hb⟩
theorem bound_yes {u : V5} {x : Int} {f : Nat} {t : TypeId} {w w' : World} (h : u.k = 3 ∧ x ≤ u.x) (hb : Below w.heap.size w w') : BoundPost u x f t w (.returned (.tuple #[.iface t (.agg #[.int .i64 u.x, fnV f]), .int .i64 0])) w' :=
  ⟨_, _, rfl, by unfold boundZ; rw [if_pos h], fun _ => rfl, hb⟩
set_option maxHeartbeats 1000000 in
set_option maxRecDepth 100000 in
theorem made_itemsOf (r : Value) (u b : V5) (d g : Nat) (x : Int) (f : Nat) (w : World) (hB : BoxesAt w g x f) :
    Calls Tryz.prog 56 #[r, givenV u b d, .pointer (some ⟨g, 0, none⟩), .pointer (some ⟨g + 1, 0, none⟩)] w (BoundPost u x f 112 w) := by
  have hb := (Below.refl _ w).alloc (Nat.le_refl _) (givenO u b d)
  have y0 := fun o => cell_alloc' hB.one o
  have y1 := fun o => cell_alloc' hB.two o
  obtain ⟨x0, x1, -⟩ := givenO_cells (heap_alloc_new w (givenO u b d))
  have hyes := fun h => hid_of (@bound_yes u x f 112 _ _ h hb)
  have hno := fun h => hid_of (@bound_no u x f 112 _ _ h hb)
  unfold givenO at *
  unfold givenV
  unfold fnV at *
  go_enter Tryz.func56, Tryz.ntmps56
  by_cases hk : u.k = 3
  · have hk' : Hid (u.k = 3) := hk
    have hb1 : (u.k != 3) = false := by simp [hk]
    clear hk
    by_cases hx : u.x < x
    · have hb2 : decide (u.x < x) = true := by simpa using hx
      go_wp2_with fail
      go_ret2
      exact (hno (by omega)).out
    · have hb2 : decide (u.x < x) = false := by simpa using hx
      have hx' : Hid (x ≤ u.x) := by show x ≤ u.x; omega
      go_wp2_with fail
      go_ret2
      exact (hyes ⟨hk'.out, hx'.out⟩).out
  · have hb1 : (u.k != 3) = true := by simp [hk]
    have hk' : Hid (¬ u.k = 3) := hk
    clear hk
    go_wp2_with fail
    go_ret2
    exact (hno (fun h => hk'.out h.1)).out
set_option maxHeartbeats 1000000 in
set_option maxRecDepth 100000 in
theorem made_charactersOf (r : Value) (u b : V5) (d g : Nat) (x : Int) (f : Nat) (w : World) (hB : BoxesAt w g x f) :
    Calls Tryz.prog 57 #[r, givenV u b d, .pointer (some ⟨g, 0, none⟩), .pointer (some ⟨g + 1, 0, none⟩)] w (BoundPost u x f 113 w) := by
  have hb := (Below.refl _ w).alloc (Nat.le_refl _) (givenO u b d)
  have y0 := fun o => cell_alloc' hB.one o
  have y1 := fun o => cell_alloc' hB.two o
  obtain ⟨x0, x1, -⟩ := givenO_cells (heap_alloc_new w (givenO u b d))
  have hyes := fun h => hid_of (@bound_yes u x f 113 _ _ h hb)
  have hno := fun h => hid_of (@bound_no u x f 113 _ _ h hb)
  unfold givenO at *
  unfold givenV
  unfold fnV at *
  go_enter Tryz.func57, Tryz.ntmps57
  by_cases hk : u.k = 3
  · have hk' : Hid (u.k = 3) := hk
    have hb1 : (u.k != 3) = false := by simp [hk]
    clear hk
    by_cases hx : u.x < x
    · have hb2 : decide (u.x < x) = true := by simpa using hx
      go_wp2_with fail
      go_ret2
      exact (hno (by omega)).out
    · have hb2 : decide (u.x < x) = false := by simpa using hx
      have hx' : Hid (x ≤ u.x) := by show x ≤ u.x; omega
      go_wp2_with fail
      go_ret2
      exact (hyes ⟨hk'.out, hx'.out⟩).out
  · have hb1 : (u.k != 3) = true := by simp [hk]
    have hk' : Hid (¬ u.k = 3) := hk
    clear hk
    go_wp2_with fail
    go_ret2
    exact (hno (fun h => hk'.out h.1)).out
set_option maxHeartbeats 1000000 in
set_option maxRecDepth 100000 in
theorem made_intOf (r : Value) (u b : V5) (d g : Nat) (x : Int) (f : Nat) (w : World) (hB : BoxesAt w g x f) :
    Calls Tryz.prog 58 #[r, givenV u b d, .pointer (some ⟨g, 0, none⟩), .pointer (some ⟨g + 1, 0, none⟩)] w (BoundPost u x f 114 w) := by
  have hb := (Below.refl _ w).alloc (Nat.le_refl _) (givenO u b d)
  have y0 := fun o => cell_alloc' hB.one o
  have y1 := fun o => cell_alloc' hB.two o
  obtain ⟨x0, x1, -⟩ := givenO_cells (heap_alloc_new w (givenO u b d))
  have hyes := fun h => hid_of (@bound_yes u x f 114 _ _ h hb)
  have hno := fun h => hid_of (@bound_no u x f 114 _ _ h hb)
  unfold givenO at *
  unfold givenV
  unfold fnV at *
  go_enter Tryz.func58, Tryz.ntmps58
  by_cases hk : u.k = 3
  · have hk' : Hid (u.k = 3) := hk
    have hb1 : (u.k != 3) = false := by simp [hk]
    clear hk
    by_cases hx : u.x < x
    · have hb2 : decide (u.x < x) = true := by simpa using hx
      go_wp2_with fail
      go_ret2
      exact (hno (by omega)).out
    · have hb2 : decide (u.x < x) = false := by simpa using hx
      have hx' : Hid (x ≤ u.x) := by show x ≤ u.x; omega
      go_wp2_with fail
      go_ret2
      exact (hyes ⟨hk'.out, hx'.out⟩).out
  · have hb1 : (u.k != 3) = true := by simp [hk]
    have hk' : Hid (¬ u.k = 3) := hk
    clear hk
    go_wp2_with fail
    go_ret2
    exact (hno (fun h => hk'.out h.1)).out
/-- What enum, anyOf and allOf ask of a list. -/
def someZ (u : V5) : Int := if u.k = 5 ∧ 0 < u.li then 0 else 210
/-- A list of at least one. -/
theorem several_any (u : V5) (w : World) : Calls Tryz.prog 52 #[u.v] w fun e w' => e = .returned (.bool (decide (u.k = 5 ∧ 0 < u.li))) ∧ Below w.heap.size w w' := by
  have hb := (Below.refl _ w).alloc (Nat.le_refl _) (u.obj 25)
  unfold V5.obj at hb
  unfold V5.v
  go_enter Tryz.func52, Tryz.ntmps52
  by_cases hk : u.k = 5
  · have hb1 : (u.k == 5) = true := by simp [hk]
    have hr : Hid (decide (u.k = 5 ∧ 0 < u.li) = decide ((u.li : Int) > 0)) := by simp [Hid, hk]
    rw [hr.out]
    clear hk hr
    go_wp2_with fail
    go_ret
    exact ⟨ret_bool (by simp), hb⟩
  · have hb1 : (u.k == 5) = false := by simp [hk]
    have hr : Hid (decide (u.k = 5 ∧ 0 < u.li) = false) := by simp [Hid, hk]
    rw [hr.out]
    clear hk hr
    go_wp2_with fail
    go_ret
    exact ⟨rfl, hb⟩
set_option maxHeartbeats 1000000 in
set_option maxRecDepth 100000 in
theorem enum_any (r : Value) (u b : V5) (d : Nat) (w : World) :
    Calls Tryz.prog 29 #[r, givenV u b d] w fun e w' => ∃ v z, e = .returned (.tuple #[v, .int .i64 z]) ∧ z = someZ u ∧ (z = 0 → v = .iface 96 (.slice u.ai u.li u.ci)) ∧ Below w.heap.size w w' := by
  obtain ⟨x0, x1, x2, x3, x4, -⟩ := givenO_cells (heap_alloc_new w (givenO u b d))
  have hb0 := (Below.refl _ w).alloc (Nat.le_refl _) (givenO u b d)
  have hs := hid_of (several_any u (w.alloc (givenO u b d)))
  unfold givenO at *
  unfold givenV
  unfold V5.v at hs
  go_enter Tryz.func29, Tryz.ntmps29
  go_wp2_with fail
  generalize w.alloc (.cells #[.int .i64 u.k, .int .i64 u.x, .string u.s, .slice u.an u.ln u.cn, .slice u.ai u.li u.ci, .int .i64 b.k, .int .i64 b.x, .string b.s, .slice b.an b.ln b.cn, .slice b.ai b.li b.ci, .int .i64 (d : Int)] 82) = X at *
  refine hs.out.mono ?_
  rintro e W ⟨rfl, hb⟩
  have hb2 := hid_of (hb0.trans (hb.mono hb0.size))
  have t4 := stay hb x4
  clear hs x0 x1 x2 x3 x4 hb hb0
  by_cases h : u.k = 5 ∧ 0 < u.li
  · rw [decide_eq_true h]
    have h' := hid_of h
    clear h
    go_wp2_with fail
    go_ret2
    exact ⟨_, _, rfl, by unfold someZ; rw [if_pos h'.out], fun _ => rfl, hb2.out⟩
  · rw [decide_eq_false h]
    have h' := hid_of h
    clear h
    go_wp2_with fail
    go_ret2
    exact ⟨_, _, rfl, by unfold someZ; rw [if_neg h'.out], (fun e => by cases e), hb2.out⟩
end Go.Proofs.YtgjemghfejaifaaGreatDoor
