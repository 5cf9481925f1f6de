import Derived.Test.YtgigikcopedoeaaGreatW2
import Derived.Maps.OwnSet
/-! ParseFields of one name. -/
namespace Go.Proofs.YtgigikcopedoeaaGreat
open Go Go.RowKit

theorem contains_a (gp cp : Nat) (w : World) (h : w.cell? ⟨gp, 0, none⟩ = some (.string nameA)) : Calls Tryz.prog 78 #[.slice (some ⟨gp, 0, none⟩) 1 cp, .func (.func 79) #[] #[]] w fun e w' => e = .returned (.bool false) ∧ Below w.heap.size w w' := by
  have hi : Hid (Calls Tryz.prog 113 #[.slice (some ⟨gp, 0, none⟩) 1 cp, .func (.func 79) #[] #[]] w fun e w' => e = .returned (.int .i64 (-1)) ∧ Below w.heap.size w w') := by
    unfold Hid
    go_enter Tryz.func113, Tryz.ntmps113
    go_wp2_with fail
    refine wp_loop_rounds 2 ?_
    rw [rounds_succ]
    go_wp2_with fail
    refine (isindex_a w).mono ?_
    rintro e w1 ⟨rfl, hb⟩
    go_wp2_with fail
    rw [rounds_succ]
    go_wp2_with fail
    go_ret
    exact ⟨rfl, hb⟩
  go_enter Tryz.func78, Tryz.ntmps78
  go_wp2_with fail
  refine hi.out.mono ?_
  rintro e w1 ⟨rfl, hb⟩
  go_wp2_with fail
  go_ret
  exact ⟨rfl, hb⟩
/-- A path of the one name a. -/
def FPost (w : World) (e : Ending) (w' : World) : Prop := Below w.heap.size w w' ∧ ∃ gp cp, e = .returned (.tuple #[.slice (some ⟨gp, 0, none⟩) 1 cp, .int .i64 0]) ∧ w'.cell? ⟨gp, 0, none⟩ = some (.string nameA)
set_option maxHeartbeats 2000000 in
set_option maxRecDepth 100000 in
theorem field_a (w : World) : Calls Tryz.prog 52 #[.string nameA, numV 0, .bool false, .slice none 0 0] w (FPost w) := by
  have n0 := heap_alloc_new w (numC 0)
  have HB : Below w.heap.size w (w.alloc (numC 0)) := (Below.refl _ w).alloc (Nat.le_refl _) _
  have hpar := hid_of (parse_any nameA (by decide) (w.alloc (numC 0)))
  rw [parsed_a] at hpar
  unfold numC at n0 HB hpar
  unfold numV
  go_enter Tryz.func52, Tryz.ntmps52
  go_wp2_with fail
  generalize w.alloc (.cells #[.int .i64 3, .int .i64 0, .string ⟨#[]⟩, .slice none 0 0, .slice none 0 0] 25) = X0 at HB n0 hpar
  refine hpar.out.mono ?_
  rintro e X1 ⟨sl, rfl, hown, hb1⟩
  obtain ⟨gp, cp, rfl, hgg, hgl⟩ := hown.form (by decide)
  have hcp : X1.cell? ⟨gp, 0, none⟩ = some (.string nameA) := hown.cellAt 0 (by decide)
  replace HB := HB.trans (hb1.mono HB.size)
  have n1 := block_keep n0 hb1
  clear hb1 n0 hpar hown
  have h2 := heap_alloc_new X1 (.cells #[.slice (some ⟨gp, 0, none⟩) 1 cp] 22)
  have B2 : Below X1.heap.size X1 (X1.alloc (.cells #[.slice (some ⟨gp, 0, none⟩) 1 cp] 22)) := (Below.refl _ X1).alloc (Nat.le_refl _) _
  have n2 := block_keep n1 B2
  have hcp2 := stay B2 hcp
  replace HB := HB.trans (B2.mono HB.size)
  go_wp2_with fail
  generalize X1.alloc (.cells #[.slice (some ⟨gp, 0, none⟩) 1 cp] 22) = X2 at h2 B2 n2 hcp2 HB
  clear B2 n1 hcp hgg hgl
  refine (contains_a gp cp X2 hcp2).mono ?_
  rintro e X3 ⟨rfl, hb3⟩
  have h3 := block_keep h2 hb3
  have n3 := block_keep n2 hb3
  have hcp3 := stay hb3 hcp2
  replace HB := HB.trans (hb3.mono HB.size)
  clear hb3 h2 n2 hcp2
  obtain ⟨y0, y1, y2, y3, y4, -⟩ := row_cells n3
  go_wp2_with fail
  refine (isnum 0 0 true rfl X3).mono ?_
  rintro e X4 ⟨rfl, hb4⟩
  have h4 := block_keep h3 hb4
  have n4 := block_keep n3 hb4
  have hcp4 := stay hb4 hcp3
  replace HB := HB.trans (hb4.mono HB.size)
  clear hb4 h3 n3 hcp3 y0 y1 y2 y3 y4
  obtain ⟨y0, y1, y2, y3, y4, -⟩ := row_cells n4
  go_wp2_with fail
  refine (isnum 0 1 false rfl X4).mono ?_
  rintro e X5 ⟨rfl, hb5⟩
  have h5 := block_keep h4 hb5
  have hcp5 := stay hb5 hcp4
  replace HB := HB.trans (hb5.mono HB.size)
  clear hb5 h4 n4 hcp4 y0 y1 y2 y3 y4
  have q5 : X5.cell? ⟨X1.heap.size, 0, none⟩ = some (.slice (some ⟨gp, 0, none⟩) 1 cp) := by simp [World.cell?, h5]
  go_wp2_with (go_at_call 80; refine (contains_paths0 _ 0 _).mono ?_; rintro e X6 ⟨rfl, rfl⟩)
  go_ret2
  exact ⟨HB, gp, cp, rfl, hcp5⟩
/-- How a pointer to a place is read. -/
def ptrE : Value → Option (DataW Unit × List MemPlace)
  | .pointer none => some (.nil, [])
  | .pointer (some a) => if a.off = 0 ∧ a.spot = none then some (.lit (.int .i64 a.block), []) else none
  | _ => none
theorem ptrE_nil {v : Value} {ps : List MemPlace} (h : ptrE v = some (.nil, ps)) : v = .pointer none := by
  unfold ptrE at h
  split at h
  · rfl
  · split at h
    · simp at h
    · cases h
  · cases h
theorem ptrE_some {v : Value} {ps : List MemPlace} {b : Nat} (h : ptrE v = some (.lit (.int .i64 b), ps)) : v = .pointer (some ⟨b, 0, none⟩) := by
  unfold ptrE at h
  split at h
  · simp at h
  · rename_i a
    split at h
    · rename_i hc
      obtain ⟨x, y, z⟩ := a
      simp at hc h
      obtain ⟨rfl, rfl⟩ := hc
      have : x = b := by omega
      subst this
      rfl
    · cases h
  · cases h
abbrev klA : Lit := .string nameA.data.toList
theorem key_a : keyOf Tryz.prog 9 (.string nameA) = some klA := Go.WideMaps.keyOf_string_mk Tryz.underlying9 (by decide)
/-- A place: its map reads as D. -/
def PlaceAt (w : World) (pb mb : Nat) (D : DataW Unit) : Prop := w.heap[pb]? = some (.cells #[.map (some mb)] 96 (0, 0)) ∧ ∃ n, w.ownsMap Tryz.prog 9 ptrE mb n D
/-- A map that reads as the empty one has no entries. -/
theorem own_zero {w : World} {P : Program} {k : TypeId} {R : Value → Option (DataW Unit × List MemPlace)} {b n : Nat} (h : w.ownsMap P k R b n (.map [])) : w.ownsMap P k R b 0 (.map []) := by
  obtain ⟨es, cl, h1, h2, h3, h4⟩ := h
  refine ⟨es, cl, h1, h2, ?_, h4⟩
  have h5 := congrArg Maps.size h4
  simp [Maps.size, length_sorted] at h5
  omega
theorem PlaceAt.keep {w w' : World} {pb mb : Nat} {D : DataW Unit} (h : PlaceAt w pb mb D) (hb : Below w.heap.size w w') : PlaceAt w' pb mb D := by
  obtain ⟨h1, n, h2⟩ := h
  refine ⟨block_keep h1 hb, n, ?_⟩
  have hl := h2.lt
  obtain ⟨es, cl, hm, r⟩ := h2
  exact ⟨es, cl, (hb.block _ hl).trans hm, r⟩
theorem new_place (w : World) : Calls Tryz.prog 83 #[] w fun e w' => Below w.heap.size w w' ∧ e = .returned (.pointer (some ⟨w.heap.size + 1, 0, none⟩)) ∧ PlaceAt w' (w.heap.size + 1) w.heap.size (.map []) := by
  have hmm := @run_makeMap Tryz.prog
  go_enter Tryz.func83, Tryz.ntmps83
  go_wp2
  go_ret
  refine ⟨((Below.refl _ w).alloc (Nat.le_refl _) _).alloc (by simp) _, by simp, ?_, ?_⟩
  · exact heap_new' (by simp)
  · exact ⟨0, (World.ownsMap_made w _ _ _).alloc _⟩
theorem ends_any (pb mb : Nat) (D : DataW Unit) (b : Bool) (w : World) (h : PlaceAt w pb mb D) (hb : ((Maps.size D : Int) == 0) = b) : Calls Tryz.prog 31 #[.pointer (some ⟨pb, 0, none⟩)] w fun e w' => e = .returned (.bool b) ∧ w' = w := by
  have hc : w.cell? ⟨pb, 0, none⟩ = some (.map (some mb)) := by simp [World.cell?, h.1]
  obtain ⟨n, hn⟩ := h.2
  have hl := hn.len Tryz.underlying94 3
  go_enter Tryz.func31, Tryz.ntmps31
  go_wp2
  go_ret
  exact ⟨rfl, rfl⟩
/-- A tree of the one name a. -/
def TreeA (w : World) (tb : Nat) : Prop := ∃ mb pb nb, PlaceAt w tb mb (.map [(klA, .lit (.int .i64 (pb : Nat)))]) ∧ PlaceAt w pb nb (.map []) ∧ pb ≠ mb
theorem TreeA.keep {w w' : World} {tb : Nat} (h : TreeA w tb) (hb : Below w.heap.size w w') : TreeA w' tb := by
  obtain ⟨mb, pb, nb, h1, h2, h3⟩ := h
  exact ⟨mb, pb, nb, h1.keep hb, h2.keep hb, h3⟩
theorem tree_fin {w X1 X2 X3 : World} (hB1 : Below w.heap.size w X1) (hP1 : PlaceAt X1 (w.heap.size + 1) w.heap.size (.map [])) (hb2 : Below X1.heap.size X1 X2) (hP2 : PlaceAt X2 (X1.heap.size + 1) X1.heap.size (.map [])) (hown : X3.ownsMap Tryz.prog 9 ptrE w.heap.size 1 (.map [(klA, .lit (.int .i64 ((X1.heap.size + 1 : Nat) : Int)))])) (hg : X2.grownBy X3 (some w.heap.size)) :
    X3.cell? ⟨w.heap.size + 1, 0, none⟩ = some (.map (some w.heap.size)) ∧ (Instr.lookup 94 (.map (some w.heap.size)) (.string nameA) false).run Tryz.prog X3 = .ok (.pointer (some ⟨X1.heap.size + 1, 0, none⟩)) X3 ∧ TreeA X3 (w.heap.size + 1) ∧ Below w.heap.size w X3 := by
  have hs1 : w.heap.size + 1 < X1.heap.size := (Array.getElem?_eq_some_iff.1 hP1.1).1
  have hk : ∀ j, j < X2.heap.size → j ≠ w.heap.size → X3.heap[j]? = X2.heap[j]? := fun j hj hne => hg.block j hj (fun e => by cases e; exact hne rfl)
  have hP1' := hP1.keep hb2
  have hs2 := hb2.size
  have hbox := (hk (w.heap.size + 1) (by omega) (by omega)).trans hP1'.1
  obtain ⟨h21, n2, h22⟩ := hP2
  have hlt2 := (Array.getElem?_eq_some_iff.1 h21).1
  obtain ⟨v, ps, hrun, hv⟩ := hown.lookup (Maps.string_keyed Tryz.underlying9) Tryz.underlying94 (Tryz.zeroValue60 X3) (zd := .nil) (zp := []) rfl key_a
  have hv' := ptrE_some (b := X1.heap.size + 1) (ps := ps) (v := v) (hv.trans (by rw [show DataW.atKey (.map [(klA, .lit (.int .i64 ((X1.heap.size + 1 : Nat) : Int)))]) klA (DataW.nil (H := Unit)) = .lit (.int .i64 ((X1.heap.size + 1 : Nat) : Int)) by simp [DataW.atKey, klA, Lit.sameKey]]))
  subst hv'
  refine ⟨by simp [World.cell?, hbox], hrun, ⟨w.heap.size, X1.heap.size + 1, X1.heap.size, ⟨hbox, 1, hown⟩, ⟨(hk _ hlt2 (by omega)).trans h21, n2, ?_⟩, by omega⟩, ?_⟩
  · have hl := h22.lt
    obtain ⟨es, cl, hm, r⟩ := h22
    exact ⟨es, cl, (hk _ hl (by omega)).trans hm, r⟩
  · exact (hB1.trans (hb2.mono hB1.size)).trans (grown_below hg (by have := hB1.size; omega) (fun g hg => by cases hg; exact Nat.le_refl _))
set_option maxHeartbeats 2000000 in
set_option maxRecDepth 100000 in
theorem tree_a (g c gp cp : Nat) (w : World) (hg : w.cell? ⟨g, 0, none⟩ = some (.slice (some ⟨gp, 0, none⟩) 1 cp)) (hp : w.cell? ⟨gp, 0, none⟩ = some (.string nameA)) :
    Calls Tryz.prog 53 #[.slice (some ⟨g, 0, none⟩) 1 c] w fun e w' => Below w.heap.size w w' ∧ ∃ tb, e = .returned (.pointer (some ⟨tb, 0, none⟩)) ∧ TreeA w' tb := by
  go_enter Tryz.func53, Tryz.ntmps53
  go_wp2_with fail
  refine (new_place w).mono ?_
  rintro e X1 ⟨hb1, rfl, hP1⟩
  have g1 := stay hb1 hg
  have p1 := stay hb1 hp
  have c1 : X1.cell? ⟨w.heap.size + 1, 0, none⟩ = some (.map (some w.heap.size)) := by simp [World.cell?, hP1.1]
  obtain ⟨_, hown0⟩ := hP1.2
  have hown1 := own_zero hown0
  clear hown0
  obtain ⟨v, ps, hrun, hv⟩ := hown1.lookup (Maps.string_keyed Tryz.underlying9) Tryz.underlying94 (Tryz.zeroValue60 X1) (zd := .nil) (zp := []) rfl key_a
  have hv' := ptrE_nil (show ptrE v = some (.nil, ps) from hv)
  subst hv'
  replace hP1 := hid_of hP1
  clear hv hg hp
  go_wp2_with fail
  refine wp_loop_rounds 2 ?_
  rw [rounds_succ]
  go_wp2_with fail
  refine wp_loop_rounds 2 ?_
  rw [rounds_succ]
  go_wp2_with fail
  have hB1 : Hid (Below w.heap.size w X1) := hid_of hb1
  clear hb1
  have hup : Hid (∀ X2, Below X1.heap.size X1 X2 → ∃ X3, (Instr.mapUpdate 94 (.map (some w.heap.size)) (.string nameA) (.pointer (some ⟨X1.heap.size + 1, 0, none⟩))).run Tryz.prog X2 = .ok () X3 ∧ X3.ownsMap Tryz.prog 9 ptrE w.heap.size 1 (.map [(klA, .lit (.int .i64 ((X1.heap.size + 1 : Nat) : Int)))]) ∧ X2.grownBy X3 (some w.heap.size)) := hid_of (fun X2 hb => by
    have hl := hown1.lt
    have hk : X2.ownsMap Tryz.prog 9 ptrE w.heap.size 0 (.map []) := by
      obtain ⟨es, cl, hm, r⟩ := hown1
      exact ⟨es, cl, (hb.block _ hl).trans hm, r⟩
    exact hk.update (Maps.string_keyed Tryz.underlying9) Tryz.underlying94 (by unfold maxLen; omega) key_a (d := .lit (.int .i64 ((X1.heap.size + 1 : Nat) : Int))) (ps := []) rfl)
  clear hown1 hrun
  go_region_with (go_at_call 83; refine (new_place X1.drew).mono ?_; rintro e X2 ⟨hb2', rfl, hP2⟩; have hb2 : Below X1.heap.size X1 X2 := (below_drew (Below.refl _ X1)).trans hb2'; clear hb2'; have c2 := stay hb2 c1; have p2 := stay hb2 p1; have g2 := stay hb2 g1; obtain ⟨X3, hrun3, hown3, hgrow3⟩ := hup.out X2 hb2; replace hP2 := hid_of hP2; replace hb2 := hid_of hb2; replace hown3 := hid_of hown3; replace hgrow3 := hid_of hgrow3)
  all_goals
    obtain ⟨f1, f2, f3, f4⟩ := tree_fin hB1.out hP1.out hb2.out hP2.out hown3.out hgrow3.out
    replace f3 := hid_of f3
    replace f4 := hid_of f4
    clear hrun3 c2 p2 g2 hown3 hgrow3 hP2 hb2
    go_wp2_with fail
    rw [rounds_succ]
    go_wp2_with fail
    rw [rounds_succ]
    go_wp2_with fail
    go_ret
    exact ⟨f4.out, _, rfl, f3.out⟩
end Go.Proofs.YtgigikcopedoeaaGreat
