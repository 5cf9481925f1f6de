import Derived.Test.YtdghkmgkmfnjjaaGreatDoorCA
import Derived.Laws.IdiomRangeMap
/-! Catalogs of no and of one collection. -/
namespace Go.Proofs.YtdghkmgkmfnjjaaGreatDoor
open Go Go.RowKit Go.Maps

abbrev nameC : ByteArray := ⟨#[99]⟩
abbrev klC : Lit := .string nameC.data.toList
theorem key_c : keyOf Tryz.prog 9 (.string nameC) = some klC := Go.WideMaps.keyOf_string_mk Tryz.underlying9 (by decide)
/-- A catalog of nothing, as New makes it. -/
def Cat0 (w : World) (cb : Nat) : Prop := w.heap[cb]? = some (.cells #[.map none] 75 (0, 0))
/-- A catalog of the collection c. -/
def Cat1 (w : World) (cb kb : Nat) : Prop := ∃ mb n, w.heap[cb]? = some (.cells #[.map (some mb)] 75 (0, 0)) ∧ n ≤ 2 ∧ CollsAt w mb n (.map [(klC, ptrD kb)])
theorem Cat1.keep {w w' : World} {cb kb : Nat} (h : Cat1 w cb kb) (hb : Below w.heap.size w w') : Cat1 w' cb kb := by
  obtain ⟨mb, n, h1, h2, h3⟩ := h
  exact ⟨mb, n, block_keep h1 hb, h2, CollsAt.keep h3 hb⟩
/-- The collection c. -/
def CollAt (w : World) (kb : Nat) (cnt : Int) (ix : Value) : Prop := w.heap[kb]? = some (.cells #[.string nameC, .int .i64 cnt, .int .i64 2, .int .i64 0, .int .i64 0, .string ⟨#[]⟩, .slice none 0 0, .slice none 0 0, .int .i64 0, .int .i64 0, .slice none 0 0, .pointer none, ix] 67 (0, 0))
theorem CollAt.keep {w w' : World} {kb : Nat} {cnt : Int} {ix : Value} (h : CollAt w kb cnt ix) (hb : Below w.heap.size w w') : CollAt w' kb cnt ix := block_keep h hb
theorem CollAt.at {w : World} {kb : Nat} {cnt : Int} {ix : Value} (h : CollAt w kb cnt ix) : ∀ j, w.cell? ⟨kb, j, none⟩ = (#[Value.string nameC, .int .i64 cnt, .int .i64 2, .int .i64 0, .int .i64 0, .string ⟨#[]⟩, .slice none 0 0, .slice none 0 0, .int .i64 0, .int .i64 0, .slice none 0 0, .pointer none, ix])[j]? := fun j => by
  unfold CollAt at h
  simp [World.cell?, h]
theorem put_none (kb : Nat) : (DataW.map (H := Unit) []).put klC (ptrD kb) = .map [(klC, ptrD kb)] := rfl
theorem put_one (kb kb' : Nat) : (DataW.map [(klC, ptrD kb)] : DataW Unit).put klC (ptrD kb') = .map [(klC, ptrD kb')] := rfl
theorem at_one (kb : Nat) (z : DataW Unit) : (DataW.map [(klC, ptrD kb)] : DataW Unit).atKey klC z = ptrD kb := rfl
theorem new_cat (w : World) : Calls Tryz.prog 24 #[] w fun e w' => e = .returned (.pointer (some ⟨w.heap.size, 0, none⟩)) ∧ Cat0 w' w.heap.size ∧ Below w.heap.size w w' := by
  go_enter Tryz.func24, Tryz.ntmps24
  go_wp2_with fail
  go_ret
  exact ⟨rfl, heap_alloc_new _ _, (Below.refl _ w).alloc (Nat.le_refl _) _⟩
set_option maxHeartbeats 1000000 in
set_option maxRecDepth 100000 in
theorem copied_none (cb : Nat) (w : World) (hc : w.cell? ⟨cb, 0, none⟩ = some (.map none)) : Calls Tryz.prog 52 #[.pointer (some ⟨cb, 0, none⟩)] w fun e w' => ∃ ob, e = .returned (.map (some ob)) ∧ CollsAt w' ob 0 (.map []) ∧ Below w.heap.size w w' ∧ w.heap.size ≤ ob := by
  have hmm := run_makeMap_hint
  have hc1 : (w.alloc (.map #[] 0)).cell? ⟨cb, 0, none⟩ = some (.map none) := cell_alloc' hc _
  have hrg := run_range_nilMap (P := Tryz.prog) (w.alloc (.map #[] 0)) 73 9 59 Tryz.underlying73
  have hnx : ∀ ty, (Instr.next (.pointer (some ⟨(w.alloc (.map #[] 0)).heap.size, 0, none⟩)) false ty).run Tryz.prog ((w.alloc (.map #[] 0)).alloc (.mapIter none 0 #[] 0)) = _ := fun ty => run_next_nilMap _ ty 0 0 #[]
  have e1 : (w.alloc (.map #[] 0)).heap.size = w.heap.size + 1 := by simp
  rw [e1] at hrg hnx
  go_enter Tryz.func52, Tryz.ntmps52
  go_wp2_with fail
  refine wp_loop_rounds 1 ?_
  rw [rounds_succ]
  go_wp2_with fail
  go_ret
  exact ⟨_, rfl, (World.ownsMap_made _ _ _ _).alloc _, ((Below.refl _ _).alloc (Nat.le_refl _) _).alloc (by simp) _, Nat.le_refl _⟩
set_option maxHeartbeats 1000000 in
set_option maxRecDepth 100000 in
theorem with_any (cb kb : Nat) (n : Nat) (D : DataW Unit) (hn : n ≤ 1) (hD : D.put klC (ptrD kb) = .map [(klC, ptrD kb)]) (w : World) (hcp : Calls Tryz.prog 52 #[.pointer (some ⟨cb, 0, none⟩)] w fun e w' => ∃ ob, e = .returned (.map (some ob)) ∧ CollsAt w' ob n D ∧ Below w.heap.size w w' ∧ w.heap.size ≤ ob)
    (hk : w.cell? ⟨kb, 0, none⟩ = some (.string nameC)) :
    Calls Tryz.prog 29 #[.pointer (some ⟨cb, 0, none⟩), .pointer (some ⟨kb, 0, none⟩)] w fun e w' => ∃ nb, e = .returned (.pointer (some ⟨nb, 0, none⟩)) ∧ Cat1 w' nb kb ∧ Below w.heap.size w w' := by
  replace hcp := hid_of hcp
  replace hD := hid_of hD
  go_enter Tryz.func29, Tryz.ntmps29
  go_wp2_with fail
  refine hcp.out.mono ?_
  rintro e X1 ⟨ob, rfl, hC, hB, hob⟩
  have k1 := stay hB hk
  have lo := World.ownsMap.lt hC
  obtain ⟨X2, hup, hC2, hg2⟩ := World.ownsMap.update hC str_law Tryz.underlying73 (by unfold maxLen; omega) key_c (ptrE_of kb)
  rw [hD.out] at hC2
  have hB2 := hid_of (hB.grown hg2 hB.size (fun j hj => by cases hj; exact hob))
  clear hcp hk hg2 hB
  replace hC2 := hid_of hC2
  clear hC
  go_wp2_with fail
  go_ret
  exact ⟨_, rfl, ⟨ob, n + 1, heap_alloc_new _ _, by omega, hC2.out.alloc _⟩, hB2.out.alloc hB2.out.size _⟩
theorem with_none (cb kb : Nat) (w : World) (h : Cat0 w cb) (hk : w.cell? ⟨kb, 0, none⟩ = some (.string nameC)) :
    Calls Tryz.prog 29 #[.pointer (some ⟨cb, 0, none⟩), .pointer (some ⟨kb, 0, none⟩)] w fun e w' => ∃ nb, e = .returned (.pointer (some ⟨nb, 0, none⟩)) ∧ Cat1 w' nb kb ∧ Below w.heap.size w w' :=
  with_any cb kb 0 _ (by omega) (put_none kb) w (copied_none cb w (cell_of_one h)) hk
theorem with_one (cb kb k0 : Nat) (w : World) (h : Cat1 w cb k0) (hk : w.cell? ⟨kb, 0, none⟩ = some (.string nameC)) :
    Calls Tryz.prog 29 #[.pointer (some ⟨cb, 0, none⟩), .pointer (some ⟨kb, 0, none⟩)] w fun e w' => ∃ nb, e = .returned (.pointer (some ⟨nb, 0, none⟩)) ∧ Cat1 w' nb kb ∧ Below w.heap.size w w' := by
  obtain ⟨mb, n, h1, h2, h3⟩ := h
  exact with_any cb kb 1 _ (by omega) (put_one k0 kb) w (copied_any cb mb n _ w (cell_of_one h1) h3 (show (1 : Nat) ≤ 1000 by omega)) hk
set_option maxHeartbeats 1000000 in
set_option maxRecDepth 100000 in
theorem find_none (cb : Nat) (w : World) (h : Cat0 w cb) : Calls Tryz.prog 18 #[.pointer (some ⟨cb, 0, none⟩), .string nameC] w fun e w' => e = .returned (.pointer none) ∧ w' = w := by
  have c0 := cell_of_one h
  have hrun : (Instr.lookup 73 (.map none) (.string nameC) false).run Tryz.prog w = .ok (.pointer none) w := by kernel_rfl
  go_enter Tryz.func18, Tryz.ntmps18
  go_wp2_with fail
  go_ret
  exact ⟨rfl, rfl⟩
set_option maxHeartbeats 1000000 in
set_option maxRecDepth 100000 in
theorem find_one (cb kb : Nat) (w : World) (h : Cat1 w cb kb) : Calls Tryz.prog 18 #[.pointer (some ⟨cb, 0, none⟩), .string nameC] w fun e w' => e = .returned (.pointer (some ⟨kb, 0, none⟩)) ∧ w' = w := by
  obtain ⟨mb, n, h1, h2, h3⟩ := h
  have c0 := cell_of_one h1
  obtain ⟨v, ps, hrun, hv⟩ := World.ownsMap.lookup h3 str_law Tryz.underlying73 (Tryz.zeroValue59 w) (zd := .nil) (zp := []) rfl key_c
  rw [at_one] at hv
  have := ptrE_some hv
  subst this
  clear hv h1 h2 h3
  go_enter Tryz.func18, Tryz.ntmps18
  go_wp2_with fail
  go_ret
  exact ⟨rfl, rfl⟩
end Go.Proofs.YtdghkmgkmfnjjaaGreatDoor
