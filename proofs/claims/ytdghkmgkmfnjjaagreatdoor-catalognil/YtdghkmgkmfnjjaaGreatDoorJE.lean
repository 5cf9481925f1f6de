import Derived.Test.YtdghkmgkmfnjjaaGreatDoorJD
import Derived.Maps.OwnSet
import Derived.Deep.RegionWith
/-! A change under way: what goes, what comes. -/
namespace Go.Proofs.YtdghkmgkmfnjjaaGreatDoor
open Go Go.RowKit

abbrev kl (s : ByteArray) : Lit := .string s.data.toList
theorem key_of (s : ByteArray) (hs : s.size ≤ maxLen) : keyOf Tryz.prog 9 (.string s) = some (kl s) := Go.WideMaps.keyOf_string_mk Tryz.underlying9 hs
/-- The map of turns. -/
def TurnsAt (w : World) (mt : Nat) (n : Nat) (D : DataW Unit) : Prop := w.ownsMap Tryz.prog 9 (plainElem Tryz.prog 3) mt n D
theorem TurnsAt.keep {w w' : World} {mt n : Nat} {D : DataW Unit} (h : TurnsAt w mt n D) (hb : Below w.heap.size w w') : TurnsAt w' mt n D := by
  have hl := World.ownsMap.lt h
  obtain ⟨es, cl, hm, r⟩ := h
  exact ⟨es, cl, (hb.block _ hl).trans hm, r⟩
/-- A change: nothing has gone. -/
def ChAt (w : World) (cb xb : Nat) (cv : Value) (mt mc : Nat) : Prop := w.heap[cb]? = some (.cells #[.pointer (some ⟨xb, 0, none⟩), .slice none 0 0, cv, .map (some mt), .map (some mc)] 199 (0, 0))
theorem ChAt.keep {w w' : World} {cb xb : Nat} {cv : Value} {mt mc : Nat} (h : ChAt w cb xb cv mt mc) (hb : Below w.heap.size w w') : ChAt w' cb xb cv mt mc := block_keep h hb
theorem ChAt.cells {w : World} {cb xb : Nat} {cv : Value} {mt mc : Nat} (h : ChAt w cb xb cv mt mc) : w.cell? ⟨cb, 0, none⟩ = some (.pointer (some ⟨xb, 0, none⟩)) ∧ w.cell? ⟨cb, 1, none⟩ = some (.slice none 0 0) ∧ w.cell? ⟨cb, 2, none⟩ = some cv ∧ w.cell? ⟨cb, 3, none⟩ = some (.map (some mt)) ∧ w.cell? ⟨cb, 4, none⟩ = some (.map (some mc)) ∧ ∀ j, w.frozen? ⟨cb, j, none⟩ = false := by
  unfold ChAt at h
  refine ⟨?_, ?_, ?_, ?_, ?_, fun j => ?_⟩
  all_goals simp [World.cell?, World.frozen?, h]
theorem ap_nil (gk : Nat) (w : World) : (Builtin.append_ #[103, 103] 103 #[.slice none 0 0, .slice (some ⟨gk, 0, none⟩) 0 0]).run Tryz.prog w = .ok (.slice none 0 0) w := by kernel_rfl
theorem below_same {w : World} {cb xb : Nat} {cv : Value} {mt mc : Nat} (h : ChAt w cb xb cv mt mc) : Below w.heap.size w (w.setCell ⟨cb, 1, none⟩ (.slice none 0 0)) := by
  refine ⟨by simp [World.setCell], by simp [World.setCell], by simp [World.setCell], by simp [World.setCell], fun k hk => ?_⟩
  by_cases e : k = cb
  · subst e
    unfold ChAt at h
    simp [World.setCell, Array.getElem?_modify, h]
  · exact Below.heap_setCell _ _ _ _ e
set_option maxHeartbeats 2000000 in
set_option maxRecDepth 100000 in
theorem takeOut_not (gk : Nat) (key : ByteArray) (hk : key.size ≤ maxLen) (cb xb : Nat) (cv : Value) (mt mc n : Nat) (D : DataW Unit) (nm pt : ByteArray) (un : Bool) (pv ev : Value) (w : World) (hC : ChAt w cb xb cv mt mc) (hX : IxAt w xb nm pt un pv ev (.slice (some ⟨gk, 0, none⟩) 0 0)) (hM : TurnsAt w mt n D) (hD : Maps.has D (kl key) = false) :
    Calls Tryz.prog 128 #[.pointer (some ⟨cb, 0, none⟩), .string key] w fun e w' => e = .returned (.tuple #[]) ∧ Below w.heap.size w w' := by
  obtain ⟨c0, c1, c2, c3, c4, cf⟩ := hC.cells
  obtain ⟨v, ps, hrun, -⟩ := World.ownsMap.look_ok hM (Maps.string_keyed Tryz.underlying9) Tryz.underlying196 (Tryz.zeroValue3 w) (zd := .lit (.int .i64 0)) (zp := []) (plainElem_int Tryz.underlying3 (by decide)) (key_of key hk)
  rw [hD] at hrun
  have hh := hid_of (having0 gk key xb nm pt un pv ev w.drew hX)
  have hfin := hid_of (below_drewN (below_same hC) 1)
  have hap := ap_nil gk
  have cf1 := cf 1
  clear hC hX hM hD cf
  go_enter Tryz.func128, Tryz.ntmps128
  go_wp2_with fail
  go_region_with (go_at_call 160; refine hh.out.mono ?_; rintro e w' ⟨rfl, rfl⟩)
  all_goals
    clear hap hrun hh
    go_wp2_with fail
    ((try simp only [Exit.inBlock, Exit.then]); refine bodyPost_ret (results_none rfl _ _ _) rfl ?_)
    exact ⟨rfl, hfin.out⟩
set_option maxHeartbeats 1000000 in
set_option maxRecDepth 100000 in
theorem begin0 (xb : Nat) (w : World) : Calls Tryz.prog 87 #[.pointer (some ⟨xb, 0, none⟩), .slice none 0 0] w fun e w' => Below w.heap.size w w' ∧ e = .returned (.pointer (some ⟨w.heap.size + 2, 0, none⟩)) ∧ ChAt w' (w.heap.size + 2) xb (.slice none 0 0) w.heap.size (w.heap.size + 1) ∧ TurnsAt w' w.heap.size 0 (.map []) := by
  have hmm := @run_makeMap Tryz.prog
  go_enter Tryz.func87, Tryz.ntmps87
  go_wp2_with fail
  refine wp_loop_rounds 1 ?_
  rw [rounds_succ]
  go_wp2_with fail
  go_ret
  refine ⟨(((Below.refl _ w).alloc (Nat.le_refl _) _).alloc (by simp) _).alloc (by simp; omega) _, by simp, ?_, ?_⟩
  · exact heap_new' (by simp)
  · exact ((World.ownsMap_made w _ _ _).alloc _).alloc _
end Go.Proofs.YtdghkmgkmfnjjaaGreatDoor
