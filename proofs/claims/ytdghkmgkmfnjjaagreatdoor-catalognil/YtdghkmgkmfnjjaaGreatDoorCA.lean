import Derived.Test.YtdghkmgkmfnjjaaGreatDoorJD
import Derived.Maps.RangeWalk
import Derived.Maps.Ext
/-! The map of collections. -/
namespace Go.Proofs.YtdghkmgkmfnjjaaGreatDoor
open Go Go.RowKit Go.Maps

/-- A pointer as an element of a map. -/
def ptrE : Value → Option (DataW Unit × List MemPlace)
  | .pointer none => some (.nil, [])
  | .pointer (some a) => if a.off = 0 ∧ a.spot = none then some (.lit (.int .i64 a.block), []) else none
  | _ => none
abbrev ptrD (b : Nat) : DataW Unit := .lit (.int .i64 b)
theorem ptrE_of (b : Nat) : ptrE (.pointer (some ⟨b, 0, none⟩)) = some (ptrD b, []) := by simp [ptrE]
theorem ptrE_nil {v : Value} {ps : List MemPlace} (h : ptrE v = some (.nil, ps)) : v = .pointer none := by
  unfold ptrE at h
  split at h
  · rfl
  · split at h
    · simp at h
    · cases h
  · cases h
theorem ptrE_some {v : Value} {ps : List MemPlace} {b : Nat} (h : ptrE v = some (ptrD b, ps)) : v = .pointer (some ⟨b, 0, none⟩) := by
  unfold ptrE at h
  split at h
  · simp at h
  · rename_i a
    split at h
    · rename_i hc
      obtain ⟨x, y, z⟩ := a
      simp at hc h
      obtain ⟨rfl, rfl⟩ := hc
      have : x = b := by omega
      subst this
      rfl
    · cases h
  · cases h
theorem ptrE_inv (v : Value) (y : DataW Unit × List MemPlace) (h : ptrE v = some y) : ∃ c : Option Nat, v = .pointer (c.map fun b => ⟨b, 0, none⟩) := by
  unfold ptrE at h
  split at h
  · exact ⟨none, rfl⟩
  · rename_i a
    split at h
    · rename_i hc
      obtain ⟨x, z, s⟩ := a
      simp at hc
      obtain ⟨rfl, rfl⟩ := hc
      exact ⟨some x, rfl⟩
    · cases h
  · cases h
theorem str_law : Keyed Tryz.prog 9 := Maps.string_keyed Tryz.underlying9
theorem str_inv (key : Value) (kl : Lit) (h : keyOf Tryz.prog 9 key = some kl) : ∃ s : ByteArray, key = .string s := by
  obtain ⟨s, h1, -, -⟩ := Go.WideMaps.string_of_keyOf Tryz.underlying9 h
  exact ⟨s, h1⟩
/-- A map of collections. -/
abbrev CollsAt (w : World) (mb n : Nat) (D : DataW Unit) : Prop := w.ownsMap Tryz.prog 9 ptrE mb n D
theorem CollsAt.keep {w w' : World} {mb n : Nat} {D : DataW Unit} (h : CollsAt w mb n D) (hb : Below w.heap.size w w') : CollsAt w' mb n D := by
  have hl := World.ownsMap.lt h
  obtain ⟨es, cl, hm, r⟩ := h
  exact ⟨es, cl, (hb.block _ hl).trans hm, r⟩
theorem run_makeMap_hint (n : Int) (w : World) : (Instr.makeMap 73 (some (.int .i64 n))).run Tryz.prog w = .ok (.map (some w.heap.size)) (w.alloc (.map #[] 0)) := by kernel_rfl
set_option maxHeartbeats 2000000 in
set_option maxRecDepth 100000 in
theorem copied_any (cb mb n : Nat) (D0 : DataW Unit) (w : World) (hc : w.cell? ⟨cb, 0, none⟩ = some (.map (some mb))) (hown : CollsAt w mb n D0) (hmax : Maps.size D0 ≤ 1000) :
    Calls Tryz.prog 52 #[.pointer (some ⟨cb, 0, none⟩)] w fun e w' => ∃ ob, e = .returned (.map (some ob)) ∧ CollsAt w' ob (Maps.size D0) D0 ∧ Below w.heap.size w w' ∧ w.heap.size ≤ ob := by
  have hmm := run_makeMap_hint
  have hln := hown.len Tryz.underlying73
  have hbl := World.ownsMap.lt hown
  have e1 : (w.alloc (.map #[] 0)).heap.size = w.heap.size + 1 := by simp
  have hc1 : (w.alloc (.map #[] 0)).cell? ⟨cb, 0, none⟩ = some (.map (some mb)) := cell_alloc' hc _
  go_enter Tryz.func52, Tryz.ntmps52
  go_wp2_with (first
    | (at_range; refine wpList_range_own _ rfl _ 73 rfl 9 59 str_law Tryz.underlying73 _ mb n _ rfl (hown.alloc _) ?_; intro w0 hrg0 hg0 hs0)
    | go_in)
  try go_frame
  rw [e1] at hrg0 hs0 ⊢
  clear hc hc1 hln
  go_loopw [4] (fun _ wr => ∃ (left : Lit → Bool) (cnt : Nat) (Dout : DataW Unit), wr.ranges Tryz.prog 9 ptrE mb (w.heap.size + 1) n D0 left cnt ∧ cnt ≤ Maps.size D0 ∧
      CollsAt wr w.heap.size (Maps.size D0 - cnt) Dout ∧ Agree Dout D0 left ∧ Below w.heap.size w wr)
    (fun _ wr => wr.rangeLeft mb (w.heap.size + 1))
  case atStart =>
    exact ⟨_, _, .map [], hrg0, Nat.le_refl _, ((World.ownsMap_made _ _ _ _).kept hg0 (by simp)).mono (Nat.zero_le _), agree_start D0, ((Below.refl _ _).alloc (Nat.le_refl _) _).grown hg0 (by simp) (fun j hj => by cases hj)⟩
  case round =>
    obtain ⟨left, cnt, Dout, hrg, hcs, hout, hA, hnx⟩ := hrel
    go_wp2_with (first
      | (at_next; refine wpList_next_ranges _ rfl _ rfl 9 str_law ptrE Value.string (fun c : Option Nat => Value.pointer (c.map fun b => ⟨b, 0, none⟩)) str_inv ptrE_inv mb (w.heap.size + 1) n _ _ _ rfl hrg ?_ ?_)
      | go_in)
    · intro hc0 hl0
      go_wp2_with fail
      go_ret
      subst hc0
      have e := agree_end hA hl0 (hout.canon str_law) (hown.canon str_law)
      subst e
      exact ⟨_, rfl, by simpa using hout, hnx, Nat.le_refl _⟩
    · intro x c kl y yp w1 cnt1 hkx hlx hvx hat hrg1 hlt hg1 hs1 hen
      have hout1 := hout.kept hg1 (by simp)
      go_wp2_with (first
        | (at_mapUpdate; refine wpList_mapUpdate_own _ rfl _ _ _ 73 rfl 9 59 str_law Tryz.underlying73 _ w.heap.size _ _ rfl hout1 (by unfold maxLen; omega) _ _ kl rfl rfl hkx y yp hvx ?_; intro w2 hout2 hg2; try go_frame)
        | go_in)
      have hrg2 := hrg1.kept hg2 (fun e => by have := Option.some.inj e; omega) (fun e => by have := Option.some.inj e; omega)
      go_roundw
      case rel =>
        exact ⟨_, cnt1, _, hrg2, by omega, hout2.mono (by omega), agree_step hA hout.isMap (str_law.key hkx) hat,
          (hnx.grown hg1 hnx.size (fun j hj => by cases hj; exact Nat.le_succ _)).grown hg2 (by have := hnx.size; omega) (fun j hj => by cases hj; exact Nat.le_refl _)⟩
      case measure => rw [hrg2.left_eq, hrg.left_eq]; exact hlt
end Go.Proofs.YtdghkmgkmfnjjaaGreatDoor
