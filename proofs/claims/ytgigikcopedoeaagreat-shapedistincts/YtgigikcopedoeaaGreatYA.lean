import Derived.Test.YtgigikcopedoeaaGreatXA
import Derived.Test.YtgigikcopedoeaaGreatLO
import Derived.Deep.RegionHeld3
/-! Two Values that are handed in, and their copies. -/
namespace Go.Proofs.YtgigikcopedoeaaGreat.Tree
open Go Go.RowKit

theorem live_a (w : World) : Calls Tryz.prog 9 #[] w fun e w' => e = .returned (.bool true) ∧ Below w.heap.size w w' := live6 w
/-- A variable of type Value: its box, and what it reads as. -/
def VB (W : World) (g : Nat) (k x : Int) (s : ByteArray) (an : Option Addr) (ln cn : Nat) (ai : Option Addr) (li ci : Nat) (t : Tr) : Prop :=
  W.heap[g]? = some (.cells #[.int .i64 k, .int .i64 x, .string s, .slice an ln cn, .slice ai li ci] 25 (0, 0)) ∧ VRep W t (five k x s (.slice an ln cn) (.slice ai li ci))
theorem VB.keep {W W' : World} {g : Nat} {k x : Int} {s : ByteArray} {an : Option Addr} {ln cn : Nat} {ai : Option Addr} {li ci : Nat} {t : Tr} (h : VB W g k x s an ln cn ai li ci t) (hb : Below W.heap.size W W') : VB W' g k x s an ln cn ai li ci t :=
  ⟨block_keep h.1 hb, VRep.keep hb _ _ h.2⟩
/-- What is read there whatever the boxes l hold. -/
def Off (W : World) (l : List Nat) (t : Tr) (cs : List Value) : Prop := ∀ W' : World, W.heap.size ≤ W'.heap.size → (∀ j, j ∉ l → j < W.heap.size → W'.heap[j]? = W.heap[j]?) → VRep W' t cs
theorem off_copy {A Y : World} {l : List Nat} {t : Tr} {cs : List Value} (hl : ∀ g ∈ l, g < A.heap.size) (hs : Seen Y (fun j => A.heap.size ≤ j) t cs) : Off Y l t cs :=
  fun W' h1 h2 => hs W' ⟨h1, fun p u hp hc => (World.cell?_of_block (w := Y) (h2 p.block (fun h => by have := hl _ h; omega) (cell_lt hc))).trans hc⟩
theorem off_alloc {Y : World} {l : List Nat} {t : Tr} {cs : List Value} (h : Off Y l t cs) (o : Obj) : Off (Y.alloc o) (Y.heap.size :: l) t cs := by
  intro W' h1 h2
  rw [World.size_alloc] at h1
  refine h W' (by omega) (fun j hj hlt => (h2 j ?_ (by rw [World.size_alloc]; omega)).trans (Below.heap_alloc _ _ _ hlt))
  intro hm
  rcases List.mem_cons.1 hm with e | e
  · omega
  · exact hj e
theorem off_keep {Y Z : World} {l : List Nat} {t : Tr} {cs : List Value} (h : Off Y l t cs) (hb : Below Y.heap.size Y Z) : Off Z l t cs :=
  fun W' h1 h2 => h W' (Nat.le_trans hb.size h1) (fun j hj hlt => (h2 j hj (Nat.lt_of_lt_of_le hlt hb.size)).trans (hb.block j hlt))
theorem off_end {W : World} {l : List Nat} {t : Tr} {cs : List Value} {g h : Nat} (ho : Off W l t cs) (hg : g ∈ l) (hh : h ∈ l) (a0 a1 a2 a3 a4 b0 b1 b2 b3 b4 : Value) : VRep (put5 (put5 W g a0 a1 a2 a3 a4) h b0 b1 b2 b3 b4) t cs :=
  ho _ (by rw [put5_size, put5_size]; exact Nat.le_refl _) (fun j hj _ => (put5_far _ _ _ _ _ (fun e => hj (by rw [e]; exact hh))).trans (put5_far _ _ _ _ _ (fun e => hj (by rw [e]; exact hg))))
theorem two_end {W : World} {g h : Nat} {l : List Nat} {V X : Tr} {k x : Int} {s : ByteArray} {an : Option Addr} {ln cn : Nat} {ai : Option Addr} {li ci : Nat} {k' x' : Int} {s' : ByteArray} {an' : Option Addr} {ln' cn' : Nat} {ai' : Option Addr} {li' ci' : Nat} {z z' : Value} {z1 z2 z3 z4 z1' z2' z3' z4' : Value}
    (n6 : W.heap[g]? = some (.cells #[z, z1, z2, z3, z4] 25 (0, 0))) (n7 : W.heap[h]? = some (.cells #[z', z1', z2', z3', z4'] 25 (0, 0))) (hne : g ≠ h) (o1 : Off W l V (five k x s (.slice an ln cn) (.slice ai li ci))) (o2 : Off W l X (five k' x' s' (.slice an' ln' cn') (.slice ai' li' ci'))) (m6 : g ∈ l) (m7 : h ∈ l) :
    VB (put5 (put5 W g (.int .i64 k) (.int .i64 x) (.string s) (.slice an ln cn) (.slice ai li ci)) h (.int .i64 k') (.int .i64 x') (.string s') (.slice an' ln' cn') (.slice ai' li' ci')) g k x s an ln cn ai li ci V ∧ VB (put5 (put5 W g (.int .i64 k) (.int .i64 x) (.string s) (.slice an ln cn) (.slice ai li ci)) h (.int .i64 k') (.int .i64 x') (.string s') (.slice an' ln' cn') (.slice ai' li' ci')) h k' x' s' an' ln' cn' ai' li' ci' X :=
  ⟨⟨(put5_far _ _ _ _ _ hne).trans (put5_at n6 _ _ _ _ _), off_end o1 m6 m7 _ _ _ _ _ _ _ _ _ _⟩, ⟨put5_at ((put5_far _ _ _ _ _ (Ne.symm hne)).trans n7) _ _ _ _ _, off_end o2 m6 m7 _ _ _ _ _ _ _ _ _ _⟩⟩
/-- Two boxes ahead of all else. -/
structure Two (w : World) (b1 b2 : Array Value) (wx : World) : Prop where
  below : Below w.heap.size w wx
  box1 : wx.heap[w.heap.size]? = some (.cells b1 25 (0, 0))
  box2 : wx.heap[w.heap.size + 1]? = some (.cells b2 25 (0, 0))
theorem Two.keep {w wx wy : World} {b1 b2 : Array Value} (h : Two w b1 b2 wx) (hb : Below wx.heap.size wx wy) : Two w b1 b2 wy :=
  ⟨h.below.trans (hb.mono h.below.size), block_keep h.box1 hb, block_keep h.box2 hb⟩
theorem Two.lt {w W : World} {b1 b2 : Array Value} (h : Two w b1 b2 W) : w.heap.size + 1 < W.heap.size := (Array.getElem?_eq_some_iff.1 h.box2).1
theorem Two.put {w W : World} {b1 b2 : Array Value} {g : Nat} (h : Two w b1 b2 W) (hg : w.heap.size + 1 < g) (a0 a1 a2 a3 a4 : Value) : Two w b1 b2 (put5 W g a0 a1 a2 a3 a4) :=
  ⟨h.below.trans (put5_below (by omega) _ _ _ _ _), (put5_far _ _ _ _ _ (by omega)).trans h.box1, (put5_far _ _ _ _ _ (by omega)).trans h.box2⟩
set_option maxHeartbeats 1000000 in
set_option maxRecDepth 100000 in
theorem equal_two (t : Tr) (k x : Int) (s : ByteArray) (an : Option Addr) (ln cn : Nat) (ai : Option Addr) (li ci : Nat) (k' x' : Int) (s' : ByteArray) (an' : Option Addr) (ln' cn' : Nat) (ai' : Option Addr) (li' ci' : Nat) (w : World) (hV : VRep w t (five k x s (.slice an ln cn) (.slice ai li ci))) (hV' : VRep w t (five k' x' s' (.slice an' ln' cn') (.slice ai' li' ci'))) :
    Calls Tryz.prog 10 #[.agg #[.int .i64 k, .int .i64 x, .string s, .slice an ln cn, .slice ai li ci], .agg #[.int .i64 k', .int .i64 x', .string s', .slice an' ln' cn', .slice ai' li' ci']] w fun e w' => e = .returned (.bool true) ∧ Below w.heap.size w w' := by
  have hb0 : ∀ o o', Below w.heap.size w ((w.alloc o).alloc o') := fun o o' => ((Below.refl _ w).alloc (Nat.le_refl _) o).alloc (by simp) o'
  have call := fun o o' => hid_e (equal_same t _ _ ((w.alloc o).alloc o') (VRep.keep (hb0 o o') _ _ hV) (VRep.keep (hb0 o o') _ _ hV'))
  replace hb0 := hid_e hb0
  clear hV hV'
  go_enter Tryz.func10, Tryz.ntmps10
  go_wp2_with fail
  refine (call _ _).out.mono ?_
  rintro e w1 ⟨rfl, hb1⟩
  replace hb1 := hid_e hb1
  clear call
  go_wp2_with fail
  go_ret
  exact ⟨rfl, (hb0.out _ _).trans (hb1.out.mono (hb0.out _ _).size)⟩
theorem psort_v (t : Tr) (k x : Int) (s : ByteArray) (an : Option Addr) (ln cn : Nat) (ai : Option Addr) (li ci : Nat) (w : World) (hV : VRep w t (five k x s (.slice an ln cn) (.slice ai li ci))) (hT : SmallT t) :
    Calls Tryz.prog 17 #[.agg #[.int .i64 k, .int .i64 x, .string s, .slice an ln cn, .slice ai li ci]] w (PSPost w (parseS t)) := by
  cases t with
  | node k1 x1 s1 ns its =>
    have h := hV
    unfold VRep at h
    obtain ⟨nm, a, c, e, -⟩ := h
    unfold five at e
    injection e with e0 e; injection e with e1 e; injection e with e2 e
    injection e0 with _ e0; injection e1 with _ e1; injection e2 with e2
    subst e0 e1 e2
    exact psort_any x s ns its k an ln cn ai li ci w hV hT
theorem rpsort_v (t : Tr) (k x : Int) (s : ByteArray) (an : Option Addr) (ln cn : Nat) (ai : Option Addr) (li ci : Nat) (w : World) (hV : VRep w t (five k x s (.slice an ln cn) (.slice ai li ci))) (hT : SmallT t) :
    Calls Tryz.prog 18 #[.agg #[.int .i64 k, .int .i64 x, .string s, .slice an ln cn, .slice ai li ci]] w (RPPost w (parseS t)) := by
  cases t with
  | node k1 x1 s1 ns its =>
    have h := hV
    unfold VRep at h
    obtain ⟨nm, a, c, e, -⟩ := h
    unfold five at e
    injection e with e0 e; injection e with e1 e; injection e with e2 e
    injection e0 with _ e0; injection e1 with _ e1; injection e2 with e2
    subst e0 e1 e2
    exact rpsort_any x s ns its k an ln cn ai li ci w hV hT
theorem SortSt.keys {w : World} {sb : Nat} {ts : List Turn} (h : SortSt w sb ts) : ∃ ao co, w.cell? ⟨sb, 0, none⟩ = some (.slice ao ts.length co) ∧ KeysAt .bool w ao ts := by
  obtain ⟨ao, co, xs, h1, h2, h3⟩ := h
  refine ⟨ao, co, ?_, row_keys h2 (h3 w ⟨Nat.le_refl _, fun _ _ _ h => h⟩)⟩
  simp [World.cell?, h1]
end Go.Proofs.YtgigikcopedoeaaGreat.Tree
