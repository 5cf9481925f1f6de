import Derived.Test.YthafhemlnninbaaGreatProg
import Derived.Test.YthafhemlnninbaaGreatMH
import Derived.WalkKit
import Derived.WalkLawsBesides
import Derived.Outline
import Derived.Below
import Derived.Deep.QuietTactic
import Derived.BigQuiet
import Derived.BigRegion
import Derived.Deep.MidRow
import Derived.Deep.RegionLaw
import Derived.Deep.RegionHeld3
import Derived.Deep.CutRange
import Derived.Deep.OwnRows
import Derived.LoopN
/-! Stable sorting over memory: rows of elements of 8 cells; swapRange. -/
namespace Go.Proofs.YthafhemlnninbaaGreat.Sorted
open Go Go.RowKit Go.Stab
theorem hid_of {p : Prop} (h : p) : Hid p := h
/-- All that was there is as it was, but for the block b. -/
structure But (b : Nat) (w w' : World) : Prop where
  os : w'.os = w.os
  tape : w'.tape = w.tape
  output : w'.output = w.output
  size : w.heap.size ≤ w'.heap.size
  block : ∀ k, k < w.heap.size → k ≠ b → w'.heap[k]? = w.heap[k]?
  shape : ∀ cur t f, w.heap[b]? = some (.cells cur t f) → ∃ cur', w'.heap[b]? = some (.cells cur' t f) ∧ cur'.size = cur.size
theorem But.refl (b : Nat) (w : World) : But b w w := ⟨rfl, rfl, rfl, Nat.le_refl _, fun _ _ _ => rfl, fun cur _ _ h => ⟨cur, h, rfl⟩⟩
theorem But.trans {b : Nat} {x y z : World} (h : But b x y) (k : But b y z) : But b x z :=
  ⟨k.os.trans h.os, k.tape.trans h.tape, k.output.trans h.output, Nat.le_trans h.size k.size, fun i hi hb => (k.block i (Nat.lt_of_lt_of_le hi h.size) hb).trans (h.block i hi hb), fun cur t f hc => by
    obtain ⟨c1, h1, s1⟩ := h.shape cur t f hc
    obtain ⟨c2, h2, s2⟩ := k.shape c1 t f h1
    exact ⟨c2, h2, s2.trans s1⟩⟩
theorem But.of_below {b : Nat} {w w' : World} (h : Below w.heap.size w w') : But b w w' := ⟨h.os, h.tape, h.output, h.size, fun k hk _ => h.block k hk, fun cur _ _ hc => ⟨cur, (h.block b (Array.getElem?_eq_some_iff.1 hc).1).trans hc, rfl⟩⟩
theorem But.drew {b : Nat} {x w : World} (h : But b x w) : But b x w.drew := ⟨h.os, h.tape, h.output, h.size, h.block, h.shape⟩
theorem setCells_but (b : Nat) : (vs : List Value) → (o : Nat) → (w : World) → But b w (w.setCells b o vs)
  | [], _, w => But.refl b w
  | v :: vs, o, w => by
    rw [World.setCells]
    have h : But b w (w.setCell ⟨b, o, none⟩ v) := ⟨rfl, rfl, rfl, by simp, fun k _ hk => Below.heap_setCell _ _ _ _ hk, fun cur t f hc => ⟨cur.setIfInBounds o v, by simp [World.setCell, Array.getElem?_modify, hc], by simp⟩⟩
    exact h.trans (setCells_but b vs (o + 1) _)
section
variable {α : Type}
/-- How an element lies in memory: 8 cells. -/
structure Enc (enc : α → Array Value) : Prop where
  size : ∀ x, (enc x).size = 8
  one : ∀ x, (enc x).all (·.oneCell') = true
/-- The elements D lie in block b. -/
def RowE (enc : α → Array Value) (w : World) (b : Nat) (D : List α) : Prop := ∀ j x, D[j]? = some x → w.rangeAt b (j * 8) (enc x).toList ∧ w.there b (j * 8) 8
variable {enc : α → Array Value}
theorem RowE.drew {w : World} {b : Nat} {D : List α} (h : RowE enc w b D) : RowE enc w.drew b D := fun j x hx => ⟨by simpa using (h j x hx).1, by simpa using (h j x hx).2⟩
theorem RowE.keep {w w' : World} {b : Nat} {D : List α} (h : RowE enc w b D) (hb : w'.heap[b]? = w.heap[b]?) : RowE enc w' b D := fun j x hx => by
  obtain ⟨h1, h2⟩ := h j x hx
  refine ⟨fun i v hv => (World.cell?_of_block hb).trans (h1 i v hv), fun i hi => ?_⟩
  obtain ⟨a1, a2⟩ := h2 i hi
  have hf : w'.frozen? ⟨b, j * 8 + i, none⟩ = w.frozen? ⟨b, j * 8 + i, none⟩ := by simp [World.frozen?, hb]
  exact ⟨by rw [World.cell?_of_block hb]; exact a1, hf.trans a2⟩
/-- An element is stored. -/
theorem RowE.set (E : Enc enc) {w : World} {b : Nat} {D : List α} (h : RowE enc w b D) {j : Nat} (hj : j < D.length) (y : α) : RowE enc (w.setCells b (j * 8) (enc y).toList) b (D.set j y) := fun i x hx => by
  have hys : (enc y).toList.length = 8 := by simp [E.size]
  obtain ⟨-, ht⟩ := h j _ (List.getElem?_eq_getElem hj)
  by_cases hij : i = j
  · subst hij
    rw [List.getElem?_set_self (by omega)] at hx
    cases hx
    exact ⟨World.rangeAt_setCells_same w b (i * 8) _ (by rw [hys]; exact ht), World.there_setCells ht b _ _⟩
  · rw [List.getElem?_set_ne (by omega)] at hx
    obtain ⟨h1, h2⟩ := h i x hx
    have hxs : (enc x).toList.length = 8 := by simp [E.size]
    refine ⟨World.rangeAt_setCells_apart h1 b (j * 8) _ ?_, World.there_setCells h2 b _ _⟩
    rw [hxs, hys]
    omega
/-- What the loop of swapRange has done behind i rounds. -/
def swapL (D : List α) (a c : Nat) : Nat → List α
  | 0 => D
  | i + 1 => match D[a + i]?, D[c + i]? with
    | some x, some y => ((swapL D a c i).set (a + i) y).set (c + i) x
    | _, _ => swapL D a c i
theorem swapL_length (D : List α) (a c : Nat) : ∀ i, (swapL D a c i).length = D.length
  | 0 => rfl
  | i + 1 => by
    unfold swapL
    split
    · simp [swapL_length D a c i]
    · exact swapL_length D a c i
theorem swapL_ahead (D : List α) (a c : Nat) : ∀ (i j : Nat), i ≤ j → a + j < c ∨ c + i ≤ a + j → (swapL D a c i)[a + j]? = D[a + j]?
  | 0, _, _, _ => rfl
  | i + 1, j, hij, hc => by
    unfold swapL
    split
    · rw [List.getElem?_set_ne (by omega), List.getElem?_set_ne (by omega)]
      exact swapL_ahead D a c i j (by omega) (by omega)
    · exact swapL_ahead D a c i j (by omega) (by omega)
theorem swapL_behind (D : List α) (a c : Nat) : ∀ (i j : Nat), i ≤ j → a + i ≤ c + j → (swapL D a c i)[c + j]? = D[c + j]?
  | 0, _, _, _ => rfl
  | i + 1, j, hij, hc => by
    unfold swapL
    split
    · rw [List.getElem?_set_ne (by omega), List.getElem?_set_ne (by omega)]
      exact swapL_behind D a c i j (by omega) (by omega)
    · exact swapL_behind D a c i j (by omega) (by omega)
end
section
variable {P : Program}
/-- A load of several cells at a step of a region that draws its order. -/
theorem step_load_mid {ops : Array Oper} {o : Oper} {a : Act} {w : World} {K : Act → World → Prop} {Q : Exit → Act → World → Prop} {F : Prop} (hgd : o.guard = none) (ty : TypeId) (x : Operand) (ho : o.op = .load ty x)
    (b off : Nat) (hx : a.eval x = .pointer (some ⟨b, off, none⟩)) (cs : List Value) (d : TypeDesc) (hc : w.rangeAt b off cs)
    (hu : P.underlying ty = some d) (hd : d.isRow = true) (hi : (P.info? ty).map (·.size) = some cs.length)
    (h : K (a.put o.dst (.agg cs.toArray)) w) : if Region.wanted o (yielded ops a.tmps) = true then Oper.wp P o a w K Q else F := by
  have hw : Region.wanted o (yielded ops a.tmps) = true := by simp [Region.wanted, hgd]
  rw [if_pos hw]
  exact wp_load_mid ty x ho b off hx cs d hc hu hd hi h
theorem step_store_mid {ops : Array Oper} {o : Oper} {a : Act} {w : World} {K : Act → World → Prop} {Q : Exit → Act → World → Prop} {F : Prop} (hgd : o.guard = none) (ty : TypeId) (x y : Operand) (ho : o.op = .store ty x y)
    (b off : Nat) (cells : Array Value) (hx : a.eval x = .pointer (some ⟨b, off, none⟩)) (hy : a.eval y = .agg cells)
    (ht : w.there b off cells.size) (hi : (P.info? ty).map (·.size) = some cells.size) (h1 : cells.all (·.oneCell') = true)
    (h : K (a.put o.dst undef) (w.setCells b off cells.toList)) : if Region.wanted o (yielded ops a.tmps) = true then Oper.wp P o a w K Q else F := by
  have hw : Region.wanted o (yielded ops a.tmps) = true := by simp [Region.wanted, hgd]
  rw [if_pos hw]
  exact wp_store_mid ty x y ho b off cells hx hy ht hi h1 h
end
theorem item_u : Tryz.prog.underlying 73 = some (Tryz.prog.underlying 73).get! := by kernel_rfl
theorem item_r : ((Tryz.prog.underlying 73).get!).isRow = true := by kernel_rfl
theorem item_i : (Tryz.prog.info? 73).map (·.size) = some 8 := by kernel_rfl
end Go.Proofs.YthafhemlnninbaaGreat.Sorted
