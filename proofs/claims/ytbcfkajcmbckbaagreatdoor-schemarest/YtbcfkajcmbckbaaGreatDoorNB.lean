import Derived.Test.YtbcfkajcmbckbaaGreatDoorProg
import Derived.Test.YtbcfkajcmbckbaaGreatDoorMH
import Derived.WalkKit
import Derived.WalkLawsBesides
import Derived.Outline
import Derived.Below
import Derived.Deep.QuietTactic
import Derived.BigQuiet
import Derived.BigRegion
import Derived.Deep.MidRow
import Derived.Deep.RegionLaw
import Derived.Deep.RegionHeld3
import Derived.Deep.CutRange
import Derived.Deep.OwnRows
import Derived.LoopN
/-! Stable sorting over memory: rows of elements of 2 cells; swapRange. -/
namespace Go.Proofs.YtbcfkajcmbckbaaGreatDoor.SortM
open Go Go.RowKit Go.Stab
theorem hid_of {p : Prop} (h : p) : Hid p := h
/-- All that was there is as it was, but for the block b. -/
structure But (b : Nat) (w w' : World) : Prop where
  os : w'.os = w.os
  tape : w'.tape = w.tape
  output : w'.output = w.output
  size : w.heap.size ≤ w'.heap.size
  block : ∀ k, k < w.heap.size → k ≠ b → w'.heap[k]? = w.heap[k]?
  shape : ∀ cur t f, w.heap[b]? = some (.cells cur t f) → ∃ cur', w'.heap[b]? = some (.cells cur' t f) ∧ cur'.size = cur.size
theorem But.refl (b : Nat) (w : World) : But b w w := ⟨rfl, rfl, rfl, Nat.le_refl _, fun _ _ _ => rfl, fun cur _ _ h => ⟨cur, h, rfl⟩⟩
theorem But.trans {b : Nat} {x y z : World} (h : But b x y) (k : But b y z) : But b x z :=
  ⟨k.os.trans h.os, k.tape.trans h.tape, k.output.trans h.output, Nat.le_trans h.size k.size, fun i hi hb => (k.block i (Nat.lt_of_lt_of_le hi h.size) hb).trans (h.block i hi hb), fun cur t f hc => by
    obtain ⟨c1, h1, s1⟩ := h.shape cur t f hc
    obtain ⟨c2, h2, s2⟩ := k.shape c1 t f h1
    exact ⟨c2, h2, s2.trans s1⟩⟩
theorem But.of_below {b : Nat} {w w' : World} (h : Below w.heap.size w w') : But b w w' := ⟨h.os, h.tape, h.output, h.size, fun k hk _ => h.block k hk, fun cur _ _ hc => ⟨cur, (h.block b (Array.getElem?_eq_some_iff.1 hc).1).trans hc, rfl⟩⟩
theorem But.drew {b : Nat} {x w : World} (h : But b x w) : But b x w.drew := ⟨h.os, h.tape, h.output, h.size, h.block, h.shape⟩
theorem setCells_but (b : Nat) : (vs : List Value) → (o : Nat) → (w : World) → But b w (w.setCells b o vs)
  | [], _, w => But.refl b w
  | v :: vs, o, w => by
    rw [World.setCells]
    have h : But b w (w.setCell ⟨b, o, none⟩ v) := ⟨rfl, rfl, rfl, by simp, fun k _ hk => Below.heap_setCell _ _ _ _ hk, fun cur t f hc => ⟨cur.setIfInBounds o v, by simp [World.setCell, Array.getElem?_modify, hc], by simp⟩⟩
    exact h.trans (setCells_but b vs (o + 1) _)
section
variable {α : Type}
/-- How an element lies in memory: 2 cells. -/
structure Enc (enc : α → Array Value) : Prop where
  size : ∀ x, (enc x).size = 2
  one : ∀ x, (enc x).all (·.oneCell') = true
/-- The elements D lie in block b. -/
def RowE (enc : α → Array Value) (w : World) (b : Nat) (D : List α) : Prop := ∀ j x, D[j]? = some x → w.rangeAt b (j * 2) (enc x).toList ∧ w.there b (j * 2) 2
variable {enc : α → Array Value}
theorem RowE.drew {w : World} {b : Nat} {D : List α} (h : RowE enc w b D) : RowE enc w.drew b D := fun j x hx => ⟨by simpa using (h j x hx).1, by simpa using (h j x hx).2⟩
theorem RowE.keep {w w' : World} {b : Nat} {D : List α} (h : RowE enc w b D) (hb : w'.heap[b]? = w.heap[b]?) : RowE enc w' b D := fun j x hx => by
  obtain ⟨h1, h2⟩ := h j x hx
  refine ⟨fun i v hv => (World.cell?_of_block hb).trans (h1 i v hv), fun i hi => ?_⟩
  obtain ⟨a1, a2⟩ := h2 i hi
  have hf : w'.frozen? ⟨b, j * 2 + i, none⟩ = w.frozen? ⟨b, j * 2 + i, none⟩ := by simp [World.frozen?, hb]
  exact ⟨by rw [World.cell?_of_block hb]; exact a1, hf.trans a2⟩
/-- An element is stored. -/
theorem RowE.set (E : Enc enc) {w : World} {b : Nat} {D : List α} (h : RowE enc w b D) {j : Nat} (hj : j < D.length) (y : α) : RowE enc (w.setCells b (j * 2) (enc y).toList) b (D.set j y) := fun i x hx => by
  have hys : (enc y).toList.length = 2 := by simp [E.size]
  obtain ⟨-, ht⟩ := h j _ (List.getElem?_eq_getElem hj)
  by_cases hij : i = j
  · subst hij
    rw [List.getElem?_set_self (by omega)] at hx
    cases hx
    exact ⟨World.rangeAt_setCells_same w b (i * 2) _ (by rw [hys]; exact ht), World.there_setCells ht b _ _⟩
  · rw [List.getElem?_set_ne (by omega)] at hx
    obtain ⟨h1, h2⟩ := h i x hx
    have hxs : (enc x).toList.length = 2 := by simp [E.size]
    refine ⟨World.rangeAt_setCells_apart h1 b (j * 2) _ ?_, World.there_setCells h2 b _ _⟩
    rw [hxs, hys]
    omega
/-- What the loop of swapRange has done behind i rounds. -/
def swapL (D : List α) (a c : Nat) : Nat → List α
  | 0 => D
  | i + 1 => match D[a + i]?, D[c + i]? with
    | some x, some y => ((swapL D a c i).set (a + i) y).set (c + i) x
    | _, _ => swapL D a c i
theorem swapL_length (D : List α) (a c : Nat) : ∀ i, (swapL D a c i).length = D.length
  | 0 => rfl
  | i + 1 => by
    unfold swapL
    split
    · simp [swapL_length D a c i]
    · exact swapL_length D a c i
theorem swapL_ahead (D : List α) (a c : Nat) : ∀ (i j : Nat), i ≤ j → a + j < c ∨ c + i ≤ a + j → (swapL D a c i)[a + j]? = D[a + j]?
  | 0, _, _, _ => rfl
  | i + 1, j, hij, hc => by
    unfold swapL
    split
    · rw [List.getElem?_set_ne (by omega), List.getElem?_set_ne (by omega)]
      exact swapL_ahead D a c i j (by omega) (by omega)
    · exact swapL_ahead D a c i j (by omega) (by omega)
theorem swapL_behind (D : List α) (a c : Nat) : ∀ (i j : Nat), i ≤ j → a + i ≤ c + j → (swapL D a c i)[c + j]? = D[c + j]?
  | 0, _, _, _ => rfl
  | i + 1, j, hij, hc => by
    unfold swapL
    split
    · rw [List.getElem?_set_ne (by omega), List.getElem?_set_ne (by omega)]
      exact swapL_behind D a c i j (by omega) (by omega)
    · exact swapL_behind D a c i j (by omega) (by omega)
end
section
variable {P : Program}
/-- A load of several cells at a step of a region that draws its order. -/
theorem step_load_mid {ops : Array Oper} {o : Oper} {a : Act} {w : World} {K : Act → World → Prop} {Q : Exit → Act → World → Prop} {F : Prop} (hgd : o.guard = none) (ty : TypeId) (x : Operand) (ho : o.op = .load ty x)
    (b off : Nat) (hx : a.eval x = .pointer (some ⟨b, off, none⟩)) (cs : List Value) (d : TypeDesc) (hc : w.rangeAt b off cs)
    (hu : P.underlying ty = some d) (hd : d.isRow = true) (hi : (P.info? ty).map (·.size) = some cs.length)
    (h : K (a.put o.dst (.agg cs.toArray)) w) : if Region.wanted o (yielded ops a.tmps) = true then Oper.wp P o a w K Q else F := by
  have hw : Region.wanted o (yielded ops a.tmps) = true := by simp [Region.wanted, hgd]
  rw [if_pos hw]
  exact wp_load_mid ty x ho b off hx cs d hc hu hd hi h
theorem step_store_mid {ops : Array Oper} {o : Oper} {a : Act} {w : World} {K : Act → World → Prop} {Q : Exit → Act → World → Prop} {F : Prop} (hgd : o.guard = none) (ty : TypeId) (x y : Operand) (ho : o.op = .store ty x y)
    (b off : Nat) (cells : Array Value) (hx : a.eval x = .pointer (some ⟨b, off, none⟩)) (hy : a.eval y = .agg cells)
    (ht : w.there b off cells.size) (hi : (P.info? ty).map (·.size) = some cells.size) (h1 : cells.all (·.oneCell') = true)
    (h : K (a.put o.dst undef) (w.setCells b off cells.toList)) : if Region.wanted o (yielded ops a.tmps) = true then Oper.wp P o a w K Q else F := by
  have hw : Region.wanted o (yielded ops a.tmps) = true := by simp [Region.wanted, hgd]
  rw [if_pos hw]
  exact wp_store_mid ty x y ho b off cells hx hy ht hi h1 h
end
theorem item_u : Tryz.prog.underlying 170 = some (Tryz.prog.underlying 170).get! := by kernel_rfl
theorem item_r : ((Tryz.prog.underlying 170).get!).isRow = true := by kernel_rfl
theorem item_i : (Tryz.prog.info? 170).map (·.size) = some 2 := by kernel_rfl
end Go.Proofs.YtbcfkajcmbckbaaGreatDoor.SortM
/-! Stable sorting over memory: swapRange. -/
namespace Go.Proofs.YtbcfkajcmbckbaaGreatDoor.SortM
open Go Go.RowKit Go.Stab
theorem wrap_in {n : Int} (h0 : 0 ≤ n) (h1 : n ≤ 9223372036854775807) : IntKind.i64.wrap n = n := by rw [IntKind.wrap_i64]; omega
theorem seven {a : Array Value} (h : a.size = 2) : ∃ x0 x1, a = #[x0, x1] := by
  obtain ⟨l⟩ := a
  simp at h
  match l, h with
  | [x0, x1], _ => exact ⟨x0, x1, rfl⟩
theorem run_st (w : World) (p : Addr) (v : Value) (h1 : v.oneCell' = true) (h2 : (w.cell? p).isSome = true) (h3 : w.frozen? p = false) : (store p v).run Tryz.prog w = .ok () (w.setCell p v) := by
  obtain ⟨u, hu⟩ := Option.isSome_iff_exists.1 h2
  rw [run_store Tryz.prog w p v _ h1, hu]
  simp [h3]
section
variable {α : Type} {enc : α → Array Value}
set_option maxRecDepth 100000 in
set_option maxHeartbeats 4000000 in
theorem swapRange_any (E : Enc enc) (D : List α) (b n cap a c m : Nat) (cmp : Value) (w : World) (hR : RowE enc w b D) (hn : D.length = n) (hac : a + m ≤ c) (hcm : c + m ≤ n) (hnn : n ≤ 4611686018427387904) :
    Calls Tryz.prog 113 #[.slice (some ⟨b, 0, none⟩) n cap, .int .i64 a, .int .i64 c, .int .i64 m, cmp] w fun e w' => e = .returned (.tuple #[]) ∧ RowE enc w' b (swapL D a c m) ∧ But b w w' := by
  replace hR := hid_of hR
  replace hn := hid_of hn
  go_enter Tryz.func113, Tryz.ntmps113
  go_wp2_with fail
  go_loopw [10] (fun iv wr => ∃ i : Nat, iv = .int .i64 i ∧ i ≤ m ∧ Hid (RowE enc wr b (swapL D a c i)) ∧ Hid (But b w wr)) (fun iv _ => m - (intOf iv).toNat)
  case atStart => exact ⟨0, rfl, Nat.zero_le _, hR, hid_of (But.refl b w)⟩
  case round =>
    obtain ⟨i, rfl, him, hRi, hBi⟩ := hrel
    by_cases hi : i < m
    · have i1 : (i : Int) < (m : Int) := by omega
      obtain ⟨x, hx⟩ : ∃ x, Hid (D[a + i]? = some x) := ⟨D[a + i]'(by have := hn.out; omega), List.getElem?_eq_getElem (by have := hn.out; omega)⟩
      obtain ⟨y, hy⟩ : ∃ y, Hid (D[c + i]? = some y) := ⟨D[c + i]'(by have := hn.out; omega), List.getElem?_eq_getElem (by have := hn.out; omega)⟩
      obtain ⟨A, hA⟩ : ∃ A, Hid (a + i = A) := ⟨_, rfl⟩
      obtain ⟨C, hC⟩ : ∃ C, Hid (c + i = C) := ⟨_, rfl⟩
      have eA : IntKind.i64.wrap ((a : Int) + (i : Int)) = (A : Int) := by rw [wrap_in (by omega) (by omega)]; have := hA.out; omega
      have eC : IntKind.i64.wrap ((c : Int) + (i : Int)) = (C : Int) := by rw [wrap_in (by omega) (by omega)]; have := hC.out; omega
      have bA : (A : Int) < (n : Int) := by have := hA.out; omega
      have bC : (C : Int) < (n : Int) := by have := hC.out; omega
      have pA : (0 : Int) ≤ (A : Int) := by omega
      have pC : (0 : Int) ≤ (C : Int) := by omega
      have hx' : (swapL D a c i)[A]? = some x := by rw [← hA.out, swapL_ahead D a c i i (Nat.le_refl _) (by omega)]; exact hx.out
      have hy' : (swapL D a c i)[C]? = some y := by rw [← hC.out, swapL_behind D a c i i (Nat.le_refl _) (by omega)]; exact hy.out
      obtain ⟨gx1, gx2⟩ := hRi.out A x hx'
      obtain ⟨gy1, gy2⟩ := hRi.out C y hy'
      have hlA : A < (swapL D a c i).length := (List.getElem?_eq_some_iff.1 hx').1
      have hlC : C < (swapL D a c i).length := (List.getElem?_eq_some_iff.1 hy').1
      have hend : Hid (RowE enc ((wr.setCells b (A * 2) (enc y).toList).setCells b (C * 2) (enc x).toList).drew b (swapL D a c (i + 1)) ∧ But b w ((wr.setCells b (A * 2) (enc y).toList).setCells b (C * 2) (enc x).toList).drew) := by
        refine ⟨?_, ((hBi.out.trans (setCells_but b _ _ _)).trans (setCells_but b _ _ _)).drew⟩
        have h2 := (hRi.out.set E hlA y).set E (j := C) (by simpa using hlC) x
        have e : swapL D a c (i + 1) = ((swapL D a c i).set A y).set C x := by
          rw [swapL, hx.out, hy.out, hA.out, hC.out]
        rw [e]
        exact h2.drew
      obtain ⟨x0, x1, ex⟩ := seven (E.size x)
      obtain ⟨y0, y1, ey⟩ := seven (E.size y)
      have ox : ∀ (r : Nat) u, (enc x)[r]? = some u → u.oneCell' = true := fun r u hu => Array.all_eq_true_iff_forall_mem.1 (E.one x) u (Array.mem_of_getElem? hu)
      have oy : ∀ (r : Nat) u, (enc y)[r]? = some u → u.oneCell' = true := fun r u hu => Array.all_eq_true_iff_forall_mem.1 (E.one y) u (Array.mem_of_getElem? hu)
      have gx1 : ∀ (r : Nat) u, (enc x)[r]? = some u → wr.cell? ⟨b, A * 2 + r, none⟩ = some u := fun r u hu => by have := gx1 r u (by simpa using hu); simpa using this
      have gy1 : ∀ (r : Nat) u, (enc y)[r]? = some u → wr.cell? ⟨b, C * 2 + r, none⟩ = some u := fun r u hu => by have := gy1 r u (by simpa using hu); simpa using this
      have gx2 : ∀ (r : Nat), r < 2 → (wr.cell? ⟨b, A * 2 + r, none⟩).isSome = true ∧ wr.frozen? ⟨b, A * 2 + r, none⟩ = false := fun r hr => by have := gx2 r hr; simpa using this
      have gy2 : ∀ (r : Nat), r < 2 → (wr.cell? ⟨b, C * 2 + r, none⟩).isSome = true ∧ wr.frozen? ⟨b, C * 2 + r, none⟩ = false := fun r hr => by have := gy2 r hr; simpa using this
      have xc0 : wr.cell? ⟨b, A * 2, none⟩ = some x0 := gx1 0 x0 (by rw [ex]; rfl)
      have xf0 : wr.frozen? ⟨b, A * 2, none⟩ = false := (gx2 0 (by omega)).2
      have xo0 : x0.oneCell' = true := ox 0 x0 (by rw [ex]; rfl)
      have xc1 : wr.cell? ⟨b, A * 2 + 1, none⟩ = some x1 := gx1 1 x1 (by rw [ex]; rfl)
      have xf1 : wr.frozen? ⟨b, A * 2 + 1, none⟩ = false := (gx2 1 (by omega)).2
      have xo1 : x1.oneCell' = true := ox 1 x1 (by rw [ex]; rfl)
      have yc0 : wr.cell? ⟨b, C * 2, none⟩ = some y0 := gy1 0 y0 (by rw [ey]; rfl)
      have yf0 : wr.frozen? ⟨b, C * 2, none⟩ = false := (gy2 0 (by omega)).2
      have yo0 : y0.oneCell' = true := oy 0 y0 (by rw [ey]; rfl)
      have yc1 : wr.cell? ⟨b, C * 2 + 1, none⟩ = some y1 := gy1 1 y1 (by rw [ey]; rfl)
      have yf1 : wr.frozen? ⟨b, C * 2 + 1, none⟩ = false := (gy2 1 (by omega)).2
      have yo1 : y1.oneCell' = true := oy 1 y1 (by rw [ey]; rfl)
      have n1 : ∀ r s, r < 2 → s < 2 → (C * 2 + r = A * 2 + s) = False := fun r s h1 h2 => eq_false (by have := hA.out; have := hC.out; omega)
      have n2 : ∀ s, s < 2 → (C * 2 = A * 2 + s) = False := fun s h2 => eq_false (by have := hA.out; have := hC.out; omega)
      have n3 : ∀ r, r < 2 → (C * 2 + r = A * 2) = False := fun r h1 => eq_false (by have := hA.out; have := hC.out; omega)
      have n4 : (C * 2 = A * 2) = False := eq_false (by have := hA.out; have := hC.out; omega)
      have n5 : ∀ r s, r < 2 → s < 2 → (A * 2 + s = C * 2 + r) = False := fun r s h1 h2 => eq_false (by have := hA.out; have := hC.out; omega)
      have n6 : ∀ s, s < 2 → (A * 2 + s = C * 2) = False := fun s h2 => eq_false (by have := hA.out; have := hC.out; omega)
      have n7 : ∀ r, r < 2 → (A * 2 = C * 2 + r) = False := fun r h1 => eq_false (by have := hA.out; have := hC.out; omega)
      have n8 : (A * 2 = C * 2) = False := eq_false (by have := hA.out; have := hC.out; omega)
      rw [ex, ey] at hend
      clear hx' hy' gx1 gy1 gx2 gy2 hlA hlC hRi hBi ox oy
      have hst := run_st
      go_upto_region 3 with fail
      go_region
      all_goals
        obtain ⟨X, hX⟩ : ∃ X, Hid (((((wr.setCell ⟨b, A * 2, none⟩ y0).setCell ⟨b, A * 2 + 1, none⟩ y1).setCell ⟨b, C * 2, none⟩ x0).setCell ⟨b, C * 2 + 1, none⟩ x1).drew = X) := ⟨_, rfl⟩
        have hfin : Hid (RowE enc X b (swapL D a c (i + 1)) ∧ But b w X) := by rw [← hX.out]; exact hend.out
        rw [hX.out]
        clear hend hst n1 n2 n3 n4 n5 n6 n7 n8 xc0 xf0 xo0 xc1 xf1 xo1 yc0 yf0 yo0 yc1 yf1 yo1
        go_wp2_with fail
        exact ⟨⟨i + 1, by go_num, by omega, hfin.out.1, hfin.out.2⟩, by simp [intOf]; omega⟩
    · have i1 : ¬ (i : Int) < (m : Int) := by omega
      obtain rfl : i = m := by omega
      go_wp2_with fail
      exact bodyPost_end (results_none rfl _ _ _) rfl ⟨rfl, hRi.out, hBi.out⟩
end
end Go.Proofs.YtbcfkajcmbckbaaGreatDoor.SortM
/-! Stable sorting over memory: rotate. -/
namespace Go.Proofs.YtbcfkajcmbckbaaGreatDoor.SortM
open Go Go.RowKit Go.Stab
section
variable {α : Type}
theorem swapL_get (D : List α) (a c : Nat) : ∀ i, a + i ≤ c → c + i ≤ D.length → ∀ j : Nat, (swapL D a c i)[j]? = if a ≤ j ∧ j < a + i then D[c + (j - a)]? else if c ≤ j ∧ j < c + i then D[a + (j - c)]? else D[j]?
  | 0, _, _, j => by
    rw [if_neg (by omega), if_neg (by omega)]
    rfl
  | i + 1, h1, h2, j => by
    have ih := swapL_get D a c i (by omega) (by omega)
    have ex : D[a + i]? = some D[a + i] := List.getElem?_eq_getElem (by omega)
    have ey : D[c + i]? = some D[c + i] := List.getElem?_eq_getElem (by omega)
    rw [swapL, ex, ey]
    show (((swapL D a c i).set (a + i) D[c + i]).set (c + i) D[a + i])[j]? = _
    have hl := swapL_length D a c i
    by_cases j1 : j = c + i
    · subst j1
      rw [List.getElem?_set_self (by simp; omega), if_neg (by omega), if_pos (by omega), ← ex]
      congr 1
      omega
    · rw [List.getElem?_set_ne (by omega)]
      by_cases j2 : j = a + i
      · subst j2
        rw [List.getElem?_set_self (by omega), if_pos (by omega), ← ey]
        congr 1
        omega
      · rw [List.getElem?_set_ne (by omega), ih j]
        by_cases j3 : a ≤ j ∧ j < a + i
        · rw [if_pos j3, if_pos (by omega)]
        · rw [if_neg j3, if_neg (c := a ≤ j ∧ j < a + (i + 1)) (by omega)]
          by_cases j4 : c ≤ j ∧ j < c + i
          · rw [if_pos j4, if_pos (by omega)]
          · rw [if_neg j4, if_neg (by omega)]
theorem swapL_app (A U M V B : List α) (h : V.length = U.length) : swapL (A ++ (U ++ (M ++ (V ++ B)))) A.length (A.length + U.length + M.length) U.length = A ++ (V ++ (M ++ (U ++ B))) := by
  refine List.ext_getElem? (fun j => ?_)
  rw [swapL_get _ _ _ _ (by omega) (by simp; omega)]
  by_cases j1 : j < A.length
  · rw [if_neg (by omega), if_neg (by omega), List.getElem?_append_left j1, List.getElem?_append_left j1]
  · rw [List.getElem?_append_right (l₁ := A) (l₂ := V ++ (M ++ (U ++ B))) (by omega)]
    by_cases j2 : j < A.length + U.length
    · rw [if_pos (by omega), List.getElem?_append_right (by omega), List.getElem?_append_right (by omega), List.getElem?_append_right (by omega), List.getElem?_append_left (by omega), List.getElem?_append_left (by omega)]
      congr 1
      omega
    · rw [if_neg (by omega), List.getElem?_append_right (l₁ := V) (by omega)]
      by_cases j3 : j < A.length + U.length + M.length
      · rw [if_neg (by omega), List.getElem?_append_right (by omega), List.getElem?_append_right (by omega), List.getElem?_append_left (by omega), List.getElem?_append_left (by omega)]
        congr 1
        omega
      · rw [List.getElem?_append_right (l₁ := M) (l₂ := U ++ B) (by omega)]
        by_cases j4 : j < A.length + U.length + M.length + U.length
        · rw [if_pos (by omega), List.getElem?_append_right (by omega), List.getElem?_append_left (by omega), List.getElem?_append_left (by omega)]
          congr 1
          omega
        · rw [if_neg (by omega), List.getElem?_append_right (by omega), List.getElem?_append_right (by omega), List.getElem?_append_right (by omega), List.getElem?_append_right (by omega), List.getElem?_append_right (by omega)]
          congr 1
          omega
variable {enc : α → Array Value}
/-- Where the rotation stands: what is to come of A, U, V, B. -/
structure Rot (enc : α → Array Value) (w0 : World) (b n m : Nat) (T : List α) (i j : Nat) (w : World) (A U V B : List α) : Prop where
  iu : U.length = i
  jv : V.length = j
  am : A.length + i = m
  ip : 0 < i
  jp : 0 < j
  len : A.length + i + j + B.length = n
  row : RowE enc w b (A ++ (U ++ (V ++ B)))
  goal : A ++ (V ++ (U ++ B)) = T
  but : But b w0 w
theorem Rot.left {w0 w w' : World} {b n m i j : Nat} {T A U V B : List α} (h : Rot enc w0 b n m T i j w A U V B) (hij : j < i) (hr : RowE enc w' b (swapL (A ++ (U ++ (V ++ B))) A.length m j)) (hb : But b w w') : Rot enc w0 b n m T (i - j) j w' (A ++ V) (U.drop j) (U.take j) B := by
  have e1 : U = U.take j ++ U.drop j := (List.take_append_drop j U).symm
  have l1 : (U.take j).length = j := by rw [List.length_take, h.iu]; omega
  have l2 : (U.drop j).length = i - j := by rw [List.length_drop, h.iu]
  have hs := swapL_app A (U.take j) (U.drop j) V B (by rw [l1, h.jv])
  rw [l1, l2, show A.length + j + (i - j) = m by have := h.am; omega] at hs
  rw [show A ++ (U ++ (V ++ B)) = A ++ (U.take j ++ (U.drop j ++ (V ++ B))) by rw [← List.append_assoc (U.take j), ← e1], hs] at hr
  refine ⟨l2, l1, by rw [List.length_append, h.jv]; have := h.am; omega, by omega, h.jp, by rw [List.length_append, h.jv]; have := h.len; omega, ?_, ?_, h.but.trans hb⟩
  · rw [List.append_assoc]; exact hr
  · rw [← h.goal, List.append_assoc, ← List.append_assoc (U.take j), ← e1]
theorem Rot.right {w0 w w' : World} {b n m i j : Nat} {T A U V B : List α} (h : Rot enc w0 b n m T i j w A U V B) (hij : i < j) (hr : RowE enc w' b (swapL (A ++ (U ++ (V ++ B))) A.length (m + j - i) i)) (hb : But b w w') : Rot enc w0 b n m T i (j - i) w' A (V.drop (j - i)) (V.take (j - i)) (U ++ B) := by
  have e1 : V = V.take (j - i) ++ V.drop (j - i) := (List.take_append_drop (j - i) V).symm
  have l1 : (V.take (j - i)).length = j - i := by rw [List.length_take, h.jv]; omega
  have l2 : (V.drop (j - i)).length = i := by rw [List.length_drop, h.jv]; omega
  have hs := swapL_app A U (V.take (j - i)) (V.drop (j - i)) B (by rw [l2, h.iu])
  rw [l1, h.iu, show A.length + i + (j - i) = m + j - i by have := h.am; omega] at hs
  rw [show A ++ (U ++ (V ++ B)) = A ++ (U ++ (V.take (j - i) ++ (V.drop (j - i) ++ B))) by rw [← List.append_assoc (V.take (j - i)), ← e1], hs] at hr
  refine ⟨l2, l1, h.am, h.ip, by omega, by rw [List.length_append, h.iu]; have := h.len; omega, hr, ?_, h.but.trans hb⟩
  rw [← h.goal, ← List.append_assoc (V.take (j - i)), ← e1]
theorem Rot.last {w0 w w' : World} {b n m i : Nat} {T A U V B : List α} (h : Rot enc w0 b n m T i i w A U V B) (hr : RowE enc w' b (swapL (A ++ (U ++ (V ++ B))) A.length m i)) (hb : But b w w') : RowE enc w' b T ∧ But b w0 w' := by
  have hs := swapL_app A U [] V B (by rw [h.jv, h.iu])
  rw [h.iu, List.length_nil, Nat.add_zero, h.am] at hs
  simp only [List.nil_append] at hs
  rw [hs, h.goal] at hr
  exact ⟨hr, h.but.trans hb⟩
theorem Rot.dlen {w0 w : World} {b n m i j : Nat} {T A U V B : List α} (h : Rot enc w0 b n m T i j w A U V B) : (A ++ (U ++ (V ++ B))).length = n := by
  simp only [List.length_append, h.iu, h.jv]
  have := h.len
  omega
set_option maxRecDepth 100000 in
set_option maxHeartbeats 4000000 in
theorem rotate_any (E : Enc enc) (A U V B : List α) (b n cap a m c : Nat) (cmp : Value) (w : World) (hR : RowE enc w b (A ++ (U ++ (V ++ B)))) (ha : A.length = a) (hm : A.length + U.length = m) (hc : m + V.length = c) (hn : c + B.length = n) (hU : 0 < U.length) (hV : 0 < V.length) (hnn : n ≤ 4611686018427387904) :
    Calls Tryz.prog 112 #[.slice (some ⟨b, 0, none⟩) n cap, .int .i64 a, .int .i64 m, .int .i64 c, cmp] w fun e w' => e = .returned (.tuple #[]) ∧ RowE enc w' b (A ++ (V ++ (U ++ B))) ∧ But b w w' := by
  obtain ⟨T, hT⟩ : ∃ T, Hid (A ++ (V ++ (U ++ B)) = T) := ⟨_, rfl⟩
  rw [hT.out]
  have h0 : Hid (Rot enc w b n m T U.length V.length w A U V B) := ⟨rfl, rfl, hm, hU, hV, by omega, hR, hT.out, But.refl b w⟩
  have f1 : (a : Int) ≤ (m : Int) := by omega
  have f2 : (m : Int) ≤ (c : Int) := by omega
  have f3 : (c : Int) ≤ 4611686018427387904 := by omega
  have f5 : c ≤ n := by omega
  have f4 : (0 : Int) ≤ (a : Int) := by omega
  have e1 : Hid ((m : Int) - (a : Int) = ((U.length : Nat) : Int)) := by show (m : Int) - (a : Int) = ((U.length : Nat) : Int); omega
  have e2 : Hid ((c : Int) - (m : Int) = ((V.length : Nat) : Int)) := by show (c : Int) - (m : Int) = ((V.length : Nat) : Int); omega
  clear hR ha hm hc hU hV hT
  go_enter Tryz.func112, Tryz.ntmps112
  go_wp2_with fail
  rw [e1.out, e2.out]
  go_loopw [10, 11] (fun iv jv wr => ∃ (i j : Nat) (A U V B : List α), iv = .int .i64 i ∧ jv = .int .i64 j ∧ Hid (Rot enc w b n m T i j wr A U V B)) (fun iv jv _ => (intOf iv).toNat + (intOf jv).toNat)
  case atStart => exact ⟨_, _, A, U, V, B, rfl, rfl, h0⟩
  case round =>
    clear h0 e1 e2 hn A B
    obtain ⟨i, j, A, U, V, B, rfl, rfl, hr⟩ := hrel
    obtain ⟨p, hp⟩ : ∃ p, Hid (A.length = p) := ⟨_, rfl⟩
    have q1 : p + i = m := by rw [← hp.out]; exact hr.out.am
    have q2 : p + i + j ≤ n := by rw [← hp.out]; have := hr.out.len; omega
    have q3 := hr.out.ip
    have q4 := hr.out.jp
    have g1 : (i : Int) ≤ (m : Int) := by omega
    have g2 : (0 : Int) ≤ (i : Int) := by omega
    have g3 : (m : Int) + (j : Int) ≤ 4611686018427387904 := by omega
    have g4 : (0 : Int) ≤ (j : Int) := by omega
    have ep : Hid ((m : Int) - (i : Int) = (p : Int)) := by show (m : Int) - (i : Int) = (p : Int); omega
    by_cases hij : i = j
    · subst hij
      have hsw := hid_of (swapRange_any E _ b n cap p m i cmp wr hr.out.row hr.out.dlen (by omega) (by omega) hnn)
      have hk : Hid (∀ w', RowE enc w' b (swapL (A ++ (U ++ (V ++ B))) p m i) → But b wr w' → RowE enc w' b T ∧ But b w w') := by
        intro w' h1 h2
        rw [← hp.out] at h1
        exact hr.out.last h1 h2
      clear hr hp
      go_wp2_with fail
      rw [ep.out]
      refine hsw.out.mono ?_
      rintro e w' ⟨rfl, h1, h2⟩
      have hz := hid_of (hk.out w' h1 h2)
      clear hsw hk h1 h2
      go_wp2_with fail
      exact bodyPost_end (results_none rfl _ _ _) rfl ⟨rfl, hz.out.1, hz.out.2⟩
    · have hne : ¬ (i : Int) = (j : Int) := by omega
      by_cases hlt : j < i
      · have hlt' : (j : Int) < (i : Int) := by omega
        have hsw := hid_of (swapRange_any E _ b n cap p m j cmp wr hr.out.row hr.out.dlen (by omega) (by omega) hnn)
        have hk : Hid (∀ w', RowE enc w' b (swapL (A ++ (U ++ (V ++ B))) p m j) → But b wr w' → ∃ A U V B, Rot enc w b n m T (i - j) j w' A U V B) := by
          intro w' h1 h2
          rw [← hp.out] at h1
          exact ⟨_, _, _, _, hr.out.left hlt h1 h2⟩
        have ed : Hid ((i : Int) - (j : Int) = ((i - j : Nat) : Int)) := by show (i : Int) - (j : Int) = ((i - j : Nat) : Int); omega
        clear hr hp
        go_wp2_with fail
        rw [ep.out]
        refine hsw.out.mono ?_
        rintro e w' ⟨rfl, h1, h2⟩
        have hz := hid_of (hk.out w' h1 h2)
        clear hsw hk h1 h2
        go_wp2_with fail
        obtain ⟨A, U, V, B, hz⟩ := hz.out
        exact ⟨⟨i - j, j, A, U, V, B, by rw [ed.out], rfl, hz⟩, by simp [intOf]; omega⟩
      · have hlt' : ¬ (j : Int) < (i : Int) := by omega
        have hsw := hid_of (swapRange_any E _ b n cap p (m + j - i) i cmp wr hr.out.row hr.out.dlen (by omega) (by omega) hnn)
        have hk : Hid (∀ w', RowE enc w' b (swapL (A ++ (U ++ (V ++ B))) p (m + j - i) i) → But b wr w' → ∃ A U V B, Rot enc w b n m T i (j - i) w' A U V B) := by
          intro w' h1 h2
          rw [← hp.out] at h1
          exact ⟨_, _, _, _, hr.out.right (by omega) h1 h2⟩
        have ed : Hid ((j : Int) - (i : Int) = ((j - i : Nat) : Int)) := by show (j : Int) - (i : Int) = ((j - i : Nat) : Int); omega
        have es : Hid ((m : Int) + (j : Int) - (i : Int) = ((m + j - i : Nat) : Int)) := by show (m : Int) + (j : Int) - (i : Int) = ((m + j - i : Nat) : Int); omega
        clear hr hp
        go_wp2_with fail
        rw [ep.out, es.out]
        refine hsw.out.mono ?_
        rintro e w' ⟨rfl, h1, h2⟩
        have hz := hid_of (hk.out w' h1 h2)
        clear hsw hk h1 h2
        go_wp2_with fail
        obtain ⟨A, U, V, B, hz⟩ := hz.out
        exact ⟨⟨i, j - i, A, U, V, B, rfl, by rw [ed.out], hz⟩, by simp [intOf]; omega⟩
end
end Go.Proofs.YtbcfkajcmbckbaaGreatDoor.SortM
/-! Stable sorting over memory: the sort by insertion. -/
namespace Go.Proofs.YtbcfkajcmbckbaaGreatDoor.SortM
open Go Go.RowKit Go.Stab
theorem k_quiet_if {c : Bool} {p q : Prop} (h : c = true) (hp : p) : if c = true then p else q := by rw [if_pos h]; exact hp
theorem k_quiet_else {c : Bool} {p q : Prop} (h : c = false) (hq : q) : if c = true then p else q := by rw [if_neg (by simp [h])]; exact hq
section
variable {α : Type} {enc : α → Array Value}
theorem isort_few (lt : α → α → Bool) {l : List α} (h : l.length ≤ 1) : isort lt l = l := by
  match l, h with
  | [], _ => rfl
  | [x], _ => simp [isort, mergeL]
/-- Where the insertion of y stands: behind L1, ahead of L2. -/
structure Ins (enc : α → Array Value) (lt : α → α → Bool) (w0 : World) (b n : Nat) (A S : List α) (y : α) (R : List α) (j : Nat) (w : World) (L1 L2 : List α) : Prop where
  spl : L1 ++ L2 = S
  at_ : A.length + L1.length = j
  len : A.length + S.length + 1 + R.length = n
  row : RowE enc w b (A ++ (L1 ++ (y :: (L2 ++ R))))
  up : ∀ x ∈ L2, lt y x = true
  but : But b w0 w
theorem Ins.dlen {lt : α → α → Bool} {w0 w : World} {b n j : Nat} {A S R L1 L2 : List α} {y : α} (h : Ins enc lt w0 b n A S y R j w L1 L2) : (A ++ (L1 ++ (y :: (L2 ++ R)))).length = n := by
  have h1 := congrArg List.length h.spl
  have h2 := h.len
  simp at h1 ⊢
  omega
theorem set_two (A L : List α) (x y : α) (t : List α) (p : Nat) (hp : A.length + L.length = p) : ((A ++ ((L ++ [x]) ++ (y :: t))).set (p + 1) x).set p y = A ++ (L ++ (y :: ((x :: t)))) := by
  have e : A ++ ((L ++ [x]) ++ (y :: t)) = (A ++ L) ++ (x :: y :: t) := by simp
  have hl : (A ++ L).length = p := by simp [hp]
  rw [e, List.set_append_right _ _ (by omega), List.set_append_right _ _ (by omega), hl, show p + 1 - p = 1 by omega, show p - p = 0 by omega]
  simp
theorem Ins.put {lt : α → α → Bool} {w0 w w' : World} {b n j p : Nat} {A S R L L2 : List α} {x y : α} (h : Ins enc lt w0 b n A S y R j w (L ++ [x]) L2) (hj : p + 1 = j) (hlt : lt y x = true) (hr : RowE enc w' b (((A ++ ((L ++ [x]) ++ (y :: (L2 ++ R)))).set j x).set p y)) (hb : But b w w') : Ins enc lt w0 b n A S y R p w' L (x :: L2) := by
  have hp : A.length + L.length = p := by have := h.at_; simp at this; omega
  subst hj
  rw [set_two A L x y _ p hp] at hr
  refine ⟨by rw [← h.spl]; simp, hp, h.len, hr, fun z hz => ?_, h.but.trans hb⟩
  rcases List.mem_cons.1 hz with rfl | hz
  · exact hlt
  · exact h.up z hz
theorem Ins.done {lt : α → α → Bool} (W : Swo lt) {w0 w : World} {b n j : Nat} {A S R L1 L2 : List α} {y : α} (h : Ins enc lt w0 b n A S y R j w L1 L2) (hS : Up lt S) (hlt : ∀ L x, L1 = L ++ [x] → lt y x = false) : A ++ (L1 ++ (y :: (L2 ++ R))) = A ++ (mergeL lt S [y] ++ R) := by
  rw [← h.spl, mergeL_last lt y L1 L2 ?_ h.up]
  · simp
  · rcases List.eq_nil_or_concat L1 with e | ⟨L, x, e⟩
    · rw [e]; intro x hx; cases hx
    · have hx := hlt L x (by simpa using e)
      have e' : L1 = L ++ [x] := by simpa using e
      intro z hz
      rw [← h.spl, e'] at hS
      have hu := (Up.append (Up.append hS).1).2.2
      rw [e'] at hz
      rcases List.mem_append.1 hz with hz | hz
      · exact W.neg y x z hx (hu z hz x (by simp))
      · rw [List.mem_singleton.1 hz]; exact hx
theorem lt_of_cell {W : World} {p : Addr} {v : Value} (h : W.cell? p = some v) : p.block < W.heap.size := by
  rcases Nat.lt_or_ge p.block W.heap.size with h' | h'
  · exact h'
  · simp [World.cell?, Array.getElem?_eq_none h'] at h
theorem stay {w w' : World} (h : Below w.heap.size w w') {p : Addr} {v : Value} (hc : w.cell? p = some v) : w'.cell? p = some v := (h.cell (lt_of_cell hc)).trans hc
theorem RowE.lt {w : World} {b : Nat} {D : List α} (h : RowE enc w b D) {j : Nat} {x : α} (hx : D[j]? = some x) : b < w.heap.size := by
  obtain ⟨-, h2⟩ := h j x hx
  have h3 := (h2 0 (by omega)).1
  obtain ⟨u, hu⟩ := Option.isSome_iff_exists.1 h3
  exact lt_of_cell hu
theorem Ins.keep {lt : α → α → Bool} {w0 w w' : World} {b n j : Nat} {A S R L1 L2 : List α} {y : α} (h : Ins enc lt w0 b n A S y R j w L1 L2) (hb : Below w.heap.size w w') : Ins enc lt w0 b n A S y R j w' L1 L2 := by
  refine ⟨h.spl, h.at_, h.len, h.row.keep (hb.block b (h.row.lt (j := A.length + L1.length) (x := y) ?_)), h.up, h.but.trans (But.of_below hb)⟩
  rw [List.getElem?_append_right (by omega), List.getElem?_append_right (by omega)]
  simp
set_option maxRecDepth 100000 in
set_option maxHeartbeats 4000000 in
theorem insert_any (E : Enc enc) {lt : α → α → Bool} (O : Swo lt) {b : Nat} {w0 : World} (cn : α → α → Int) (hlt : ∀ x y, lt x y = decide (cn x y < 0)) (hcmp : ∀ x y W, But b w0 W → Calls Tryz.prog 106 #[.agg (enc x), .agg (enc y)] W fun e w' => e = .returned (.int .i64 (cn x y)) ∧ Below W.heap.size W w')
    (A M B : List α) (n cap a c : Nat) (w : World) (hw0 : But b w0 w) (hR : RowE enc w b (A ++ (M ++ B))) (ha : A.length = a) (hc : a + M.length = c) (hn : c + B.length = n) (hnn : n ≤ 4611686018427387904) :
    Calls Tryz.prog 110 #[.slice (some ⟨b, 0, none⟩) n cap, .int .i64 a, .int .i64 c, .func (.func 106) #[] #[]] w fun e w' => e = .returned (.tuple #[]) ∧ RowE enc w' b (A ++ (isort lt M ++ B)) ∧ But b w w' := by
  replace hlt := hid_of hlt
  replace hcmp := hid_of hcmp
  replace hw0 := hid_of hw0
  have h0 : Hid (RowE enc w b (A ++ (isort lt (M.take (0 + 1)) ++ (M.drop (0 + 1) ++ B)))) := by
    rw [isort_few lt (by simp; omega), ← List.append_assoc (M.take _), List.take_append_drop]
    exact hR
  have f1 : (a : Int) ≤ (c : Int) := by omega
  have f2 : (c : Int) ≤ (n : Int) := by omega
  have f3 : (n : Int) ≤ 4611686018427387904 := by omega
  have f4 : (0 : Int) ≤ (a : Int) := by omega
  have f5 : (a : Int) ≤ 4611686018427387904 := by omega
  replace ha := hid_of ha
  replace hc := hid_of hc
  replace hn := hid_of hn
  clear hR
  go_enter Tryz.func110, Tryz.ntmps110
  go_wp2_with fail
  go_loopw [8] (fun iv wr => ∃ i k : Nat, iv = .int .i64 i ∧ i = a + 1 + k ∧ (k + 1 ≤ M.length ∨ k = 0) ∧ Hid (RowE enc wr b (A ++ (isort lt (M.take (k + 1)) ++ (M.drop (k + 1) ++ B)))) ∧ Hid (But b w wr)) (fun iv _ => c - (intOf iv).toNat)
  case atStart => exact ⟨a + 1, 0, by go_num, rfl, .inr rfl, h0, hid_of (But.refl b w)⟩
  case round =>
    clear h0
    obtain ⟨i, k, rfl, hi, hk, hRi, hBi⟩ := hrel
    by_cases hic : i < c
    · have i1 : (i : Int) < (c : Int) := by omega
      have hk' : k + 1 < M.length := by have := hc.out; omega
      obtain ⟨S, hS⟩ : ∃ S, Hid (isort lt (M.take (k + 1)) = S) := ⟨_, rfl⟩
      obtain ⟨y, hy⟩ : ∃ y, Hid (M[k + 1] = y) := ⟨M[k + 1], rfl⟩
      have hd : M.drop (k + 1) = y :: M.drop (k + 1 + 1) := by rw [← hy.out]; exact List.drop_eq_getElem_cons hk'
      have hnx : Hid (isort lt (M.take (k + 1 + 1)) = mergeL lt S [y]) := by
        show isort lt (M.take (k + 1 + 1)) = mergeL lt S [y]
        rw [List.take_succ_eq_append_getElem hk', isort_snoc, hS.out, hy.out]
      have hSl : S.length = k + 1 := by rw [← hS.out, isort_length, List.length_take]; omega
      have hSu : Hid (Up lt S) := by rw [← hS.out]; exact isort_up O _
      have hi0 : Hid (Ins enc lt w b n A S y (M.drop (k + 1 + 1) ++ B) i wr S []) := by
        refine ⟨by simp, by rw [ha.out, hSl]; omega, ?_, ?_, by simp, hBi.out⟩
        · have := hn.out; have := hc.out; have := ha.out; simp; omega
        · have := hRi.out
          rw [hS.out, hd] at this
          simpa using this
      replace hi := hid_of hi
      replace hk' := hid_of hk'
      have i2 : (0 : Int) ≤ (i : Int) := by omega
      have hfin : Hid (∀ j wr L1 L2, Ins enc lt w b n A S y (M.drop (k + 1 + 1) ++ B) j wr L1 L2 → (∀ L x, L1 = L ++ [x] → lt y x = false) → Hid (RowE enc wr b (A ++ (isort lt (M.take (k + 1 + 1)) ++ (M.drop (k + 1 + 1) ++ B)))) ∧ Hid (But b w wr)) := by
        intro j wr L1 L2 h1 h2
        refine ⟨?_, h1.but⟩
        have h3 := h1.row
        rw [h1.done O hSu.out h2] at h3
        rw [hnx.out]
        exact h3
      clear hRi hBi hS hy hd hk hic hSl hnx hSu
      go_wp2_with fail
      go_loopw [9] (fun jv wr => ∃ (j : Nat) (L1 L2 : List α), jv = .int .i64 j ∧ Hid (Ins enc lt w b n A S y (M.drop (k + 1 + 1) ++ B) j wr L1 L2)) (fun jv _ => (intOf jv).toNat)
      case atStart => exact ⟨i, S, [], rfl, hi0⟩
      case round =>
        obtain ⟨j, L1, L2, rfl, hI⟩ := hrel
        rcases List.eq_nil_or_concat L1 with e | ⟨L, x, e⟩
        · subst e
          have hj : j = a := by have := hI.out.at_; have := ha.out; simp at *; omega
          have hz := hid_of (fun w' hw' => hfin.out _ w' _ _ (hI.out.keep (w' := w') hw') (fun L x e => by simp at e))
          have j1 : ¬ (a : Int) < (j : Int) := by omega
          have j2 : j ≤ a := by omega
          replace hj := hid_of hj
          clear hI hfin
          go_wp2_with fail
          refine wp_region_quiet (C := fun w' => Below wr.heap.size wr w') (by kernel_rfl) (by kernel_rfl) (below_drewN (Below.refl _ _) 1) ?_
          with_reducible refine wpQuiet_step (fun K hK => ?_)
          refine ⟨.int .i64 j, fun w' _ => ?_, ?_⟩
          · first | (go_simp; done) | (go_simp; decide) | (go_simp; omega)
          with_reducible refine hK _ ?_
          clear hK K
          simp only [Act.put, List.setIfInBounds_toArray, List.set_cons_zero, List.set_cons_succ]
          with_reducible refine wpQuiet_step (fun K hK => ?_)
          refine ⟨.int .i64 a, fun w' _ => ?_, ?_⟩
          · first | (go_simp; done) | (go_simp; decide) | (go_simp; omega)
          with_reducible refine hK _ ?_
          clear hK K
          simp only [Act.put, List.setIfInBounds_toArray, List.set_cons_zero, List.set_cons_succ]
          with_reducible refine wpQuiet_step (fun K hK => ?_)
          refine ⟨.bool false, fun w' _ => ?_, ?_⟩
          · first | (go_simp; done) | (go_simp; decide) | (go_simp; omega)
          with_reducible refine hK _ ?_
          clear hK K
          simp only [Act.put, List.setIfInBounds_toArray, List.set_cons_zero, List.set_cons_succ]
          with_reducible refine wpQuiet_step (fun K hK => ?_)
          refine ⟨.bool false, fun w' _ => ?_, ?_⟩
          · first | (go_simp; done) | (go_simp; decide) | (go_simp; omega)
          with_reducible refine hK _ ?_
          clear hK K
          simp only [Act.put, List.setIfInBounds_toArray, List.set_cons_zero, List.set_cons_succ]
          with_reducible refine wpQuiet_step (fun K hK => ?_)
          refine k_quiet_else (by kernel_rfl) ?_
          with_reducible refine hK _ ?_
          clear hK K
          simp only [Act.put, List.setIfInBounds_toArray, List.set_cons_zero, List.set_cons_succ]
          with_reducible refine wpQuiet_step (fun K hK => ?_)
          refine k_quiet_else (by kernel_rfl) ?_
          with_reducible refine hK _ ?_
          clear hK K
          simp only [Act.put, List.setIfInBounds_toArray, List.set_cons_zero, List.set_cons_succ]
          with_reducible refine wpQuiet_step (fun K hK => ?_)
          refine k_quiet_else (by kernel_rfl) ?_
          with_reducible refine hK _ ?_
          clear hK K
          simp only [Act.put, List.setIfInBounds_toArray, List.set_cons_zero, List.set_cons_succ]
          with_reducible refine wpQuiet_step (fun K hK => ?_)
          refine k_quiet_else (by kernel_rfl) ?_
          with_reducible refine hK _ ?_
          clear hK K
          simp only [Act.put, List.setIfInBounds_toArray, List.set_cons_zero, List.set_cons_succ]
          with_reducible refine wpQuiet_step (fun K hK => ?_)
          refine k_quiet_else (by kernel_rfl) ?_
          with_reducible refine hK _ ?_
          clear hK K
          simp only [Act.put, List.setIfInBounds_toArray, List.set_cons_zero, List.set_cons_succ]
          with_reducible refine wpQuiet_step (fun K hK => ?_)
          refine k_quiet_else (by kernel_rfl) ?_
          with_reducible refine hK _ ?_
          clear hK K
          simp only [Act.put, List.setIfInBounds_toArray, List.set_cons_zero, List.set_cons_succ]
          with_reducible refine wpQuiet_step (fun K hK => ?_)
          refine k_quiet_else (by kernel_rfl) ?_
          with_reducible refine hK _ ?_
          clear hK K
          simp only [Act.put, List.setIfInBounds_toArray, List.set_cons_zero, List.set_cons_succ]
          with_reducible refine wpQuiet_step (fun K hK => ?_)
          refine k_quiet_else (by kernel_rfl) ?_
          with_reducible refine hK _ ?_
          clear hK K
          simp only [Act.put, List.setIfInBounds_toArray, List.set_cons_zero, List.set_cons_succ]
          with_reducible refine wpQuiet_step (fun K hK => ?_)
          refine k_quiet_else (by kernel_rfl) ?_
          with_reducible refine hK _ ?_
          clear hK K
          simp only [Act.put, List.setIfInBounds_toArray, List.set_cons_zero, List.set_cons_succ]
          with_reducible refine wpQuiet_step (fun K hK => ?_)
          refine k_quiet_else (by kernel_rfl) ?_
          with_reducible refine hK _ ?_
          clear hK K
          simp only [Act.put, List.setIfInBounds_toArray, List.set_cons_zero, List.set_cons_succ]
          with_reducible refine wpQuiet_step (fun K hK => ?_)
          refine k_quiet_else (by kernel_rfl) ?_
          with_reducible refine hK _ ?_
          clear hK K
          simp only [Act.put, List.setIfInBounds_toArray, List.set_cons_zero, List.set_cons_succ]
          with_reducible refine wpQuiet_step (fun K hK => ?_)
          refine k_quiet_else (by kernel_rfl) ?_
          with_reducible refine hK _ ?_
          clear hK K
          simp only [Act.put, List.setIfInBounds_toArray, List.set_cons_zero, List.set_cons_succ]
          with_reducible refine wpQuiet_step (fun K hK => ?_)
          refine ⟨.bool false, fun w' _ => ?_, ?_⟩
          · first | (go_simp; done) | (go_simp; decide) | (go_simp; omega)
          with_reducible refine hK _ ?_
          clear hK K
          simp only [Act.put, List.setIfInBounds_toArray, List.set_cons_zero, List.set_cons_succ]
          refine wpQuiet_nil ?_
          intro X1 hX1
          have hz' := hid_of (hz.out _ hX1)
          clear hz hX1
          go_wp2_with fail
          exact ⟨⟨i + 1, k + 1, by go_num, by have := hi.out; omega, .inl hk'.out, hz'.out.1, hz'.out.2⟩, by simp [intOf]; omega⟩
        · have e' : L1 = L ++ [x] := by simpa using e
          subst e'
          clear e
          obtain ⟨p, hp⟩ : ∃ p, Hid (A.length + L.length = p) := ⟨_, rfl⟩
          have hpj : p + 1 = j := by have := hI.out.at_; have := hp.out; simp at *; omega
          have hjn : j < n := by have := hI.out.dlen; have := hI.out.at_; simp at *; omega
          have hap : a ≤ p := by have := ha.out; have := hp.out; omega
          have j1 : (a : Int) < (j : Int) := by omega
          have j2 : (j : Int) < (n : Int) := by omega
          have j3 : (0 : Int) ≤ (j : Int) := by omega
          have j4 : (p : Int) < (n : Int) := by omega
          have j5 : (0 : Int) ≤ (p : Int) := by omega
          have j6 : IntKind.i64.wrap ((j : Int) - 1) = (p : Int) := by rw [wrap_in (by omega) (by omega)]; omega
          have hy' : (A ++ ((L ++ [x]) ++ (y :: (L2 ++ (M.drop (k + 1 + 1) ++ B)))))[j]? = some y := by
            rw [List.getElem?_append_right (by have := hp.out; omega), List.getElem?_append_right (by have := hp.out; simp; omega)]
            have : j - A.length - (L ++ [x]).length = 0 := by have := hp.out; simp; omega
            rw [this]; rfl
          have hx' : (A ++ ((L ++ [x]) ++ (y :: (L2 ++ (M.drop (k + 1 + 1) ++ B)))))[p]? = some x := by
            rw [List.getElem?_append_right (by have := hp.out; omega), List.getElem?_append_left (by have := hp.out; simp; omega), List.getElem?_append_right (by have := hp.out; omega)]
            have : p - A.length - L.length = 0 := by have := hp.out; omega
            rw [this]; rfl
          obtain ⟨gx1, gx2⟩ := hI.out.row p x hx'
          obtain ⟨gy1, gy2⟩ := hI.out.row j y hy'
          replace hpj := hid_of hpj
          clear hjn hap
          obtain ⟨x0, x1, ex⟩ := seven (E.size x)
          obtain ⟨y0, y1, ey⟩ := seven (E.size y)
          have gx1 : ∀ (r : Nat) u, (enc x)[r]? = some u → wr.cell? ⟨b, p * 2 + r, none⟩ = some u := fun r u hu => by have := gx1 r u (by simpa using hu); simpa using this
          have gy1 : ∀ (r : Nat) u, (enc y)[r]? = some u → wr.cell? ⟨b, j * 2 + r, none⟩ = some u := fun r u hu => by have := gy1 r u (by simpa using hu); simpa using this
          have xc0 : wr.cell? ⟨b, p * 2, none⟩ = some x0 := gx1 0 x0 (by rw [ex]; rfl)
          have xc1 : wr.cell? ⟨b, p * 2 + 1, none⟩ = some x1 := gx1 1 x1 (by rw [ex]; rfl)
          have yc0 : wr.cell? ⟨b, j * 2, none⟩ = some y0 := gy1 0 y0 (by rw [ey]; rfl)
          have yc1 : wr.cell? ⟨b, j * 2 + 1, none⟩ = some y1 := gy1 1 y1 (by rw [ey]; rfl)
          have hwB := hid_of (hw0.out.trans hI.out.but)
          have hcx := hid_of (hcmp.out y x)
          rw [ex, ey] at hcx
          clear gx1 gx2 gy1 gy2
          replace hx' := hid_of hx'
          replace hy' := hid_of hy'
          go_wp2_with fail
          refine wp_region_quiet (C := fun w' => Below wr.heap.size wr w') (by kernel_rfl) (by kernel_rfl) (below_drewN (Below.refl _ _) 1) ?_
          with_reducible refine wpQuiet_step (fun K hK => ?_)
          try refine k_quiet_if (by kernel_rfl) ?_
          refine ⟨.int .i64 j, fun w' _ => ?_, ?_⟩
          · first | (go_simp; done) | (go_simp; decide)
          with_reducible refine hK _ ?_
          clear hK K
          simp only [Act.put, List.setIfInBounds_toArray, List.set_cons_zero, List.set_cons_succ]
          with_reducible refine wpQuiet_step (fun K hK => ?_)
          try refine k_quiet_if (by kernel_rfl) ?_
          refine ⟨.int .i64 a, fun w' _ => ?_, ?_⟩
          · first | (go_simp; done) | (go_simp; decide)
          with_reducible refine hK _ ?_
          clear hK K
          simp only [Act.put, List.setIfInBounds_toArray, List.set_cons_zero, List.set_cons_succ]
          with_reducible refine wpQuiet_step (fun K hK => ?_)
          try refine k_quiet_if (by kernel_rfl) ?_
          refine ⟨.bool true, fun w' _ => ?_, ?_⟩
          · first | (go_simp; done) | (go_simp; decide)
          with_reducible refine hK _ ?_
          clear hK K
          simp only [Act.put, List.setIfInBounds_toArray, List.set_cons_zero, List.set_cons_succ]
          with_reducible refine wpQuiet_step (fun K hK => ?_)
          try refine k_quiet_if (by kernel_rfl) ?_
          refine ⟨.bool true, fun w' _ => ?_, ?_⟩
          · first | (go_simp; done) | (go_simp; decide)
          with_reducible refine hK _ ?_
          clear hK K
          simp only [Act.put, List.setIfInBounds_toArray, List.set_cons_zero, List.set_cons_succ]
          with_reducible refine wpQuiet_step (fun K hK => ?_)
          try refine k_quiet_if (by kernel_rfl) ?_
          refine ⟨.func (.func 106) #[] #[], fun w' _ => ?_, ?_⟩
          · first | (go_simp; done) | (go_simp; decide)
          with_reducible refine hK _ ?_
          clear hK K
          simp only [Act.put, List.setIfInBounds_toArray, List.set_cons_zero, List.set_cons_succ]
          with_reducible refine wpQuiet_step (fun K hK => ?_)
          try refine k_quiet_if (by kernel_rfl) ?_
          refine ⟨.slice (some ⟨b, 0, none⟩) n cap, fun w' _ => ?_, ?_⟩
          · first | (go_simp; done) | (go_simp; decide)
          with_reducible refine hK _ ?_
          clear hK K
          simp only [Act.put, List.setIfInBounds_toArray, List.set_cons_zero, List.set_cons_succ]
          with_reducible refine wpQuiet_step (fun K hK => ?_)
          try refine k_quiet_if (by kernel_rfl) ?_
          refine ⟨.int .i64 j, fun w' _ => ?_, ?_⟩
          · first | (go_simp; done) | (go_simp; decide)
          with_reducible refine hK _ ?_
          clear hK K
          simp only [Act.put, List.setIfInBounds_toArray, List.set_cons_zero, List.set_cons_succ]
          with_reducible refine wpQuiet_step (fun K hK => ?_)
          try refine k_quiet_if (by kernel_rfl) ?_
          refine ⟨.pointer (some ⟨b, j * 2, none⟩), fun w' _ => ?_, ?_⟩
          · first | (go_simp; done) | (go_simp; decide)
          with_reducible refine hK _ ?_
          clear hK K
          simp only [Act.put, List.setIfInBounds_toArray, List.set_cons_zero, List.set_cons_succ]
          with_reducible refine wpQuiet_step (fun K hK => ?_)
          try refine k_quiet_if (by kernel_rfl) ?_
          refine ⟨.agg #[y0, y1], fun w' hw' => ?_, ?_⟩
          · have t0 := stay hw' yc0
            have t1 := stay hw' yc1
            go_simp
          with_reducible refine hK _ ?_
          clear hK K
          simp only [Act.put, List.setIfInBounds_toArray, List.set_cons_zero, List.set_cons_succ]
          with_reducible refine wpQuiet_step (fun K hK => ?_)
          try refine k_quiet_if (by kernel_rfl) ?_
          refine ⟨.slice (some ⟨b, 0, none⟩) n cap, fun w' _ => ?_, ?_⟩
          · first | (go_simp; done) | (go_simp; decide)
          with_reducible refine hK _ ?_
          clear hK K
          simp only [Act.put, List.setIfInBounds_toArray, List.set_cons_zero, List.set_cons_succ]
          with_reducible refine wpQuiet_step (fun K hK => ?_)
          try refine k_quiet_if (by kernel_rfl) ?_
          refine ⟨.int .i64 j, fun w' _ => ?_, ?_⟩
          · first | (go_simp; done) | (go_simp; decide)
          with_reducible refine hK _ ?_
          clear hK K
          simp only [Act.put, List.setIfInBounds_toArray, List.set_cons_zero, List.set_cons_succ]
          with_reducible refine wpQuiet_step (fun K hK => ?_)
          try refine k_quiet_if (by kernel_rfl) ?_
          refine ⟨.int .i64 p, fun w' _ => ?_, ?_⟩
          · first | (go_simp; done) | (go_simp; decide)
          with_reducible refine hK _ ?_
          clear hK K
          simp only [Act.put, List.setIfInBounds_toArray, List.set_cons_zero, List.set_cons_succ]
          with_reducible refine wpQuiet_step (fun K hK => ?_)
          try refine k_quiet_if (by kernel_rfl) ?_
          refine ⟨.pointer (some ⟨b, p * 2, none⟩), fun w' _ => ?_, ?_⟩
          · first | (go_simp; done) | (go_simp; decide)
          with_reducible refine hK _ ?_
          clear hK K
          simp only [Act.put, List.setIfInBounds_toArray, List.set_cons_zero, List.set_cons_succ]
          with_reducible refine wpQuiet_step (fun K hK => ?_)
          try refine k_quiet_if (by kernel_rfl) ?_
          refine ⟨.agg #[x0, x1], fun w' hw' => ?_, ?_⟩
          · have t0 := stay hw' xc0
            have t1 := stay hw' xc1
            go_simp
          with_reducible refine hK _ ?_
          clear hK K
          simp only [Act.put, List.setIfInBounds_toArray, List.set_cons_zero, List.set_cons_succ]
          with_reducible refine wpQuiet_step (fun K hK => ?_)
          try refine k_quiet_if (by kernel_rfl) ?_
          refine ⟨.int .i64 (cn y x), fun w' hw' => ?_, ?_⟩
          · go_simp
            refine (hcx.out w' (hwB.out.trans (But.of_below hw'))).mono ?_
            rintro e w'' ⟨rfl, hb⟩
            exact ⟨rfl, hw'.trans (hb.mono hw'.size)⟩
          with_reducible refine hK _ ?_
          clear hK K
          simp only [Act.put, List.setIfInBounds_toArray, List.set_cons_zero, List.set_cons_succ]
          by_cases hcz : cn y x < 0
          · have hly : lt y x = true := by rw [hlt.out]; exact decide_eq_true hcz
            with_reducible refine wpQuiet_step (fun K hK => ?_)
            try refine k_quiet_if (by kernel_rfl) ?_
            refine ⟨.bool true, fun w' _ => ?_, ?_⟩
            · first | (go_simp; done) | (go_simp; decide)
            with_reducible refine hK _ ?_
            clear hK K
            simp only [Act.put, List.setIfInBounds_toArray, List.set_cons_zero, List.set_cons_succ]
            with_reducible refine wpQuiet_step (fun K hK => ?_)
            try refine k_quiet_if (by kernel_rfl) ?_
            refine ⟨.bool true, fun w' _ => ?_, ?_⟩
            · first | (go_simp; done) | (go_simp; decide)
            with_reducible refine hK _ ?_
            clear hK K
            simp only [Act.put, List.setIfInBounds_toArray, List.set_cons_zero, List.set_cons_succ]
            refine wpQuiet_nil ?_
            intro X1 hX1
            have hI1 := hid_of (hI.out.keep hX1)
            obtain ⟨-, gx2⟩ := hI1.out.row p x hx'.out
            obtain ⟨-, gy2⟩ := hI1.out.row j y hy'.out
            have ox : ∀ (r : Nat) u, (enc x)[r]? = some u → u.oneCell' = true := fun r u hu => Array.all_eq_true_iff_forall_mem.1 (E.one x) u (Array.mem_of_getElem? hu)
            have oy : ∀ (r : Nat) u, (enc y)[r]? = some u → u.oneCell' = true := fun r u hu => Array.all_eq_true_iff_forall_mem.1 (E.one y) u (Array.mem_of_getElem? hu)
            have gx2 : ∀ (r : Nat), r < 2 → (X1.cell? ⟨b, p * 2 + r, none⟩).isSome = true ∧ X1.frozen? ⟨b, p * 2 + r, none⟩ = false := fun r hr => by have := gx2 r hr; simpa using this
            have gy2 : ∀ (r : Nat), r < 2 → (X1.cell? ⟨b, j * 2 + r, none⟩).isSome = true ∧ X1.frozen? ⟨b, j * 2 + r, none⟩ = false := fun r hr => by have := gy2 r hr; simpa using this
            have xd0 : X1.cell? ⟨b, p * 2, none⟩ = some x0 := stay hX1 xc0
            have xf0 : X1.frozen? ⟨b, p * 2, none⟩ = false := (gx2 0 (by omega)).2
            have xo0 : x0.oneCell' = true := ox 0 x0 (by rw [ex]; rfl)
            have xd1 : X1.cell? ⟨b, p * 2 + 1, none⟩ = some x1 := stay hX1 xc1
            have xf1 : X1.frozen? ⟨b, p * 2 + 1, none⟩ = false := (gx2 1 (by omega)).2
            have xo1 : x1.oneCell' = true := ox 1 x1 (by rw [ex]; rfl)
            have yd0 : X1.cell? ⟨b, j * 2, none⟩ = some y0 := stay hX1 yc0
            have yf0 : X1.frozen? ⟨b, j * 2, none⟩ = false := (gy2 0 (by omega)).2
            have yo0 : y0.oneCell' = true := oy 0 y0 (by rw [ey]; rfl)
            have yd1 : X1.cell? ⟨b, j * 2 + 1, none⟩ = some y1 := stay hX1 yc1
            have yf1 : X1.frozen? ⟨b, j * 2 + 1, none⟩ = false := (gy2 1 (by omega)).2
            have yo1 : y1.oneCell' = true := oy 1 y1 (by rw [ey]; rfl)
            have hend : Hid (Ins enc lt w b n A S y (M.drop (k + 1 + 1) ++ B) p ((X1.setCells b (j * 2) (enc x).toList).setCells b (p * 2) (enc y).toList).drew L (x :: L2)) := by
              have hlj := (List.getElem?_eq_some_iff.1 hy'.out).1
              have hlp := (List.getElem?_eq_some_iff.1 hx'.out).1
              refine hI1.out.put hpj.out hly ?_ ((setCells_but b _ _ _).trans (setCells_but b _ _ _)).drew
              have h2 := (hI1.out.row.set E hlj x).set E (j := p) (by simpa using hlp) y
              exact h2.drew
            have n1 : ∀ r s, r < 2 → s < 2 → (p * 2 + r = j * 2 + s) = False := fun r s h1 h2 => eq_false (by have := hpj.out; omega)
            have n2 : ∀ s, s < 2 → (p * 2 = j * 2 + s) = False := fun s h2 => eq_false (by have := hpj.out; omega)
            have n3 : ∀ r, r < 2 → (p * 2 + r = j * 2) = False := fun r h1 => eq_false (by have := hpj.out; omega)
            have n4 : (p * 2 = j * 2) = False := eq_false (by have := hpj.out; omega)
            have n5 : ∀ r s, r < 2 → s < 2 → (j * 2 + s = p * 2 + r) = False := fun r s h1 h2 => eq_false (by have := hpj.out; omega)
            have n6 : ∀ s, s < 2 → (j * 2 + s = p * 2) = False := fun s h2 => eq_false (by have := hpj.out; omega)
            have n7 : ∀ r, r < 2 → (j * 2 = p * 2 + r) = False := fun r h1 => eq_false (by have := hpj.out; omega)
            have n8 : (j * 2 = p * 2) = False := eq_false (by have := hpj.out; omega)
            rw [ex, ey] at hend
            clear hI hI1 hX1 gx2 gy2 ox oy xc0 xc1 yc0 yc1 hcx hfin hx' hy' hcmp
            have hst := run_st
            go_upto_region 6 with fail
            go_region
            all_goals
              obtain ⟨X, hX⟩ : ∃ X, Hid (((((X1.setCell ⟨b, j * 2, none⟩ x0).setCell ⟨b, j * 2 + 1, none⟩ x1).setCell ⟨b, p * 2, none⟩ y0).setCell ⟨b, p * 2 + 1, none⟩ y1).drew = X) := ⟨_, rfl⟩
              have hfi : Hid (Ins enc lt w b n A S y (M.drop (k + 1 + 1) ++ B) p X L (x :: L2)) := by rw [← hX.out]; exact hend.out
              rw [hX.out]
              clear hend hst n1 n2 n3 n4 n5 n6 n7 n8 xd0 xf0 xo0 xd1 xf1 xo1 yd0 yf0 yo0 yd1 yf1 yo1
              go_wp2_with fail
              exact ⟨⟨p, L, x :: L2, by first | rfl | (rw [j6]), hfi⟩, by have := hpj.out; simp [intOf]; omega⟩
          · have hly : lt y x = false := by rw [hlt.out]; exact decide_eq_false hcz
            with_reducible refine wpQuiet_step (fun K hK => ?_)
            try refine k_quiet_if (by kernel_rfl) ?_
            refine ⟨.bool false, fun w' _ => ?_, ?_⟩
            · first | (go_simp; done) | (go_simp; decide)
            with_reducible refine hK _ ?_
            clear hK K
            simp only [Act.put, List.setIfInBounds_toArray, List.set_cons_zero, List.set_cons_succ]
            with_reducible refine wpQuiet_step (fun K hK => ?_)
            try refine k_quiet_if (by kernel_rfl) ?_
            refine ⟨.bool false, fun w' _ => ?_, ?_⟩
            · first | (go_simp; done) | (go_simp; decide)
            with_reducible refine hK _ ?_
            clear hK K
            simp only [Act.put, List.setIfInBounds_toArray, List.set_cons_zero, List.set_cons_succ]
            refine wpQuiet_nil ?_
            intro X1 hX1
            have hz := hid_of (hfin.out _ X1 _ _ (hI.out.keep hX1) (fun L' x' e => by have := List.append_inj' e rfl; simp at this; rw [← this.2]; exact hly))
            clear xc0 xc1 yc0 yc1 hcx hfin hI hX1
            go_wp2_with fail
            exact ⟨⟨i + 1, k + 1, by go_num, by have := hi.out; omega, .inl hk'.out, hz.out.1, hz.out.2⟩, by simp [intOf]; omega⟩
    · have i1 : ¬ (i : Int) < (c : Int) := by omega
      have hM : M.length ≤ k + 1 := by have := hc.out; omega
      rw [List.take_of_length_le hM, List.drop_eq_nil_of_le hM] at hRi
      go_wp2_with fail
      exact bodyPost_end (results_none rfl _ _ _) rfl ⟨rfl, hRi.out, hBi.out⟩
end
end Go.Proofs.YtbcfkajcmbckbaaGreatDoor.SortM
/-! Stable sorting over memory: merging, one element ahead. -/
namespace Go.Proofs.YtbcfkajcmbckbaaGreatDoor.SortM
open Go Go.RowKit Go.Stab
section
variable {α : Type} {enc : α → Array Value}
theorem RowE.below {w w' : World} {b : Nat} {D : List α} (h : RowE enc w b D) (hb : Below w.heap.size w w') : RowE enc w' b D := fun j x hx => h.keep (hb.block b (h.lt hx)) j x hx
/-- The search among R for the place of x. -/
structure Seek (lt : α → α → Bool) (x : α) (R : List α) (i j : Nat) : Prop where
  le : i ≤ j
  end_ : j ≤ R.length
  low : ∀ y, 0 < i → R[i - 1]? = some y → lt y x = true
  high : ∀ y, R[j]? = some y → lt y x = false
theorem Seek.up {lt : α → α → Bool} {x y : α} {R : List α} {i j h : Nat} (s : Seek lt x R i j) (hj : h < j) (hy : R[h]? = some y) (hl : lt y x = true) : Seek lt x R (h + 1) j :=
  ⟨by omega, s.end_, fun z _ hz => by rw [show h + 1 - 1 = h by omega, hy] at hz; cases hz; exact hl, s.high⟩
theorem Seek.down {lt : α → α → Bool} {x y : α} {R : List α} {i j h : Nat} (s : Seek lt x R i j) (hi : i ≤ h) (hj : h < j) (hy : R[h]? = some y) (hl : lt y x = false) : Seek lt x R i h :=
  ⟨hi, by have := s.end_; omega, s.low, fun z hz => by rw [hy] at hz; cases hz; exact hl⟩
/-- x moved t places on. -/
def onL (x : α) (R : List α) (t : Nat) : List α := R.take t ++ x :: R.drop t
theorem onL_step (A : List α) (x y : α) (R B : List α) (t k : Nat) (hk : A.length + t = k) (hy : R[t]? = some y) : ((A ++ (onL x R t ++ B)).set k y).set (k + 1) x = A ++ (onL x R (t + 1) ++ B) := by
  have ht : t < R.length := (List.getElem?_eq_some_iff.1 hy).1
  have e1 : R.drop t = y :: R.drop (t + 1) := by rw [List.drop_eq_getElem_cons ht]; congr 1; exact (List.getElem?_eq_some_iff.1 hy).2
  have e2 : R.take (t + 1) = R.take t ++ [y] := by rw [List.take_succ_eq_append_getElem ht]; congr 2; exact (List.getElem?_eq_some_iff.1 hy).2
  have e : A ++ (onL x R t ++ B) = (A ++ R.take t) ++ (x :: y :: (R.drop (t + 1) ++ B)) := by unfold onL; rw [e1]; simp
  have hl : (A ++ R.take t).length = k := by simp; omega
  rw [e, List.set_append_right _ _ (by omega), List.set_append_right _ _ (by omega), hl, show k - k = 0 by omega, show k + 1 - k = 1 by omega]
  unfold onL
  rw [e2]
  simp
theorem onL_at (A : List α) (x y : α) (R B : List α) (t k : Nat) (hk : A.length + t = k) (hy : R[t]? = some y) : (A ++ (onL x R t ++ B))[k]? = some x ∧ (A ++ (onL x R t ++ B))[k + 1]? = some y := by
  have ht : t < R.length := (List.getElem?_eq_some_iff.1 hy).1
  have e1 : R.drop t = y :: R.drop (t + 1) := by rw [List.drop_eq_getElem_cons ht]; congr 1; exact (List.getElem?_eq_some_iff.1 hy).2
  have e : A ++ (onL x R t ++ B) = (A ++ R.take t) ++ (x :: y :: (R.drop (t + 1) ++ B)) := by unfold onL; rw [e1]; simp
  have hl : (A ++ R.take t).length = k := by simp; omega
  rw [e, List.getElem?_append_right (by omega), List.getElem?_append_right (by omega), hl, show k - k = 0 by omega, show k + 1 - k = 1 by omega]
  simp
set_option maxRecDepth 100000 in
set_option maxHeartbeats 4000000 in
theorem sym_one (E : Enc enc) {lt : α → α → Bool} (O : Swo lt) {b : Nat} {w0 : World} (cn : α → α → Int) (hlt : ∀ x y, lt x y = decide (cn x y < 0)) (hcmp : ∀ x y W, But b w0 W → Calls Tryz.prog 106 #[.agg (enc x), .agg (enc y)] W fun e w' => e = .returned (.int .i64 (cn x y)) ∧ Below W.heap.size W w')
    (A : List α) (x : α) (R B : List α) (n cap a m c : Nat) (w : World) (hw0 : But b w0 w) (hR : RowE enc w b (A ++ (x :: (R ++ B)))) (hup : Up lt R) (ha : A.length = a) (hm : a + 1 = m) (hc : m + R.length = c) (hn : c + B.length = n) (hnn : n ≤ 4611686018427387904) :
    Calls Tryz.prog 111 #[.slice (some ⟨b, 0, none⟩) n cap, .int .i64 a, .int .i64 m, .int .i64 c, .func (.func 106) #[] #[]] w fun e w' => e = .returned (.tuple #[]) ∧ RowE enc w' b (A ++ (mergeL lt [x] R ++ B)) ∧ But b w w' := by
  replace hlt := hid_of hlt
  replace hcmp := hid_of hcmp
  replace hw0 := hid_of hw0
  replace hR := hid_of hR
  replace hup := hid_of hup
  have f1 : (m : Int) - (a : Int) = 1 := by omega
  have f2 : (m : Int) ≤ (c : Int) := by omega
  have f3 : (c : Int) ≤ (n : Int) := by omega
  have f4 : (n : Int) ≤ 4611686018427387904 := by omega
  have f5 : (0 : Int) ≤ (a : Int) := by omega
  have f6 : (a : Int) < (n : Int) := by omega
  have f7 : (m : Int) ≤ 4611686018427387904 := by omega
  have f8 : (a : Int) ≤ (m : Int) := by omega
  replace ha := hid_of ha
  replace hm := hid_of hm
  replace hc := hid_of hc
  replace hn := hid_of hn
  go_enter Tryz.func111, Tryz.ntmps111
  go_wp2_with fail
  go_loopw [10, 11] (fun iv jv wr => ∃ i j s t : Nat, iv = .int .i64 i ∧ jv = .int .i64 j ∧ Hid (m + s = i) ∧ Hid (m + t = j) ∧ Hid (Seek lt x R s t) ∧ Hid (Below w.heap.size w wr)) (fun iv jv _ => (intOf jv).toNat - (intOf iv).toNat)
  case atStart => exact ⟨m, c, 0, R.length, rfl, rfl, rfl, hc, ⟨by omega, by omega, by simp, by simp⟩, Below.refl _ _⟩
  case round =>
    obtain ⟨i, j, s, t, rfl, rfl, hs, ht, hk, hb⟩ := hrel
    by_cases hij : i < j
    · have i1 : (i : Int) < (j : Int) := by omega
      have i2 : (j : Int) ≤ (n : Int) := by have := hk.out.end_; have := ht.out; have := hc.out; omega
      have i3 : (0 : Int) ≤ (i : Int) := by omega
      have i4 : (i : Int) + (j : Int) ≤ 9223372036854775807 := by omega
      obtain ⟨h, hh⟩ : ∃ h : Nat, Hid (h = (i + j) / 2) := ⟨_, rfl⟩
      have eh : Hid (((i : Int) + (j : Int)) / 2 = (h : Int)) := by show ((i : Int) + (j : Int)) / 2 = (h : Int); have := hh.out; omega
      have b1 : i ≤ h := by have := hh.out; omega
      have b2 : h < j := by have := hh.out; omega
      have b3 : (h : Int) < (n : Int) := by omega
      have b4 : (0 : Int) ≤ (h : Int) := by omega
      have b5 : h - m < R.length := by have := hk.out.end_; have := ht.out; have := hs.out; omega
      obtain ⟨y, hy⟩ : ∃ y, Hid (R[h - m]? = some y) := ⟨R[h - m], List.getElem?_eq_getElem b5⟩
      have hx' : (A ++ (x :: (R ++ B)))[a]? = some x := by
        rw [List.getElem?_append_right (by have := ha.out; omega), show a - A.length = 0 by have := ha.out; omega]; rfl
      have hy' : (A ++ (x :: (R ++ B)))[h]? = some y := by
        rw [List.getElem?_append_right (by have := ha.out; have := hs.out; have := hm.out; omega), show h - A.length = (h - m) + 1 by have := ha.out; have := hs.out; have := hm.out; omega, List.getElem?_cons_succ, List.getElem?_append_left b5]
        exact hy.out
      obtain ⟨gx1, gx2⟩ := (hR.out.below hb.out) a x hx'
      obtain ⟨gy1, gy2⟩ := (hR.out.below hb.out) h y hy'
      obtain ⟨x0, x1, ex⟩ := seven (E.size x)
      have gx1 : ∀ (r : Nat) u, (enc x)[r]? = some u → wr.cell? ⟨b, a * 2 + r, none⟩ = some u := fun r u hu => by have := gx1 r u (by simpa using hu); simpa using this
      have gx2 : ∀ (r : Nat), r < 2 → (wr.cell? ⟨b, a * 2 + r, none⟩).isSome = true ∧ wr.frozen? ⟨b, a * 2 + r, none⟩ = false := fun r hr => by have := gx2 r hr; simpa using this
      have xc0 : wr.cell? ⟨b, a * 2, none⟩ = some x0 := gx1 0 x0 (by rw [ex]; rfl)
      have xc1 : wr.cell? ⟨b, a * 2 + 1, none⟩ = some x1 := gx1 1 x1 (by rw [ex]; rfl)
      obtain ⟨y0, y1, ey⟩ := seven (E.size y)
      have gy1 : ∀ (r : Nat) u, (enc y)[r]? = some u → wr.cell? ⟨b, h * 2 + r, none⟩ = some u := fun r u hu => by have := gy1 r u (by simpa using hu); simpa using this
      have gy2 : ∀ (r : Nat), r < 2 → (wr.cell? ⟨b, h * 2 + r, none⟩).isSome = true ∧ wr.frozen? ⟨b, h * 2 + r, none⟩ = false := fun r hr => by have := gy2 r hr; simpa using this
      have yc0 : wr.cell? ⟨b, h * 2, none⟩ = some y0 := gy1 0 y0 (by rw [ey]; rfl)
      have yc1 : wr.cell? ⟨b, h * 2 + 1, none⟩ = some y1 := gy1 1 y1 (by rw [ey]; rfl)
      have hwB := hid_of (hw0.out.trans (But.of_below hb.out))
      have hcx := hid_of (hcmp.out y x)
      rw [ex, ey] at hcx
      replace b1 := hid_of b1
      replace b2 := hid_of b2
      clear gx1 gx2 gy1 gy2 hx' hy' b5
      go_upto_region 5 with fail
      rw [eh.out]
      refine wp_region_quiet (C := fun w' => Below wr.heap.size wr w') (by kernel_rfl) (by kernel_rfl) (below_drewN (Below.refl _ _) 1) ?_
      with_reducible refine wpQuiet_step (fun K hK => ?_)
      try refine k_quiet_if (by kernel_rfl) ?_
      refine ⟨.func (.func 106) #[] #[], fun w' _ => ?_, ?_⟩
      · first | (go_simp; done) | (go_simp; decide)
      with_reducible refine hK _ ?_
      clear hK K
      simp only [Act.put, List.setIfInBounds_toArray, List.set_cons_zero, List.set_cons_succ]
      with_reducible refine wpQuiet_step (fun K hK => ?_)
      try refine k_quiet_if (by kernel_rfl) ?_
      refine ⟨.slice (some ⟨b, 0, none⟩) n cap, fun w' _ => ?_, ?_⟩
      · first | (go_simp; done) | (go_simp; decide)
      with_reducible refine hK _ ?_
      clear hK K
      simp only [Act.put, List.setIfInBounds_toArray, List.set_cons_zero, List.set_cons_succ]
      with_reducible refine wpQuiet_step (fun K hK => ?_)
      try refine k_quiet_if (by kernel_rfl) ?_
      refine ⟨.int .i64 h, fun w' _ => ?_, ?_⟩
      · first | (go_simp; done) | (go_simp; decide)
      with_reducible refine hK _ ?_
      clear hK K
      simp only [Act.put, List.setIfInBounds_toArray, List.set_cons_zero, List.set_cons_succ]
      with_reducible refine wpQuiet_step (fun K hK => ?_)
      try refine k_quiet_if (by kernel_rfl) ?_
      refine ⟨.pointer (some ⟨b, h * 2, none⟩), fun w' _ => ?_, ?_⟩
      · first | (go_simp; done) | (go_simp; decide)
      with_reducible refine hK _ ?_
      clear hK K
      simp only [Act.put, List.setIfInBounds_toArray, List.set_cons_zero, List.set_cons_succ]
      with_reducible refine wpQuiet_step (fun K hK => ?_)
      try refine k_quiet_if (by kernel_rfl) ?_
      refine ⟨.agg #[y0, y1], fun w' hw' => ?_, ?_⟩
      · have t0 := stay hw' yc0
        have t1 := stay hw' yc1
        go_simp
      with_reducible refine hK _ ?_
      clear hK K
      simp only [Act.put, List.setIfInBounds_toArray, List.set_cons_zero, List.set_cons_succ]
      with_reducible refine wpQuiet_step (fun K hK => ?_)
      try refine k_quiet_if (by kernel_rfl) ?_
      refine ⟨.slice (some ⟨b, 0, none⟩) n cap, fun w' _ => ?_, ?_⟩
      · first | (go_simp; done) | (go_simp; decide)
      with_reducible refine hK _ ?_
      clear hK K
      simp only [Act.put, List.setIfInBounds_toArray, List.set_cons_zero, List.set_cons_succ]
      with_reducible refine wpQuiet_step (fun K hK => ?_)
      try refine k_quiet_if (by kernel_rfl) ?_
      refine ⟨.int .i64 a, fun w' _ => ?_, ?_⟩
      · first | (go_simp; done) | (go_simp; decide)
      with_reducible refine hK _ ?_
      clear hK K
      simp only [Act.put, List.setIfInBounds_toArray, List.set_cons_zero, List.set_cons_succ]
      with_reducible refine wpQuiet_step (fun K hK => ?_)
      try refine k_quiet_if (by kernel_rfl) ?_
      refine ⟨.pointer (some ⟨b, a * 2, none⟩), fun w' _ => ?_, ?_⟩
      · first | (go_simp; done) | (go_simp; decide)
      with_reducible refine hK _ ?_
      clear hK K
      simp only [Act.put, List.setIfInBounds_toArray, List.set_cons_zero, List.set_cons_succ]
      with_reducible refine wpQuiet_step (fun K hK => ?_)
      try refine k_quiet_if (by kernel_rfl) ?_
      refine ⟨.agg #[x0, x1], fun w' hw' => ?_, ?_⟩
      · have t0 := stay hw' xc0
        have t1 := stay hw' xc1
        go_simp
      with_reducible refine hK _ ?_
      clear hK K
      simp only [Act.put, List.setIfInBounds_toArray, List.set_cons_zero, List.set_cons_succ]
      with_reducible refine wpQuiet_step (fun K hK => ?_)
      try refine k_quiet_if (by kernel_rfl) ?_
      refine ⟨.int .i64 (cn y x), fun w' hw' => ?_, ?_⟩
      · go_simp
        refine (hcx.out w' (hwB.out.trans (But.of_below hw'))).mono ?_
        rintro e w'' ⟨rfl, hb⟩
        exact ⟨rfl, hw'.trans (hb.mono hw'.size)⟩
      with_reducible refine hK _ ?_
      clear hK K
      simp only [Act.put, List.setIfInBounds_toArray, List.set_cons_zero, List.set_cons_succ]
      by_cases hcz : cn y x < 0
      · have hly := hid_of (show lt y x = true by rw [hlt.out]; exact decide_eq_true hcz)
        with_reducible refine wpQuiet_step (fun K hK => ?_)
        try refine k_quiet_if (by kernel_rfl) ?_
        refine ⟨.bool true, fun w' _ => ?_, ?_⟩
        · first | (go_simp; done) | (go_simp; decide)
        with_reducible refine hK _ ?_
        clear hK K
        simp only [Act.put, List.setIfInBounds_toArray, List.set_cons_zero, List.set_cons_succ]
        refine wpQuiet_nil ?_
        intro X1 hX1
        have hb' := hid_of (hb.out.trans (hX1.mono hb.out.size))
        clear hcx hX1 hb xc0 xc1 yc0 yc1
        go_wp2_with fail
        exact ⟨⟨h + 1, j, h + 1 - m, t, by go_num, rfl, (by have := b1.out; have := hs.out; omega : m + (h + 1 - m) = h + 1), ht, by rw [show h + 1 - m = h - m + 1 by have := b1.out; have := hs.out; omega]; exact hk.out.up (by have := b2.out; have := ht.out; have := b1.out; have := hs.out; omega) hy.out hly.out, hb'⟩, by have := b1.out; have := b2.out; simp [intOf]; omega⟩
      · have hly := hid_of (show lt y x = false by rw [hlt.out]; exact decide_eq_false hcz)
        with_reducible refine wpQuiet_step (fun K hK => ?_)
        try refine k_quiet_if (by kernel_rfl) ?_
        refine ⟨.bool false, fun w' _ => ?_, ?_⟩
        · first | (go_simp; done) | (go_simp; decide)
        with_reducible refine hK _ ?_
        clear hK K
        simp only [Act.put, List.setIfInBounds_toArray, List.set_cons_zero, List.set_cons_succ]
        refine wpQuiet_nil ?_
        intro X1 hX1
        have hb' := hid_of (hb.out.trans (hX1.mono hb.out.size))
        clear hcx hX1 hb xc0 xc1 yc0 yc1
        go_wp2_with fail
        exact ⟨⟨i, h, s, h - m, rfl, rfl, hs, (by have := b1.out; have := hs.out; omega : m + (h - m) = h), hk.out.down (by have := b1.out; have := hs.out; omega) (by have := b2.out; have := ht.out; have := b1.out; have := hs.out; omega) hy.out hly.out, hb'⟩, by have := b1.out; have := b2.out; simp [intOf]; omega⟩
    · have i1 : ¬ (i : Int) < (j : Int) := by omega
      have i3 : (a : Int) + 1 ≤ (i : Int) := by have := hs.out; have := hm.out; omega
      have i5 : (i : Int) ≤ (n : Int) := by have := hs.out; have := hk.out.le; have := hk.out.end_; have := hc.out; omega
      have i4 : (i : Int) ≤ 4611686018427387904 := by have := hs.out; have := hk.out.le; have := hk.out.end_; have := hc.out; omega
      go_wp2_with fail
      have hst' : s = t := by have := hs.out; have := ht.out; have := hk.out.le; omega
      subst hst'
      have hcut : Hid (mergeL lt [x] R = onL x R s) := one_cut O hup.out s hk.out.end_ hk.out.low hk.out.high
      have hse : s ≤ R.length := hk.out.end_
      have h0 : Hid (RowE enc wr b (A ++ (onL x R 0 ++ B))) := by show RowE enc wr b (A ++ (onL x R 0 ++ B)); unfold onL; simpa using hR.out.below hb.out
      have hb0 : Hid (But b w wr) := But.of_below hb.out
      clear hR hcmp hlt hk hb hup
      go_loopw [13] (fun kv wr => ∃ k t : Nat, kv = .int .i64 k ∧ Hid (a + t = k) ∧ t ≤ s ∧ Hid (RowE enc wr b (A ++ (onL x R t ++ B))) ∧ Hid (But b w wr)) (fun kv _ => i - (intOf kv).toNat)
      case atStart => exact ⟨a, 0, rfl, rfl, Nat.zero_le _, h0, hb0⟩
      case round =>
        obtain ⟨k, q, rfl, hq, hqs, hRk, hBk⟩ := hrel
        by_cases hqq : q < s
        · have k1 : (k : Int) < (i : Int) - 1 := by have := hq.out; have := hs.out; have := hm.out; omega
          have k2 : (0 : Int) ≤ (k : Int) := by omega
          have k3 : (k : Int) < (n : Int) := by omega
          obtain ⟨p, hp⟩ : ∃ p, Hid (k + 1 = p) := ⟨_, rfl⟩
          have k4 : IntKind.i64.wrap ((k : Int) + 1) = (p : Int) := by rw [wrap_in (by omega) (by omega)]; have := hp.out; omega
          have k5 : (p : Int) < (n : Int) := by have := hp.out; omega
          have k6 : (0 : Int) ≤ (p : Int) := by omega
          obtain ⟨y, hy⟩ : ∃ y, Hid (R[q]? = some y) := ⟨R[q], List.getElem?_eq_getElem (by omega)⟩
          have hat := onL_at A x y R B q k (by have := ha.out; have := hq.out; omega) hy.out
          have hx' := hat.1
          have hy' := hat.2
          rw [hp.out] at hy'
          obtain ⟨gx1, gx2⟩ := hRk.out k x hx'
          obtain ⟨gy1, gy2⟩ := hRk.out p y hy'
          obtain ⟨x0, x1, ex⟩ := seven (E.size x)
          have gx1 : ∀ (r : Nat) u, (enc x)[r]? = some u → wr.cell? ⟨b, k * 2 + r, none⟩ = some u := fun r u hu => by have := gx1 r u (by simpa using hu); simpa using this
          have gx2 : ∀ (r : Nat), r < 2 → (wr.cell? ⟨b, k * 2 + r, none⟩).isSome = true ∧ wr.frozen? ⟨b, k * 2 + r, none⟩ = false := fun r hr => by have := gx2 r hr; simpa using this
          have xc0 : wr.cell? ⟨b, k * 2, none⟩ = some x0 := gx1 0 x0 (by rw [ex]; rfl)
          have xc1 : wr.cell? ⟨b, k * 2 + 1, none⟩ = some x1 := gx1 1 x1 (by rw [ex]; rfl)
          obtain ⟨y0, y1, ey⟩ := seven (E.size y)
          have gy1 : ∀ (r : Nat) u, (enc y)[r]? = some u → wr.cell? ⟨b, p * 2 + r, none⟩ = some u := fun r u hu => by have := gy1 r u (by simpa using hu); simpa using this
          have gy2 : ∀ (r : Nat), r < 2 → (wr.cell? ⟨b, p * 2 + r, none⟩).isSome = true ∧ wr.frozen? ⟨b, p * 2 + r, none⟩ = false := fun r hr => by have := gy2 r hr; simpa using this
          have yc0 : wr.cell? ⟨b, p * 2, none⟩ = some y0 := gy1 0 y0 (by rw [ey]; rfl)
          have yc1 : wr.cell? ⟨b, p * 2 + 1, none⟩ = some y1 := gy1 1 y1 (by rw [ey]; rfl)
          have ox : ∀ (r : Nat) u, (enc x)[r]? = some u → u.oneCell' = true := fun r u hu => Array.all_eq_true_iff_forall_mem.1 (E.one x) u (Array.mem_of_getElem? hu)
          have xf0 : wr.frozen? ⟨b, k * 2, none⟩ = false := (gx2 0 (by omega)).2
          have xo0 : x0.oneCell' = true := ox 0 x0 (by rw [ex]; rfl)
          have xf1 : wr.frozen? ⟨b, k * 2 + 1, none⟩ = false := (gx2 1 (by omega)).2
          have xo1 : x1.oneCell' = true := ox 1 x1 (by rw [ex]; rfl)
          have oy : ∀ (r : Nat) u, (enc y)[r]? = some u → u.oneCell' = true := fun r u hu => Array.all_eq_true_iff_forall_mem.1 (E.one y) u (Array.mem_of_getElem? hu)
          have yf0 : wr.frozen? ⟨b, p * 2, none⟩ = false := (gy2 0 (by omega)).2
          have yo0 : y0.oneCell' = true := oy 0 y0 (by rw [ey]; rfl)
          have yf1 : wr.frozen? ⟨b, p * 2 + 1, none⟩ = false := (gy2 1 (by omega)).2
          have yo1 : y1.oneCell' = true := oy 1 y1 (by rw [ey]; rfl)
          have hend : Hid (RowE enc ((wr.setCells b (k * 2) (enc y).toList).setCells b (p * 2) (enc x).toList).drew b (A ++ (onL x R (q + 1) ++ B)) ∧ But b w ((wr.setCells b (k * 2) (enc y).toList).setCells b (p * 2) (enc x).toList).drew) := by
            have hlk := (List.getElem?_eq_some_iff.1 hx').1
            have hlp := (List.getElem?_eq_some_iff.1 hy').1
            refine ⟨?_, ((hBk.out.trans (setCells_but b _ _ _)).trans (setCells_but b _ _ _)).drew⟩
            have h2 := (hRk.out.set E hlk y).set E (j := p) (by simpa using hlp) x
            rw [← hp.out, onL_step A x y R B q k (by have := ha.out; have := hq.out; omega) hy.out, hp.out] at h2
            exact h2.drew
          have n1 : ∀ r s, r < 2 → s < 2 → (p * 2 + r = k * 2 + s) = False := fun r s h1 h2 => eq_false (by have := hp.out; omega)
          have n2 : ∀ s, s < 2 → (p * 2 = k * 2 + s) = False := fun s h2 => eq_false (by have := hp.out; omega)
          have n3 : ∀ r, r < 2 → (p * 2 + r = k * 2) = False := fun r h1 => eq_false (by have := hp.out; omega)
          have n4 : (p * 2 = k * 2) = False := eq_false (by have := hp.out; omega)
          have n5 : ∀ r s, r < 2 → s < 2 → (k * 2 + s = p * 2 + r) = False := fun r s h1 h2 => eq_false (by have := hp.out; omega)
          have n6 : ∀ s, s < 2 → (k * 2 + s = p * 2) = False := fun s h2 => eq_false (by have := hp.out; omega)
          have n7 : ∀ r, r < 2 → (k * 2 = p * 2 + r) = False := fun r h1 => eq_false (by have := hp.out; omega)
          have n8 : (k * 2 = p * 2) = False := eq_false (by have := hp.out; omega)
          rw [ex, ey] at hend
          clear hRk hBk gx1 gx2 gy1 gy2 ox oy hx' hy' hat
          have hst := run_st
          go_upto_region 11 with fail
          go_region
          all_goals
            obtain ⟨X, hX⟩ : ∃ X, Hid (((((wr.setCell ⟨b, k * 2, none⟩ y0).setCell ⟨b, k * 2 + 1, none⟩ y1).setCell ⟨b, p * 2, none⟩ x0).setCell ⟨b, p * 2 + 1, none⟩ x1).drew = X) := ⟨_, rfl⟩
            have hfi : Hid (RowE enc X b (A ++ (onL x R (q + 1) ++ B)) ∧ But b w X) := by rw [← hX.out]; exact hend.out
            rw [hX.out]
            clear hend hst n1 n2 n3 n4 n5 n6 n7 n8 xc0 xc1 xf0 xf1 xo0 xo1 yc0 yc1 yf0 yf1 yo0 yo1
            go_wp2_with fail
            exact ⟨⟨p, q + 1, by first | rfl | (rw [k4]) | (have := hp.out; go_num), (by have := hp.out; have := hq.out; omega : a + (q + 1) = p), by omega, hfi.out.1, hfi.out.2⟩, by have := hp.out; simp [intOf]; omega⟩
        · obtain rfl : q = s := by omega
          have k1 : ¬ (k : Int) < (i : Int) - 1 := by have := hq.out; have := hs.out; have := hm.out; omega
          rw [← hcut.out] at hRk
          go_wp2_with fail
          refine bodyPost_ret (results_none rfl _ _ _) rfl ?_
          exact ⟨rfl, hRk.out, hBk.out⟩
end
end Go.Proofs.YtbcfkajcmbckbaaGreatDoor.SortM
/-! Stable sorting over memory: merging, one element behind. -/
namespace Go.Proofs.YtbcfkajcmbckbaaGreatDoor.SortM
open Go Go.RowKit Go.Stab
section
variable {α : Type} {enc : α → Array Value}
theorem onL_back (A : List α) (x y : α) (L B : List α) (q k : Nat) (hk : A.length + q = k) (hx : L[q]? = some x) : ((A ++ (onL y L (q + 1) ++ B)).set (k + 1) x).set k y = A ++ (onL y L q ++ B) := by
  have ht : q < L.length := (List.getElem?_eq_some_iff.1 hx).1
  have e1 : L.drop q = x :: L.drop (q + 1) := by rw [List.drop_eq_getElem_cons ht]; congr 1; exact (List.getElem?_eq_some_iff.1 hx).2
  have e2 : L.take (q + 1) = L.take q ++ [x] := by rw [List.take_succ_eq_append_getElem ht]; congr 2; exact (List.getElem?_eq_some_iff.1 hx).2
  have e : A ++ (onL y L (q + 1) ++ B) = (A ++ L.take q) ++ (x :: y :: (L.drop (q + 1) ++ B)) := by unfold onL; rw [e2]; simp
  have hl : (A ++ L.take q).length = k := by simp; omega
  rw [e, List.set_append_right _ _ (by omega), List.set_append_right _ _ (by omega), hl, show k - k = 0 by omega, show k + 1 - k = 1 by omega]
  unfold onL
  rw [e1]
  simp
theorem onL_behind (A : List α) (x y : α) (L B : List α) (q k : Nat) (hk : A.length + q = k) (hx : L[q]? = some x) : (A ++ (onL y L (q + 1) ++ B))[k]? = some x ∧ (A ++ (onL y L (q + 1) ++ B))[k + 1]? = some y := by
  have ht : q < L.length := (List.getElem?_eq_some_iff.1 hx).1
  have e2 : L.take (q + 1) = L.take q ++ [x] := by rw [List.take_succ_eq_append_getElem ht]; congr 2; exact (List.getElem?_eq_some_iff.1 hx).2
  have e : A ++ (onL y L (q + 1) ++ B) = (A ++ L.take q) ++ (x :: y :: (L.drop (q + 1) ++ B)) := by unfold onL; rw [e2]; simp
  have hl : (A ++ L.take q).length = k := by simp; omega
  rw [e, List.getElem?_append_right (by omega), List.getElem?_append_right (by omega), hl, show k - k = 0 by omega, show k + 1 - k = 1 by omega]
  simp
/-- Not above. -/
def nlt (lt : α → α → Bool) : α → α → Bool := fun z u => !lt u z
set_option maxRecDepth 100000 in
set_option maxHeartbeats 4000000 in
theorem sym_last (E : Enc enc) {lt : α → α → Bool} (O : Swo lt) {b : Nat} {w0 : World} (cn : α → α → Int) (hlt : ∀ x y, lt x y = decide (cn x y < 0)) (hcmp : ∀ x y W, But b w0 W → Calls Tryz.prog 106 #[.agg (enc x), .agg (enc y)] W fun e w' => e = .returned (.int .i64 (cn x y)) ∧ Below W.heap.size W w')
    (A : List α) (y : α) (L B : List α) (n cap a m c : Nat) (w : World) (hw0 : But b w0 w) (hR : RowE enc w b (A ++ (L ++ (y :: B)))) (hup : Up lt L) (hL : L.length ≠ 1) (ha : A.length = a) (hm : a + L.length = m) (hc : m + 1 = c) (hn : c + B.length = n) (hnn : n ≤ 4611686018427387904) :
    Calls Tryz.prog 111 #[.slice (some ⟨b, 0, none⟩) n cap, .int .i64 a, .int .i64 m, .int .i64 c, .func (.func 106) #[] #[]] w fun e w' => e = .returned (.tuple #[]) ∧ RowE enc w' b (A ++ (mergeL lt L [y] ++ B)) ∧ But b w w' := by
  replace hlt := hid_of hlt
  replace hcmp := hid_of hcmp
  replace hw0 := hid_of hw0
  replace hR := hid_of hR
  replace hup := hid_of hup
  have f1 : ¬ (m : Int) - (a : Int) = 1 := by omega
  have f0 : (c : Int) - (m : Int) = 1 := by omega
  have f2 : (m : Int) < (c : Int) := by omega
  have f3 : (c : Int) ≤ (n : Int) := by omega
  have f4 : (n : Int) ≤ 4611686018427387904 := by omega
  have f5 : (0 : Int) ≤ (a : Int) := by omega
  have f6 : (m : Int) < (n : Int) := by omega
  have f7 : (c : Int) ≤ 4611686018427387904 := by omega
  have f8 : (a : Int) ≤ (m : Int) := by omega
  have f9 : (0 : Int) ≤ (m : Int) := by omega
  replace ha := hid_of ha
  replace hm := hid_of hm
  replace hc := hid_of hc
  replace hn := hid_of hn
  clear hL
  go_enter Tryz.func111, Tryz.ntmps111
  go_wp2_with fail
  go_loopw [14, 15] (fun iv jv wr => ∃ i j s t : Nat, iv = .int .i64 i ∧ jv = .int .i64 j ∧ Hid (a + s = i) ∧ Hid (a + t = j) ∧ Hid (Seek (nlt lt) y L s t) ∧ Hid (Below w.heap.size w wr)) (fun iv jv _ => (intOf jv).toNat - (intOf iv).toNat)
  case atStart => exact ⟨a, m, 0, L.length, rfl, rfl, rfl, hm, ⟨by omega, by omega, by simp, by simp⟩, Below.refl _ _⟩
  case round =>
    obtain ⟨i, j, s, t, rfl, rfl, hs, ht, hk, hb⟩ := hrel
    by_cases hij : i < j
    · have i1 : (i : Int) < (j : Int) := by omega
      have i2 : (j : Int) ≤ (m : Int) := by have := hk.out.end_; have := ht.out; have := hm.out; omega
      have i3 : (0 : Int) ≤ (i : Int) := by omega
      have i4 : (i : Int) + (j : Int) ≤ 9223372036854775807 := by omega
      obtain ⟨h, hh⟩ : ∃ h : Nat, Hid (h = (i + j) / 2) := ⟨_, rfl⟩
      have eh : Hid (((i : Int) + (j : Int)) / 2 = (h : Int)) := by show ((i : Int) + (j : Int)) / 2 = (h : Int); have := hh.out; omega
      have b1 : i ≤ h := by have := hh.out; omega
      have b2 : h < j := by have := hh.out; omega
      have b3 : (h : Int) < (n : Int) := by omega
      have b4 : (0 : Int) ≤ (h : Int) := by omega
      have b5 : h - a < L.length := by have := hk.out.end_; have := ht.out; have := hs.out; omega
      obtain ⟨x, hx⟩ : ∃ x, Hid (L[h - a]? = some x) := ⟨L[h - a], List.getElem?_eq_getElem b5⟩
      have hx' : (A ++ (L ++ (y :: B)))[h]? = some x := by
        rw [List.getElem?_append_right (by have := ha.out; have := hs.out; omega), show h - A.length = h - a by rw [ha.out], List.getElem?_append_left b5]
        exact hx.out
      have hy' : (A ++ (L ++ (y :: B)))[m]? = some y := by
        rw [List.getElem?_append_right (by have := ha.out; have := hm.out; omega), List.getElem?_append_right (by have := ha.out; have := hm.out; omega), show m - A.length - L.length = 0 by have := ha.out; have := hm.out; omega]; rfl
      obtain ⟨gx1, gx2⟩ := (hR.out.below hb.out) h x hx'
      obtain ⟨gy1, gy2⟩ := (hR.out.below hb.out) m y hy'
      obtain ⟨x0, x1, ex⟩ := seven (E.size x)
      have gx1 : ∀ (r : Nat) u, (enc x)[r]? = some u → wr.cell? ⟨b, h * 2 + r, none⟩ = some u := fun r u hu => by have := gx1 r u (by simpa using hu); simpa using this
      have gx2 : ∀ (r : Nat), r < 2 → (wr.cell? ⟨b, h * 2 + r, none⟩).isSome = true ∧ wr.frozen? ⟨b, h * 2 + r, none⟩ = false := fun r hr => by have := gx2 r hr; simpa using this
      have xc0 : wr.cell? ⟨b, h * 2, none⟩ = some x0 := gx1 0 x0 (by rw [ex]; rfl)
      have xc1 : wr.cell? ⟨b, h * 2 + 1, none⟩ = some x1 := gx1 1 x1 (by rw [ex]; rfl)
      obtain ⟨y0, y1, ey⟩ := seven (E.size y)
      have gy1 : ∀ (r : Nat) u, (enc y)[r]? = some u → wr.cell? ⟨b, m * 2 + r, none⟩ = some u := fun r u hu => by have := gy1 r u (by simpa using hu); simpa using this
      have gy2 : ∀ (r : Nat), r < 2 → (wr.cell? ⟨b, m * 2 + r, none⟩).isSome = true ∧ wr.frozen? ⟨b, m * 2 + r, none⟩ = false := fun r hr => by have := gy2 r hr; simpa using this
      have yc0 : wr.cell? ⟨b, m * 2, none⟩ = some y0 := gy1 0 y0 (by rw [ey]; rfl)
      have yc1 : wr.cell? ⟨b, m * 2 + 1, none⟩ = some y1 := gy1 1 y1 (by rw [ey]; rfl)
      have hwB := hid_of (hw0.out.trans (But.of_below hb.out))
      have hcx := hid_of (hcmp.out y x)
      rw [ex, ey] at hcx
      replace b1 := hid_of b1
      replace b2 := hid_of b2
      clear gx1 gx2 gy1 gy2 hx' hy' b5
      go_upto_region 17 with fail
      rw [eh.out]
      refine wp_region_quiet (C := fun w' => Below wr.heap.size wr w') (by kernel_rfl) (by kernel_rfl) (below_drewN (Below.refl _ _) 1) ?_
      with_reducible refine wpQuiet_step (fun K hK => ?_)
      try refine k_quiet_if (by kernel_rfl) ?_
      refine ⟨.func (.func 106) #[] #[], fun w' _ => ?_, ?_⟩
      · first | (go_simp; done) | (go_simp; decide)
      with_reducible refine hK _ ?_
      clear hK K
      simp only [Act.put, List.setIfInBounds_toArray, List.set_cons_zero, List.set_cons_succ]
      with_reducible refine wpQuiet_step (fun K hK => ?_)
      try refine k_quiet_if (by kernel_rfl) ?_
      refine ⟨.slice (some ⟨b, 0, none⟩) n cap, fun w' _ => ?_, ?_⟩
      · first | (go_simp; done) | (go_simp; decide)
      with_reducible refine hK _ ?_
      clear hK K
      simp only [Act.put, List.setIfInBounds_toArray, List.set_cons_zero, List.set_cons_succ]
      with_reducible refine wpQuiet_step (fun K hK => ?_)
      try refine k_quiet_if (by kernel_rfl) ?_
      refine ⟨.int .i64 m, fun w' _ => ?_, ?_⟩
      · first | (go_simp; done) | (go_simp; decide)
      with_reducible refine hK _ ?_
      clear hK K
      simp only [Act.put, List.setIfInBounds_toArray, List.set_cons_zero, List.set_cons_succ]
      with_reducible refine wpQuiet_step (fun K hK => ?_)
      try refine k_quiet_if (by kernel_rfl) ?_
      refine ⟨.pointer (some ⟨b, m * 2, none⟩), fun w' _ => ?_, ?_⟩
      · first | (go_simp; done) | (go_simp; decide)
      with_reducible refine hK _ ?_
      clear hK K
      simp only [Act.put, List.setIfInBounds_toArray, List.set_cons_zero, List.set_cons_succ]
      with_reducible refine wpQuiet_step (fun K hK => ?_)
      try refine k_quiet_if (by kernel_rfl) ?_
      refine ⟨.agg #[y0, y1], fun w' hw' => ?_, ?_⟩
      · have t0 := stay hw' yc0
        have t1 := stay hw' yc1
        go_simp
      with_reducible refine hK _ ?_
      clear hK K
      simp only [Act.put, List.setIfInBounds_toArray, List.set_cons_zero, List.set_cons_succ]
      with_reducible refine wpQuiet_step (fun K hK => ?_)
      try refine k_quiet_if (by kernel_rfl) ?_
      refine ⟨.slice (some ⟨b, 0, none⟩) n cap, fun w' _ => ?_, ?_⟩
      · first | (go_simp; done) | (go_simp; decide)
      with_reducible refine hK _ ?_
      clear hK K
      simp only [Act.put, List.setIfInBounds_toArray, List.set_cons_zero, List.set_cons_succ]
      with_reducible refine wpQuiet_step (fun K hK => ?_)
      try refine k_quiet_if (by kernel_rfl) ?_
      refine ⟨.int .i64 h, fun w' _ => ?_, ?_⟩
      · first | (go_simp; done) | (go_simp; decide)
      with_reducible refine hK _ ?_
      clear hK K
      simp only [Act.put, List.setIfInBounds_toArray, List.set_cons_zero, List.set_cons_succ]
      with_reducible refine wpQuiet_step (fun K hK => ?_)
      try refine k_quiet_if (by kernel_rfl) ?_
      refine ⟨.pointer (some ⟨b, h * 2, none⟩), fun w' _ => ?_, ?_⟩
      · first | (go_simp; done) | (go_simp; decide)
      with_reducible refine hK _ ?_
      clear hK K
      simp only [Act.put, List.setIfInBounds_toArray, List.set_cons_zero, List.set_cons_succ]
      with_reducible refine wpQuiet_step (fun K hK => ?_)
      try refine k_quiet_if (by kernel_rfl) ?_
      refine ⟨.agg #[x0, x1], fun w' hw' => ?_, ?_⟩
      · have t0 := stay hw' xc0
        have t1 := stay hw' xc1
        go_simp
      with_reducible refine hK _ ?_
      clear hK K
      simp only [Act.put, List.setIfInBounds_toArray, List.set_cons_zero, List.set_cons_succ]
      with_reducible refine wpQuiet_step (fun K hK => ?_)
      try refine k_quiet_if (by kernel_rfl) ?_
      refine ⟨.int .i64 (cn y x), fun w' hw' => ?_, ?_⟩
      · go_simp
        refine (hcx.out w' (hwB.out.trans (But.of_below hw'))).mono ?_
        rintro e w'' ⟨rfl, hb⟩
        exact ⟨rfl, hw'.trans (hb.mono hw'.size)⟩
      with_reducible refine hK _ ?_
      clear hK K
      simp only [Act.put, List.setIfInBounds_toArray, List.set_cons_zero, List.set_cons_succ]
      by_cases hcz : cn y x < 0
      · have hly := hid_of (show nlt lt x y = false by unfold nlt; rw [hlt.out, decide_eq_true hcz]; rfl)
        with_reducible refine wpQuiet_step (fun K hK => ?_)
        try refine k_quiet_if (by kernel_rfl) ?_
        refine ⟨.bool true, fun w' _ => ?_, ?_⟩
        · first | (go_simp; done) | (go_simp; decide)
        with_reducible refine hK _ ?_
        clear hK K
        simp only [Act.put, List.setIfInBounds_toArray, List.set_cons_zero, List.set_cons_succ]
        with_reducible refine wpQuiet_step (fun K hK => ?_)
        try refine k_quiet_if (by kernel_rfl) ?_
        refine ⟨.bool false, fun w' _ => ?_, ?_⟩
        · first | (go_simp; done) | (go_simp; decide)
        with_reducible refine hK _ ?_
        clear hK K
        simp only [Act.put, List.setIfInBounds_toArray, List.set_cons_zero, List.set_cons_succ]
        refine wpQuiet_nil ?_
        intro X1 hX1
        have hb' := hid_of (hb.out.trans (hX1.mono hb.out.size))
        clear hcx hX1 hb xc0 xc1 yc0 yc1
        go_wp2_with fail
        exact ⟨⟨i, h, s, h - a, rfl, rfl, hs, (by have := b1.out; have := hs.out; omega : a + (h - a) = h), hk.out.down (by have := b1.out; have := hs.out; omega) (by have := b2.out; have := ht.out; have := b1.out; have := hs.out; omega) hx.out hly.out, hb'⟩, by have := b1.out; have := b2.out; simp [intOf]; omega⟩
      · have hly := hid_of (show nlt lt x y = true by unfold nlt; rw [hlt.out, decide_eq_false hcz]; rfl)
        with_reducible refine wpQuiet_step (fun K hK => ?_)
        try refine k_quiet_if (by kernel_rfl) ?_
        refine ⟨.bool false, fun w' _ => ?_, ?_⟩
        · first | (go_simp; done) | (go_simp; decide)
        with_reducible refine hK _ ?_
        clear hK K
        simp only [Act.put, List.setIfInBounds_toArray, List.set_cons_zero, List.set_cons_succ]
        with_reducible refine wpQuiet_step (fun K hK => ?_)
        try refine k_quiet_if (by kernel_rfl) ?_
        refine ⟨.bool true, fun w' _ => ?_, ?_⟩
        · first | (go_simp; done) | (go_simp; decide)
        with_reducible refine hK _ ?_
        clear hK K
        simp only [Act.put, List.setIfInBounds_toArray, List.set_cons_zero, List.set_cons_succ]
        refine wpQuiet_nil ?_
        intro X1 hX1
        have hb' := hid_of (hb.out.trans (hX1.mono hb.out.size))
        clear hcx hX1 hb xc0 xc1 yc0 yc1
        go_wp2_with fail
        exact ⟨⟨h + 1, j, h + 1 - a, t, by go_num, rfl, (by have := b1.out; have := hs.out; omega : a + (h + 1 - a) = h + 1), ht, by rw [show h + 1 - a = h - a + 1 by have := b1.out; have := hs.out; omega]; exact hk.out.up (by have := b2.out; have := ht.out; have := b1.out; have := hs.out; omega) hx.out hly.out, hb'⟩, by have := b1.out; have := b2.out; simp [intOf]; omega⟩
    · have i1 : ¬ (i : Int) < (j : Int) := by omega
      have i3 : (0 : Int) ≤ (i : Int) := by omega
      have i5 : (i : Int) ≤ (m : Int) := by have := hs.out; have := hk.out.le; have := hk.out.end_; have := hm.out; omega
      go_wp2_with fail
      have hst' : s = t := by have := hs.out; have := ht.out; have := hk.out.le; omega
      subst hst'
      have hcut : Hid (mergeL lt L [y] = onL y L s) := last_cut O hup.out s hk.out.end_ (fun x h1 h2 => by have := hk.out.low x h1 h2; unfold nlt at this; simpa using this) (fun x h2 => by have := hk.out.high x h2; unfold nlt at this; simpa using this)
      have hse : s ≤ L.length := hk.out.end_
      have h0 : Hid (RowE enc wr b (A ++ (onL y L L.length ++ B))) := by show RowE enc wr b (A ++ (onL y L L.length ++ B)); unfold onL; simpa using hR.out.below hb.out
      have hb0 : Hid (But b w wr) := But.of_below hb.out
      clear hR hcmp hlt hk hb hup
      go_loopw [17] (fun kv wr => ∃ k t : Nat, kv = .int .i64 k ∧ Hid (a + t = k) ∧ Hid (s ≤ t) ∧ Hid (t ≤ L.length) ∧ Hid (RowE enc wr b (A ++ (onL y L t ++ B))) ∧ Hid (But b w wr)) (fun kv _ => (intOf kv).toNat)
      case atStart => exact ⟨m, L.length, rfl, hm, hse, Nat.le_refl _, h0, hb0⟩
      case round =>
        obtain ⟨k, r, rfl, hr, hrs, hrl, hRk, hBk⟩ := hrel
        by_cases hqq : s < r
        · have k1 : (i : Int) < (k : Int) := by have := hr.out; have := hs.out; omega
          have k3 : (k : Int) < (n : Int) := by have := hr.out; have := hm.out; have := hrl.out; omega
          have k2 : (0 : Int) ≤ (k : Int) := by omega
          obtain ⟨q, rfl⟩ : ∃ q, r = q + 1 := ⟨r - 1, by omega⟩
          obtain ⟨p, hp⟩ : ∃ p, Hid (p + 1 = k) := ⟨k - 1, by show k - 1 + 1 = k; omega⟩
          have k4 : IntKind.i64.wrap ((k : Int) - 1) = (p : Int) := by rw [wrap_in (by omega) (by omega)]; have := hp.out; omega
          have k5 : (p : Int) < (n : Int) := by have := hp.out; omega
          have k6 : (0 : Int) ≤ (p : Int) := by omega
          obtain ⟨x, hx⟩ : ∃ x, Hid (L[q]? = some x) := ⟨L[q]'(by have := hrl.out; omega), List.getElem?_eq_getElem (by have := hrl.out; omega)⟩
          have hat := onL_behind A x y L B q p (by have := ha.out; have := hr.out; have := hp.out; omega) hx.out
          have hx' := hat.1
          have hy' := hat.2
          rw [hp.out] at hy'
          obtain ⟨gx1, gx2⟩ := hRk.out p x hx'
          obtain ⟨gy1, gy2⟩ := hRk.out k y hy'
          obtain ⟨x0, x1, ex⟩ := seven (E.size x)
          have gx1 : ∀ (r : Nat) u, (enc x)[r]? = some u → wr.cell? ⟨b, p * 2 + r, none⟩ = some u := fun r u hu => by have := gx1 r u (by simpa using hu); simpa using this
          have gx2 : ∀ (r : Nat), r < 2 → (wr.cell? ⟨b, p * 2 + r, none⟩).isSome = true ∧ wr.frozen? ⟨b, p * 2 + r, none⟩ = false := fun r hr => by have := gx2 r hr; simpa using this
          have xc0 : wr.cell? ⟨b, p * 2, none⟩ = some x0 := gx1 0 x0 (by rw [ex]; rfl)
          have xc1 : wr.cell? ⟨b, p * 2 + 1, none⟩ = some x1 := gx1 1 x1 (by rw [ex]; rfl)
          obtain ⟨y0, y1, ey⟩ := seven (E.size y)
          have gy1 : ∀ (r : Nat) u, (enc y)[r]? = some u → wr.cell? ⟨b, k * 2 + r, none⟩ = some u := fun r u hu => by have := gy1 r u (by simpa using hu); simpa using this
          have gy2 : ∀ (r : Nat), r < 2 → (wr.cell? ⟨b, k * 2 + r, none⟩).isSome = true ∧ wr.frozen? ⟨b, k * 2 + r, none⟩ = false := fun r hr => by have := gy2 r hr; simpa using this
          have yc0 : wr.cell? ⟨b, k * 2, none⟩ = some y0 := gy1 0 y0 (by rw [ey]; rfl)
          have yc1 : wr.cell? ⟨b, k * 2 + 1, none⟩ = some y1 := gy1 1 y1 (by rw [ey]; rfl)
          have ox : ∀ (r : Nat) u, (enc x)[r]? = some u → u.oneCell' = true := fun r u hu => Array.all_eq_true_iff_forall_mem.1 (E.one x) u (Array.mem_of_getElem? hu)
          have xf0 : wr.frozen? ⟨b, p * 2, none⟩ = false := (gx2 0 (by omega)).2
          have xo0 : x0.oneCell' = true := ox 0 x0 (by rw [ex]; rfl)
          have xf1 : wr.frozen? ⟨b, p * 2 + 1, none⟩ = false := (gx2 1 (by omega)).2
          have xo1 : x1.oneCell' = true := ox 1 x1 (by rw [ex]; rfl)
          have oy : ∀ (r : Nat) u, (enc y)[r]? = some u → u.oneCell' = true := fun r u hu => Array.all_eq_true_iff_forall_mem.1 (E.one y) u (Array.mem_of_getElem? hu)
          have yf0 : wr.frozen? ⟨b, k * 2, none⟩ = false := (gy2 0 (by omega)).2
          have yo0 : y0.oneCell' = true := oy 0 y0 (by rw [ey]; rfl)
          have yf1 : wr.frozen? ⟨b, k * 2 + 1, none⟩ = false := (gy2 1 (by omega)).2
          have yo1 : y1.oneCell' = true := oy 1 y1 (by rw [ey]; rfl)
          have hend : Hid (RowE enc ((wr.setCells b (k * 2) (enc x).toList).setCells b (p * 2) (enc y).toList).drew b (A ++ (onL y L q ++ B)) ∧ But b w ((wr.setCells b (k * 2) (enc x).toList).setCells b (p * 2) (enc y).toList).drew) := by
            have hlp := (List.getElem?_eq_some_iff.1 hx').1
            have hlk := (List.getElem?_eq_some_iff.1 hy').1
            refine ⟨?_, ((hBk.out.trans (setCells_but b _ _ _)).trans (setCells_but b _ _ _)).drew⟩
            have h2 := (hRk.out.set E hlk x).set E (j := p) (by simpa using hlp) y
            rw [show (A ++ (onL y L (q + 1) ++ B)).set k x = (A ++ (onL y L (q + 1) ++ B)).set (p + 1) x by rw [hp.out], onL_back A x y L B q p (by have := ha.out; have := hr.out; have := hp.out; omega) hx.out] at h2
            exact h2.drew
          have n1 : ∀ r s, r < 2 → s < 2 → (p * 2 + r = k * 2 + s) = False := fun r s h1 h2 => eq_false (by have := hp.out; omega)
          have n2 : ∀ s, s < 2 → (p * 2 = k * 2 + s) = False := fun s h2 => eq_false (by have := hp.out; omega)
          have n3 : ∀ r, r < 2 → (p * 2 + r = k * 2) = False := fun r h1 => eq_false (by have := hp.out; omega)
          have n4 : (p * 2 = k * 2) = False := eq_false (by have := hp.out; omega)
          have n5 : ∀ r s, r < 2 → s < 2 → (k * 2 + s = p * 2 + r) = False := fun r s h1 h2 => eq_false (by have := hp.out; omega)
          have n6 : ∀ s, s < 2 → (k * 2 + s = p * 2) = False := fun s h2 => eq_false (by have := hp.out; omega)
          have n7 : ∀ r, r < 2 → (k * 2 = p * 2 + r) = False := fun r h1 => eq_false (by have := hp.out; omega)
          have n8 : (k * 2 = p * 2) = False := eq_false (by have := hp.out; omega)
          rw [ex, ey] at hend
          clear hRk hBk gx1 gx2 gy1 gy2 ox oy hx' hy' hat
          have hst := run_st
          go_upto_region 23 with fail
          go_region
          all_goals
            obtain ⟨X, hX⟩ : ∃ X, Hid (((((wr.setCell ⟨b, k * 2, none⟩ x0).setCell ⟨b, k * 2 + 1, none⟩ x1).setCell ⟨b, p * 2, none⟩ y0).setCell ⟨b, p * 2 + 1, none⟩ y1).drew = X) := ⟨_, rfl⟩
            have hfi : Hid (RowE enc X b (A ++ (onL y L q ++ B)) ∧ But b w X) := by rw [← hX.out]; exact hend.out
            rw [hX.out]
            clear hend hst n1 n2 n3 n4 n5 n6 n7 n8 xc0 xc1 xf0 xf1 xo0 xo1 yc0 yc1 yf0 yf1 yo0 yo1
            go_wp2_with fail
            exact ⟨⟨p, q, by first | rfl | (rw [k4]) | (have := hp.out; go_num), (by have := hp.out; have := hr.out; omega : a + q = p), (by omega : s ≤ q), (by have := hrl.out; omega : q ≤ L.length), hfi.out.1, hfi.out.2⟩, by have := hp.out; simp [intOf]; omega⟩
        · obtain rfl : r = s := by have := hrs.out; omega
          have k1 : ¬ (i : Int) < (k : Int) := by have := hr.out; have := hs.out; omega
          rw [← hcut.out] at hRk
          go_wp2_with fail
          refine bodyPost_ret (results_none rfl _ _ _) rfl ?_
          exact ⟨rfl, hRk.out, hBk.out⟩
end
end Go.Proofs.YtbcfkajcmbckbaaGreatDoor.SortM
/-! Stable sorting over memory: merging in general: where it is cut. -/
namespace Go.Proofs.YtbcfkajcmbckbaaGreatDoor.SortM
open Go Go.RowKit Go.Stab
section
variable {α : Type} {enc : α → Array Value}
/-- The search for the cut: s of L and H - s of R, or t of L and H - t of R. -/
structure Cut (lt : α → α → Bool) (L R : List α) (H s t : Nat) : Prop where
  le : s ≤ t
  tH : t ≤ H
  tl : t ≤ L.length
  sr : H ≤ R.length + s
  low : ∀ x y, 0 < s → L[s - 1]? = some x → R[H - s]? = some y → lt y x = false
  high : ∀ x y, L[t]? = some x → 0 < H - t → R[H - t - 1]? = some y → lt y x = true
theorem Cut.up {lt : α → α → Bool} {L R : List α} {H s t u : Nat} {x y : α} (k : Cut lt L R H s t) (h1 : s ≤ u) (h2 : u < t) (hx : L[u]? = some x) (hy : R[H - 1 - u]? = some y) (h : lt y x = false) : Cut lt L R H (u + 1) t :=
  ⟨by omega, k.tH, k.tl, by have := k.sr; omega, fun x' y' _ hx' hy' => by
    rw [show u + 1 - 1 = u by omega, hx] at hx'
    rw [show H - (u + 1) = H - 1 - u by omega, hy] at hy'
    cases hx'; cases hy'; exact h, k.high⟩
theorem Cut.down {lt : α → α → Bool} {L R : List α} {H s t u : Nat} {x y : α} (k : Cut lt L R H s t) (h1 : s ≤ u) (h2 : u < t) (hx : L[u]? = some x) (hy : R[H - 1 - u]? = some y) (h : lt y x = true) : Cut lt L R H s u :=
  ⟨h1, by have := k.tH; omega, by have := k.tl; omega, k.sr, k.low, fun x' y' hx' _ hy' => by
    rw [hx] at hx'
    rw [show H - u - 1 = H - 1 - u by omega, hy] at hy'
    cases hx'; cases hy'; exact h⟩
/-- What stands behind is no less. -/
theorem Cut.far {lt : α → α → Bool} {L R : List α} {H : Nat} (h1 : H < L.length) (h2 : R.length ≤ H) : Cut lt L R H (H - R.length) H :=
  ⟨by omega, by omega, by omega, by omega, fun x y h0 _ hy => by
    have := (List.getElem?_eq_some_iff.1 hy).1
    omega, fun x y _ h0 _ => by omega⟩
theorem Cut.near {lt : α → α → Bool} {L R : List α} {H : Nat} (h1 : L.length ≤ H) (h2 : H ≤ R.length) : Cut lt L R H 0 L.length :=
  ⟨by omega, by omega, by omega, by omega, fun x y h0 _ _ => by omega, fun x y hx _ _ => by
    have := (List.getElem?_eq_some_iff.1 hx).1
    omega⟩
theorem Cut.done {lt : α → α → Bool} (O : Swo lt) {L R : List α} {H s : Nat} (k : Cut lt L R H s s) (hl : Up lt L) (hr : Up lt R) : mergeL lt L R = mergeL lt (L.take s) (R.take (H - s)) ++ mergeL lt (L.drop s) (R.drop (H - s)) :=
  merge_cut O hl hr s (H - s) (fun x y hx h0 hy => k.high x y hx h0 hy) k.low k.tl (by have := k.sr; omega)
theorem Up.take {lt : α → α → Bool} {l : List α} (h : Up lt l) (n : Nat) : Up lt (l.take n) := by
  rw [← List.take_append_drop n l] at h
  exact (Up.append h).1
theorem Up.drop {lt : α → α → Bool} {l : List α} (h : Up lt l) (n : Nat) : Up lt (l.drop n) := by
  rw [← List.take_append_drop n l] at h
  exact (Up.append h).2.1
/-- What symMerge promises of lists that are s long together. -/
def SymOk (enc : α → Array Value) (lt : α → α → Bool) (w0 : World) (b n cap s : Nat) : Prop :=
  ∀ (A L R B : List α) (a m c : Nat) (w : World), But b w0 w → RowE enc w b (A ++ (L ++ (R ++ B))) → Up lt L → Up lt R → 0 < L.length → 0 < R.length → L.length + R.length = s → A.length = a → a + L.length = m → m + R.length = c → c + B.length = n →
    Calls Tryz.prog 111 #[.slice (some ⟨b, 0, none⟩) n cap, .int .i64 a, .int .i64 m, .int .i64 c, .func (.func 106) #[] #[]] w fun e w' => e = .returned (.tuple #[]) ∧ RowE enc w' b (A ++ (mergeL lt L R ++ B)) ∧ But b w w'
end
end Go.Proofs.YtbcfkajcmbckbaaGreatDoor.SortM
/-! Stable sorting over memory: merging in general. -/
namespace Go.Proofs.YtbcfkajcmbckbaaGreatDoor.SortM
open Go Go.RowKit Go.Stab
section
variable {α : Type} {enc : α → Array Value}
set_option maxRecDepth 100000 in
set_option maxHeartbeats 8000000 in
theorem sym_step (E : Enc enc) {lt : α → α → Bool} (O : Swo lt) {b : Nat} {w0 : World} (cn : α → α → Int) (hlt : ∀ x y, lt x y = decide (cn x y < 0)) (hcmp : ∀ x y W, But b w0 W → Calls Tryz.prog 106 #[.agg (enc x), .agg (enc y)] W fun e w' => e = .returned (.int .i64 (cn x y)) ∧ Below W.heap.size W w')
    (A L R B : List α) (n cap a m c : Nat) (w : World) (hw0 : But b w0 w) (ih : ∀ s, s < L.length + R.length → SymOk enc lt w0 b n cap s) (hR : RowE enc w b (A ++ (L ++ (R ++ B)))) (hul : Up lt L) (hur : Up lt R) (hL : 1 < L.length) (hRr : 1 < R.length) (ha : A.length = a) (hm : a + L.length = m) (hc : m + R.length = c) (hn : c + B.length = n) (hnn : n ≤ 4611686018427387904) :
    Calls Tryz.prog 111 #[.slice (some ⟨b, 0, none⟩) n cap, .int .i64 a, .int .i64 m, .int .i64 c, .func (.func 106) #[] #[]] w fun e w' => e = .returned (.tuple #[]) ∧ RowE enc w' b (A ++ (mergeL lt L R ++ B)) ∧ But b w w' := by
  replace hlt := hid_of hlt
  replace hcmp := hid_of hcmp
  replace hw0 := hid_of hw0
  replace hR := hid_of hR
  replace ih := hid_of ih
  obtain ⟨H, hH⟩ : ∃ H, Hid (H = (L.length + R.length) / 2) := ⟨_, rfl⟩
  obtain ⟨md, hmd⟩ : ∃ md, Hid (a + H = md) := ⟨_, rfl⟩
  obtain ⟨N, hN⟩ : ∃ N, Hid (md + m = N) := ⟨_, rfl⟩
  obtain ⟨P, hP⟩ : ∃ P, Hid (P + 1 = N) := ⟨N - 1, by show N - 1 + 1 = N; have := hN.out; omega⟩
  have emd : Hid (((a : Int) + (c : Int)) / 2 = (md : Int)) := by show ((a : Int) + (c : Int)) / 2 = (md : Int); have := hH.out; have := hmd.out; omega
  have eN : Hid ((md : Int) + (m : Int) = (N : Int)) := by show (md : Int) + (m : Int) = (N : Int); have := hN.out; omega
  have eP : Hid ((N : Int) - 1 = (P : Int)) := by show (N : Int) - 1 = (P : Int); have := hP.out; omega
  have f1 : ¬ (m : Int) - (a : Int) = 1 := by omega
  have f0 : ¬ (c : Int) - (m : Int) = 1 := by omega
  have f2 : (m : Int) < (c : Int) := by omega
  have f3 : (c : Int) ≤ (n : Int) := by omega
  have f4 : (n : Int) ≤ 4611686018427387904 := by omega
  have f5 : (0 : Int) ≤ (a : Int) := by omega
  have f7 : (c : Int) ≤ 4611686018427387904 := by omega
  have f8 : (a : Int) < (m : Int) := by omega
  have f9 : (md : Int) < (c : Int) := by have := hH.out; have := hmd.out; omega
  have f10 : (a : Int) < (md : Int) := by have := hH.out; have := hmd.out; omega
  have f11 : (N : Int) ≤ 9223372036854775807 := by have := hN.out; omega
  have f12 : (1 : Int) ≤ (N : Int) := by have := hN.out; omega
  replace ha := hid_of ha
  replace hm := hid_of hm
  replace hc := hid_of hc
  replace hn := hid_of hn
  replace hL := hid_of hL
  replace hRr := hid_of hRr
  go_enter Tryz.func111, Tryz.ntmps111
  go_upto_region 25 with fail
  rw [emd.out]
  go_upto_region 26 with fail
  rw [eN.out]
  by_cases hcase : md < m
  · have g1 : (md : Int) < (m : Int) := by omega
    obtain ⟨S0, hS0⟩ : ∃ S0, Hid (a + (H - R.length) = S0) := ⟨_, rfl⟩
    have eS : Hid ((N : Int) - (c : Int) = (S0 : Int)) := by show (N : Int) - (c : Int) = (S0 : Int); have := hS0.out; have := hN.out; have := hH.out; have := hmd.out; have := hm.out; have := hc.out; omega
    have g2 : (c : Int) ≤ (N : Int) := by have := hN.out; have := hH.out; have := hmd.out; have := hm.out; have := hc.out; omega
    have hk0 : Hid (Cut lt L R H (H - R.length) H) := Cut.far (by have := hmd.out; have := hm.out; omega) (by have := hH.out; have := hmd.out; have := hm.out; omega)
    have hs0 : Hid (a + H = md) := hmd
    go_upto_region 32 with fail
    rw [eS.out]
    go_wp2_with fail
    rw [eP.out]
    go_loopw [20, 21] (fun iv jv wr => ∃ i j s t : Nat, iv = .int .i64 i ∧ jv = .int .i64 j ∧ Hid (a + s = i) ∧ Hid (a + t = j) ∧ Hid (Cut lt L R H s t) ∧ Hid (Below w.heap.size w wr)) (fun iv jv _ => (intOf jv).toNat - (intOf iv).toNat)
    case atStart => exact ⟨S0, md, H - R.length, H, rfl, rfl, hS0, hs0, hk0, Below.refl _ _⟩
    case round =>
      clear hk0
      obtain ⟨i, j, s, t, rfl, rfl, hs, ht, hk, hb⟩ := hrel
      by_cases hij : i < j
      · have i1 : (i : Int) < (j : Int) := by omega
        have i2 : (j : Int) ≤ (m : Int) := by have := hk.out.tl; have := ht.out; have := hm.out; omega
        have i3 : (0 : Int) ≤ (i : Int) := by omega
        have i4 : (i : Int) + (j : Int) ≤ 9223372036854775807 := by omega
        obtain ⟨h, hh⟩ : ∃ h : Nat, Hid (h = (i + j) / 2) := ⟨_, rfl⟩
        have eh : Hid (((i : Int) + (j : Int)) / 2 = (h : Int)) := by show ((i : Int) + (j : Int)) / 2 = (h : Int); have := hh.out; omega
        have b1 : i ≤ h := by have := hh.out; omega
        have b2 : h < j := by have := hh.out; omega
        have b3 : (h : Int) < (n : Int) := by omega
        have b4 : (0 : Int) ≤ (h : Int) := by omega
        have b5 : h - a < L.length := by have := hk.out.tl; have := ht.out; have := hs.out; omega
        have b6 : H - 1 - (h - a) < R.length := by have := hk.out.sr; have := hk.out.tH; have := ht.out; have := hs.out; omega
        obtain ⟨z, hz⟩ : ∃ z, Hid (m + (H - 1 - (h - a)) = z) := ⟨_, rfl⟩
        have ez : IntKind.i64.wrap ((P : Int) - (h : Int)) = (z : Int) := by have := hz.out; have := hP.out; have := hN.out; have := hmd.out; have := hk.out.tH; have := ht.out; have := hs.out; rw [wrap_in (by omega) (by omega)]; omega
        have b7 : (z : Int) < (n : Int) := by have := hz.out; have := hc.out; omega
        have b8 : (0 : Int) ≤ (z : Int) := by omega
        obtain ⟨x, hx⟩ : ∃ x, Hid (L[h - a]? = some x) := ⟨L[h - a], List.getElem?_eq_getElem b5⟩
        obtain ⟨y, hy⟩ : ∃ y, Hid (R[H - 1 - (h - a)]? = some y) := ⟨R[H - 1 - (h - a)], List.getElem?_eq_getElem b6⟩
        have hx' : (A ++ (L ++ (R ++ B)))[h]? = some x := by
          rw [List.getElem?_append_right (by have := ha.out; have := hs.out; omega), show h - A.length = h - a by rw [ha.out], List.getElem?_append_left b5]
          exact hx.out
        have hy' : (A ++ (L ++ (R ++ B)))[z]? = some y := by
          rw [List.getElem?_append_right (by have := ha.out; have := hz.out; have := hm.out; omega), List.getElem?_append_right (by have := ha.out; have := hz.out; have := hm.out; omega), show z - A.length - L.length = H - 1 - (h - a) by have := ha.out; have := hz.out; have := hm.out; omega, List.getElem?_append_left b6]
          exact hy.out
        obtain ⟨gx1, gx2⟩ := (hR.out.below hb.out) h x hx'
        obtain ⟨gy1, gy2⟩ := (hR.out.below hb.out) z y hy'
        obtain ⟨x0, x1, ex⟩ := seven (E.size x)
        have gx1 : ∀ (r : Nat) u, (enc x)[r]? = some u → wr.cell? ⟨b, h * 2 + r, none⟩ = some u := fun r u hu => by have := gx1 r u (by simpa using hu); simpa using this
        have gx2 : ∀ (r : Nat), r < 2 → (wr.cell? ⟨b, h * 2 + r, none⟩).isSome = true ∧ wr.frozen? ⟨b, h * 2 + r, none⟩ = false := fun r hr => by have := gx2 r hr; simpa using this
        have xc0 : wr.cell? ⟨b, h * 2, none⟩ = some x0 := gx1 0 x0 (by rw [ex]; rfl)
        have xc1 : wr.cell? ⟨b, h * 2 + 1, none⟩ = some x1 := gx1 1 x1 (by rw [ex]; rfl)
        obtain ⟨y0, y1, ey⟩ := seven (E.size y)
        have gy1 : ∀ (r : Nat) u, (enc y)[r]? = some u → wr.cell? ⟨b, z * 2 + r, none⟩ = some u := fun r u hu => by have := gy1 r u (by simpa using hu); simpa using this
        have gy2 : ∀ (r : Nat), r < 2 → (wr.cell? ⟨b, z * 2 + r, none⟩).isSome = true ∧ wr.frozen? ⟨b, z * 2 + r, none⟩ = false := fun r hr => by have := gy2 r hr; simpa using this
        have yc0 : wr.cell? ⟨b, z * 2, none⟩ = some y0 := gy1 0 y0 (by rw [ey]; rfl)
        have yc1 : wr.cell? ⟨b, z * 2 + 1, none⟩ = some y1 := gy1 1 y1 (by rw [ey]; rfl)
        have hwB := hid_of (hw0.out.trans (But.of_below hb.out))
        have hcx := hid_of (hcmp.out y x)
        rw [ex, ey] at hcx
        replace b1 := hid_of b1
        replace b2 := hid_of b2
        clear gx1 gx2 gy1 gy2 hx' hy' b5 b6
        go_upto_region 35 with fail
        rw [eh.out]
        refine wp_region_quiet (C := fun w' => Below wr.heap.size wr w') (by kernel_rfl) (by kernel_rfl) (below_drewN (Below.refl _ _) 1) ?_
        with_reducible refine wpQuiet_step (fun K hK => ?_)
        try refine k_quiet_if (by kernel_rfl) ?_
        refine ⟨.func (.func 106) #[] #[], fun w' _ => ?_, ?_⟩
        · first | (go_simp; done) | (go_simp; decide)
        with_reducible refine hK _ ?_
        clear hK K
        simp only [Act.put, List.setIfInBounds_toArray, List.set_cons_zero, List.set_cons_succ]
        with_reducible refine wpQuiet_step (fun K hK => ?_)
        try refine k_quiet_if (by kernel_rfl) ?_
        refine ⟨.slice (some ⟨b, 0, none⟩) n cap, fun w' _ => ?_, ?_⟩
        · first | (go_simp; done) | (go_simp; decide)
        with_reducible refine hK _ ?_
        clear hK K
        simp only [Act.put, List.setIfInBounds_toArray, List.set_cons_zero, List.set_cons_succ]
        with_reducible refine wpQuiet_step (fun K hK => ?_)
        try refine k_quiet_if (by kernel_rfl) ?_
        refine ⟨.int .i64 P, fun w' _ => ?_, ?_⟩
        · first | (go_simp; done) | (go_simp; decide)
        with_reducible refine hK _ ?_
        clear hK K
        simp only [Act.put, List.setIfInBounds_toArray, List.set_cons_zero, List.set_cons_succ]
        with_reducible refine wpQuiet_step (fun K hK => ?_)
        try refine k_quiet_if (by kernel_rfl) ?_
        refine ⟨.int .i64 h, fun w' _ => ?_, ?_⟩
        · first | (go_simp; done) | (go_simp; decide)
        with_reducible refine hK _ ?_
        clear hK K
        simp only [Act.put, List.setIfInBounds_toArray, List.set_cons_zero, List.set_cons_succ]
        with_reducible refine wpQuiet_step (fun K hK => ?_)
        try refine k_quiet_if (by kernel_rfl) ?_
        refine ⟨.int .i64 z, fun w' _ => ?_, ?_⟩
        · first | (go_simp; done) | (go_simp; decide)
        with_reducible refine hK _ ?_
        clear hK K
        simp only [Act.put, List.setIfInBounds_toArray, List.set_cons_zero, List.set_cons_succ]
        with_reducible refine wpQuiet_step (fun K hK => ?_)
        try refine k_quiet_if (by kernel_rfl) ?_
        refine ⟨.pointer (some ⟨b, z * 2, none⟩), fun w' _ => ?_, ?_⟩
        · first | (go_simp; done) | (go_simp; decide)
        with_reducible refine hK _ ?_
        clear hK K
        simp only [Act.put, List.setIfInBounds_toArray, List.set_cons_zero, List.set_cons_succ]
        with_reducible refine wpQuiet_step (fun K hK => ?_)
        try refine k_quiet_if (by kernel_rfl) ?_
        refine ⟨.agg #[y0, y1], fun w' hw' => ?_, ?_⟩
        · have t0 := stay hw' yc0
          have t1 := stay hw' yc1
          go_simp
        with_reducible refine hK _ ?_
        clear hK K
        simp only [Act.put, List.setIfInBounds_toArray, List.set_cons_zero, List.set_cons_succ]
        with_reducible refine wpQuiet_step (fun K hK => ?_)
        try refine k_quiet_if (by kernel_rfl) ?_
        refine ⟨.slice (some ⟨b, 0, none⟩) n cap, fun w' _ => ?_, ?_⟩
        · first | (go_simp; done) | (go_simp; decide)
        with_reducible refine hK _ ?_
        clear hK K
        simp only [Act.put, List.setIfInBounds_toArray, List.set_cons_zero, List.set_cons_succ]
        with_reducible refine wpQuiet_step (fun K hK => ?_)
        try refine k_quiet_if (by kernel_rfl) ?_
        refine ⟨.int .i64 h, fun w' _ => ?_, ?_⟩
        · first | (go_simp; done) | (go_simp; decide)
        with_reducible refine hK _ ?_
        clear hK K
        simp only [Act.put, List.setIfInBounds_toArray, List.set_cons_zero, List.set_cons_succ]
        with_reducible refine wpQuiet_step (fun K hK => ?_)
        try refine k_quiet_if (by kernel_rfl) ?_
        refine ⟨.pointer (some ⟨b, h * 2, none⟩), fun w' _ => ?_, ?_⟩
        · first | (go_simp; done) | (go_simp; decide)
        with_reducible refine hK _ ?_
        clear hK K
        simp only [Act.put, List.setIfInBounds_toArray, List.set_cons_zero, List.set_cons_succ]
        with_reducible refine wpQuiet_step (fun K hK => ?_)
        try refine k_quiet_if (by kernel_rfl) ?_
        refine ⟨.agg #[x0, x1], fun w' hw' => ?_, ?_⟩
        · have t0 := stay hw' xc0
          have t1 := stay hw' xc1
          go_simp
        with_reducible refine hK _ ?_
        clear hK K
        simp only [Act.put, List.setIfInBounds_toArray, List.set_cons_zero, List.set_cons_succ]
        with_reducible refine wpQuiet_step (fun K hK => ?_)
        try refine k_quiet_if (by kernel_rfl) ?_
        refine ⟨.int .i64 (cn y x), fun w' hw' => ?_, ?_⟩
        · go_simp
          refine (hcx.out w' (hwB.out.trans (But.of_below hw'))).mono ?_
          rintro e w'' ⟨rfl, hb⟩
          exact ⟨rfl, hw'.trans (hb.mono hw'.size)⟩
        with_reducible refine hK _ ?_
        clear hK K
        simp only [Act.put, List.setIfInBounds_toArray, List.set_cons_zero, List.set_cons_succ]
        by_cases hcz : cn y x < 0
        · have hly := hid_of (show lt y x = true by rw [hlt.out]; exact decide_eq_true hcz)
          with_reducible refine wpQuiet_step (fun K hK => ?_)
          try refine k_quiet_if (by kernel_rfl) ?_
          refine ⟨.bool true, fun w' _ => ?_, ?_⟩
          · first | (go_simp; done) | (go_simp; decide)
          with_reducible refine hK _ ?_
          clear hK K
          simp only [Act.put, List.setIfInBounds_toArray, List.set_cons_zero, List.set_cons_succ]
          with_reducible refine wpQuiet_step (fun K hK => ?_)
          try refine k_quiet_if (by kernel_rfl) ?_
          refine ⟨.bool false, fun w' _ => ?_, ?_⟩
          · first | (go_simp; done) | (go_simp; decide)
          with_reducible refine hK _ ?_
          clear hK K
          simp only [Act.put, List.setIfInBounds_toArray, List.set_cons_zero, List.set_cons_succ]
          refine wpQuiet_nil ?_
          intro X1 hX1
          have hb' := hid_of (hb.out.trans (hX1.mono hb.out.size))
          clear hcx hX1 hb xc0 xc1 yc0 yc1
          go_wp2_with fail
          exact ⟨⟨i, h, s, h - a, rfl, rfl, hs, (by have := b1.out; have := hs.out; omega : a + (h - a) = h), hk.out.down (by have := b1.out; have := hs.out; omega) (by have := b2.out; have := ht.out; have := b1.out; have := hs.out; omega) hx.out hy.out hly.out, hb'⟩, by have := b1.out; have := b2.out; simp [intOf]; omega⟩
        · have hly := hid_of (show lt y x = false by rw [hlt.out]; exact decide_eq_false hcz)
          with_reducible refine wpQuiet_step (fun K hK => ?_)
          try refine k_quiet_if (by kernel_rfl) ?_
          refine ⟨.bool false, fun w' _ => ?_, ?_⟩
          · first | (go_simp; done) | (go_simp; decide)
          with_reducible refine hK _ ?_
          clear hK K
          simp only [Act.put, List.setIfInBounds_toArray, List.set_cons_zero, List.set_cons_succ]
          with_reducible refine wpQuiet_step (fun K hK => ?_)
          try refine k_quiet_if (by kernel_rfl) ?_
          refine ⟨.bool true, fun w' _ => ?_, ?_⟩
          · first | (go_simp; done) | (go_simp; decide)
          with_reducible refine hK _ ?_
          clear hK K
          simp only [Act.put, List.setIfInBounds_toArray, List.set_cons_zero, List.set_cons_succ]
          refine wpQuiet_nil ?_
          intro X1 hX1
          have hb' := hid_of (hb.out.trans (hX1.mono hb.out.size))
          clear hcx hX1 hb xc0 xc1 yc0 yc1
          go_wp2_with fail
          exact ⟨⟨h + 1, j, h + 1 - a, t, by go_num, rfl, (by have := b1.out; have := hs.out; omega : a + (h + 1 - a) = h + 1), ht, by rw [show h + 1 - a = h - a + 1 by have := b1.out; have := hs.out; omega]; exact hk.out.up (by have := b1.out; have := hs.out; omega) (by have := b2.out; have := ht.out; have := b1.out; have := hs.out; omega) hx.out hy.out hly.out, hb'⟩, by have := b1.out; have := b2.out; simp [intOf]; omega⟩
      · have i1 : ¬ (i : Int) < (j : Int) := by omega
        have i0 : (0 : Int) ≤ (i : Int) := by omega
        have hst' : s = t := by have := hs.out; have := ht.out; have := hk.out.le; omega
        subst hst'
        obtain ⟨Q, hQ⟩ : ∃ Q, Hid (H - s = Q) := ⟨_, rfl⟩
        obtain ⟨en, hen⟩ : ∃ en, Hid (m + Q = en) := ⟨_, rfl⟩
        have hsH := hk.out.tH
        have hsl := hk.out.tl
        have hsr := hk.out.sr
        have hHH := hH.out
        have hLL := hL.out
        have hRR := hRr.out
        have hmm := hm.out
        have hcc := hc.out
        have hnn' := hn.out
        have hQQ := hQ.out
        have hss := hs.out
        have hdd := hmd.out
        have hee := hen.out
        have hNN := hN.out
        have haa := ha.out
        have een : Hid ((N : Int) - (i : Int) = (en : Int)) := by show (N : Int) - (i : Int) = (en : Int); omega
        have g3 : (i : Int) ≤ (N : Int) := by omega
        have hmg : Hid (mergeL lt L R = mergeL lt (L.take s) (R.take Q) ++ mergeL lt (L.drop s) (R.drop Q)) := by rw [← hQ.out]; exact hk.out.done O hul hur
        have l1 : (L.take s).length = s := by rw [List.length_take]; omega
        have l2 : (L.drop s).length = L.length - s := by rw [List.length_drop]
        have l3 : (R.take Q).length = Q := by rw [List.length_take]; omega
        have l4 : (R.drop Q).length = R.length - Q := by rw [List.length_drop]
        have u1 := Up.take hul s
        have u2 := Up.drop hul s
        have u3 := Up.take hur Q
        have u4 := Up.drop hur Q
        have row0 : Hid (RowE enc wr b (A ++ (L.take s ++ (L.drop s ++ (R.take Q ++ (R.drop Q ++ B)))))) := by
          rw [← List.append_assoc (L.take s), List.take_append_drop, ← List.append_assoc (R.take Q), List.take_append_drop]
          exact hR.out.below hb.out
        have but0 : Hid (But b w wr) := But.of_below hb.out
        clear hR hk hb hlt hcmp
        obtain ⟨L1, eL1⟩ : ∃ L1, L.take s = L1 := ⟨_, rfl⟩
        obtain ⟨L2, eL2⟩ : ∃ L2, L.drop s = L2 := ⟨_, rfl⟩
        obtain ⟨R1, eR1⟩ : ∃ R1, R.take Q = R1 := ⟨_, rfl⟩
        obtain ⟨R2, eR2⟩ : ∃ R2, R.drop Q = R2 := ⟨_, rfl⟩
        rw [eL1] at l1 u1 row0 hmg
        rw [eL2] at l2 u2 row0 hmg
        rw [eR1] at l3 u3 row0 hmg
        rw [eR2] at l4 u4 row0 hmg
        clear eL1 eL2 eR1 eR2
        have fin : Hid (s = 0 ∧ 0 < Q ∧ Q < R.length ∨ s = 0 ∧ Q = R.length ∨ s = L.length ∧ Q = 0 ∨ s = L.length ∧ 0 < Q ∧ Q < R.length ∨ 0 < s ∧ s < L.length ∧ Q = 0 ∨ 0 < s ∧ s < L.length ∧ 0 < Q ∧ Q < R.length ∨ 0 < s ∧ s < L.length ∧ Q = R.length) := by
          show _ ∨ _
          omega
        rcases fin.out with hx | hx | hx | hx | hx | hx | hx
        · have hx := hx
          have v1 : (i : Int) < (m : Int) := by omega
          have v2 : (m : Int) < (en : Int) := by omega
          have v3 : ¬ (a : Int) < (i : Int) := by omega
          have v4 : (i : Int) < (md : Int) := by omega
          have v5 : (md : Int) < (en : Int) := by omega
          have v6 : (en : Int) < (c : Int) := by omega
          have call1 := hid_of (rotate_any E (A ++ L1) L2 R1 (R2 ++ B) b n cap i m en (.func (.func 106) #[] #[]) wr (by simpa [List.append_assoc] using row0.out) (by simp; omega) (by simp; omega) (by omega) (by simp; omega) (by omega) (by omega) hnn)
          rw [show (A ++ L1) ++ (R1 ++ (L2 ++ (R2 ++ B))) = A ++ (L1 ++ (R1 ++ (L2 ++ (R2 ++ B)))) from List.append_assoc _ _ _] at call1
          have keep2 := hid_of (fun W (hW : RowE enc W b (A ++ (L1 ++ (R1 ++ (L2 ++ (R2 ++ B)))))) => show RowE enc W b (A ++ (mergeL lt L1 R1 ++ (L2 ++ (R2 ++ B)))) by have e : L1 = [] := List.eq_nil_of_length_eq_zero (by omega); rw [e] at hW ⊢; rw [nil_mergeL]; exact hW)
          have call3 := hid_of (fun W (hB : But b w0 W) (hW : RowE enc W b (A ++ (mergeL lt L1 R1 ++ (L2 ++ (R2 ++ B))))) => ih.out (L.length - s + (R.length - Q)) (by omega) (A ++ mergeL lt L1 R1) L2 R2 B md en c W hB (by simpa [List.append_assoc] using hW) u2 u4 (by omega) (by omega) (by omega) (by rw [List.length_append, mergeL_length]; omega) (by omega) (by omega) (by omega))
          clear hsH hsl hsr hHH hLL hRR hmm hcc hnn' hQQ hss hdd hee hNN haa hx l1 l2 l3 l4 u1 u2 u3 u4 fin row0
          go_upto_region 39 with fail
          rw [een.out]
          go_wp2_with fail
          refine call1.out.mono ?_
          rintro e X1 ⟨rfl, row1, b1⟩
          replace row1 := hid_of row1
          have but1 := hid_of (but0.out.trans b1)
          clear b1 but0 call1
          go_wp2_with fail
          refine (call3.out X1 (hw0.out.trans but1.out) (keep2.out X1 row1.out)).mono ?_
          rintro e X3 ⟨rfl, row3, b1⟩
          rw [List.append_assoc, ← List.append_assoc (mergeL lt L1 R1), ← hmg.out] at row3
          replace row3 := hid_of row3
          have but3 := hid_of (but1.out.trans b1)
          clear b1 call3
          go_wp2_with fail
          exact bodyPost_end (results_none rfl _ _ _) rfl ⟨rfl, row3.out, but3.out⟩
        · have hx := hx
          have v1 : (i : Int) < (m : Int) := by omega
          have v2 : (m : Int) < (en : Int) := by omega
          have v3 : ¬ (a : Int) < (i : Int) := by omega
          have v4 : (i : Int) < (md : Int) := by omega
          have v5 : (md : Int) < (en : Int) := by omega
          have v6 : ¬ (en : Int) < (c : Int) := by omega
          have call1 := hid_of (rotate_any E (A ++ L1) L2 R1 (R2 ++ B) b n cap i m en (.func (.func 106) #[] #[]) wr (by simpa [List.append_assoc] using row0.out) (by simp; omega) (by simp; omega) (by omega) (by simp; omega) (by omega) (by omega) hnn)
          rw [show (A ++ L1) ++ (R1 ++ (L2 ++ (R2 ++ B))) = A ++ (L1 ++ (R1 ++ (L2 ++ (R2 ++ B)))) from List.append_assoc _ _ _] at call1
          have keep2 := hid_of (fun W (hW : RowE enc W b (A ++ (L1 ++ (R1 ++ (L2 ++ (R2 ++ B)))))) => show RowE enc W b (A ++ (mergeL lt L1 R1 ++ (L2 ++ (R2 ++ B)))) by have e : L1 = [] := List.eq_nil_of_length_eq_zero (by omega); rw [e] at hW ⊢; rw [nil_mergeL]; exact hW)
          have keep3 := hid_of (fun W (hW : RowE enc W b (A ++ (mergeL lt L1 R1 ++ (L2 ++ (R2 ++ B))))) => show RowE enc W b (A ++ (mergeL lt L R ++ B)) by have e : R2 = [] := List.eq_nil_of_length_eq_zero (by omega); rw [hmg.out]; rw [e] at hW ⊢; rw [mergeL_nil]; simpa [List.append_assoc] using hW)
          clear hsH hsl hsr hHH hLL hRR hmm hcc hnn' hQQ hss hdd hee hNN haa hx l1 l2 l3 l4 u1 u2 u3 u4 fin row0
          go_upto_region 39 with fail
          rw [een.out]
          go_wp2_with fail
          refine call1.out.mono ?_
          rintro e X1 ⟨rfl, row1, b1⟩
          replace row1 := hid_of row1
          have but1 := hid_of (but0.out.trans b1)
          clear b1 but0 call1
          go_wp2_with fail
          exact bodyPost_end (results_none rfl _ _ _) rfl ⟨rfl, (keep3.out X1 (keep2.out X1 row1.out)), but1.out⟩
        · exfalso; omega
        · exfalso; omega
        · have hx := hx
          have v1 : (i : Int) < (m : Int) := by omega
          have v2 : ¬ (m : Int) < (en : Int) := by omega
          have v3 : (a : Int) < (i : Int) := by omega
          have v4 : ¬ (i : Int) < (md : Int) := by omega
          have v5 : (md : Int) < (en : Int) := by omega
          have v6 : (en : Int) < (c : Int) := by omega
          have nil : R1 = [] := List.eq_nil_of_length_eq_zero (by omega)
          have row1 : Hid (RowE enc wr b (A ++ (L1 ++ (R1 ++ (L2 ++ (R2 ++ B)))))) := by have h := row0.out; rw [nil] at h ⊢; exact h
          clear nil
          have keep2 := hid_of (fun W (hW : RowE enc W b (A ++ (L1 ++ (R1 ++ (L2 ++ (R2 ++ B)))))) => show RowE enc W b (A ++ (mergeL lt L1 R1 ++ (L2 ++ (R2 ++ B)))) by have e : R1 = [] := List.eq_nil_of_length_eq_zero (by omega); rw [e] at hW ⊢; rw [mergeL_nil]; exact hW)
          have call3 := hid_of (fun W (hB : But b w0 W) (hW : RowE enc W b (A ++ (mergeL lt L1 R1 ++ (L2 ++ (R2 ++ B))))) => ih.out (L.length - s + (R.length - Q)) (by omega) (A ++ mergeL lt L1 R1) L2 R2 B md en c W hB (by simpa [List.append_assoc] using hW) u2 u4 (by omega) (by omega) (by omega) (by rw [List.length_append, mergeL_length]; omega) (by omega) (by omega) (by omega))
          clear hsH hsl hsr hHH hLL hRR hmm hcc hnn' hQQ hss hdd hee hNN haa hx l1 l2 l3 l4 u1 u2 u3 u4 fin row0
          go_upto_region 39 with fail
          rw [een.out]
          go_wp2_with fail
          refine (call3.out wr (hw0.out.trans but0.out) (keep2.out wr row1.out)).mono ?_
          rintro e X3 ⟨rfl, row3, b1⟩
          rw [List.append_assoc, ← List.append_assoc (mergeL lt L1 R1), ← hmg.out] at row3
          replace row3 := hid_of row3
          have but3 := hid_of (but0.out.trans b1)
          clear b1 call3
          go_wp2_with fail
          exact bodyPost_end (results_none rfl _ _ _) rfl ⟨rfl, row3.out, but3.out⟩
        · have hx := hx
          have v1 : (i : Int) < (m : Int) := by omega
          have v2 : (m : Int) < (en : Int) := by omega
          have v3 : (a : Int) < (i : Int) := by omega
          have v4 : (i : Int) < (md : Int) := by omega
          have v5 : (md : Int) < (en : Int) := by omega
          have v6 : (en : Int) < (c : Int) := by omega
          have call1 := hid_of (rotate_any E (A ++ L1) L2 R1 (R2 ++ B) b n cap i m en (.func (.func 106) #[] #[]) wr (by simpa [List.append_assoc] using row0.out) (by simp; omega) (by simp; omega) (by omega) (by simp; omega) (by omega) (by omega) hnn)
          rw [show (A ++ L1) ++ (R1 ++ (L2 ++ (R2 ++ B))) = A ++ (L1 ++ (R1 ++ (L2 ++ (R2 ++ B)))) from List.append_assoc _ _ _] at call1
          have call2 := hid_of (fun W (hB : But b w0 W) (hW : RowE enc W b (A ++ (L1 ++ (R1 ++ (L2 ++ (R2 ++ B)))))) => ih.out (s + Q) (by omega) A L1 R1 (L2 ++ (R2 ++ B)) a i md W hB hW u1 u3 (by omega) (by omega) (by omega) (by omega) (by omega) (by omega) (by simp; omega))
          have call3 := hid_of (fun W (hB : But b w0 W) (hW : RowE enc W b (A ++ (mergeL lt L1 R1 ++ (L2 ++ (R2 ++ B))))) => ih.out (L.length - s + (R.length - Q)) (by omega) (A ++ mergeL lt L1 R1) L2 R2 B md en c W hB (by simpa [List.append_assoc] using hW) u2 u4 (by omega) (by omega) (by omega) (by rw [List.length_append, mergeL_length]; omega) (by omega) (by omega) (by omega))
          clear hsH hsl hsr hHH hLL hRR hmm hcc hnn' hQQ hss hdd hee hNN haa hx l1 l2 l3 l4 u1 u2 u3 u4 fin row0
          go_upto_region 39 with fail
          rw [een.out]
          go_wp2_with fail
          refine call1.out.mono ?_
          rintro e X1 ⟨rfl, row1, b1⟩
          replace row1 := hid_of row1
          have but1 := hid_of (but0.out.trans b1)
          clear b1 but0 call1
          go_wp2_with fail
          refine (call2.out X1 (hw0.out.trans but1.out) row1.out).mono ?_
          rintro e X2 ⟨rfl, row2, b1⟩
          replace row2 := hid_of row2
          have but2 := hid_of (but1.out.trans b1)
          clear b1 row1 call2
          go_wp2_with fail
          refine (call3.out X2 (hw0.out.trans but2.out) row2.out).mono ?_
          rintro e X3 ⟨rfl, row3, b1⟩
          rw [List.append_assoc, ← List.append_assoc (mergeL lt L1 R1), ← hmg.out] at row3
          replace row3 := hid_of row3
          have but3 := hid_of (but2.out.trans b1)
          clear b1 call3
          go_wp2_with fail
          exact bodyPost_end (results_none rfl _ _ _) rfl ⟨rfl, row3.out, but3.out⟩
        · have hx := hx
          have v1 : (i : Int) < (m : Int) := by omega
          have v2 : (m : Int) < (en : Int) := by omega
          have v3 : (a : Int) < (i : Int) := by omega
          have v4 : (i : Int) < (md : Int) := by omega
          have v5 : (md : Int) < (en : Int) := by omega
          have v6 : ¬ (en : Int) < (c : Int) := by omega
          have call1 := hid_of (rotate_any E (A ++ L1) L2 R1 (R2 ++ B) b n cap i m en (.func (.func 106) #[] #[]) wr (by simpa [List.append_assoc] using row0.out) (by simp; omega) (by simp; omega) (by omega) (by simp; omega) (by omega) (by omega) hnn)
          rw [show (A ++ L1) ++ (R1 ++ (L2 ++ (R2 ++ B))) = A ++ (L1 ++ (R1 ++ (L2 ++ (R2 ++ B)))) from List.append_assoc _ _ _] at call1
          have call2 := hid_of (fun W (hB : But b w0 W) (hW : RowE enc W b (A ++ (L1 ++ (R1 ++ (L2 ++ (R2 ++ B)))))) => ih.out (s + Q) (by omega) A L1 R1 (L2 ++ (R2 ++ B)) a i md W hB hW u1 u3 (by omega) (by omega) (by omega) (by omega) (by omega) (by omega) (by simp; omega))
          have keep3 := hid_of (fun W (hW : RowE enc W b (A ++ (mergeL lt L1 R1 ++ (L2 ++ (R2 ++ B))))) => show RowE enc W b (A ++ (mergeL lt L R ++ B)) by have e : R2 = [] := List.eq_nil_of_length_eq_zero (by omega); rw [hmg.out]; rw [e] at hW ⊢; rw [mergeL_nil]; simpa [List.append_assoc] using hW)
          clear hsH hsl hsr hHH hLL hRR hmm hcc hnn' hQQ hss hdd hee hNN haa hx l1 l2 l3 l4 u1 u2 u3 u4 fin row0
          go_upto_region 39 with fail
          rw [een.out]
          go_wp2_with fail
          refine call1.out.mono ?_
          rintro e X1 ⟨rfl, row1, b1⟩
          replace row1 := hid_of row1
          have but1 := hid_of (but0.out.trans b1)
          clear b1 but0 call1
          go_wp2_with fail
          refine (call2.out X1 (hw0.out.trans but1.out) row1.out).mono ?_
          rintro e X2 ⟨rfl, row2, b1⟩
          replace row2 := hid_of row2
          have but2 := hid_of (but1.out.trans b1)
          clear b1 row1 call2
          go_wp2_with fail
          exact bodyPost_end (results_none rfl _ _ _) rfl ⟨rfl, (keep3.out X2 row2.out), but2.out⟩
  · have g1 : ¬ (md : Int) < (m : Int) := by omega
    have hk0 : Hid (Cut lt L R H 0 L.length) := Cut.near (by have := hmd.out; have := hm.out; omega) (by have := hH.out; have := hmd.out; have := hm.out; omega)
    go_upto_region 32 with fail
    go_wp2_with fail
    rw [eP.out]
    go_loopw [20, 21] (fun iv jv wr => ∃ i j s t : Nat, iv = .int .i64 i ∧ jv = .int .i64 j ∧ Hid (a + s = i) ∧ Hid (a + t = j) ∧ Hid (Cut lt L R H s t) ∧ Hid (Below w.heap.size w wr)) (fun iv jv _ => (intOf jv).toNat - (intOf iv).toNat)
    case atStart => exact ⟨a, m, 0, L.length, rfl, rfl, rfl, hm, hk0, Below.refl _ _⟩
    case round =>
      clear hk0
      obtain ⟨i, j, s, t, rfl, rfl, hs, ht, hk, hb⟩ := hrel
      by_cases hij : i < j
      · have i1 : (i : Int) < (j : Int) := by omega
        have i2 : (j : Int) ≤ (m : Int) := by have := hk.out.tl; have := ht.out; have := hm.out; omega
        have i3 : (0 : Int) ≤ (i : Int) := by omega
        have i4 : (i : Int) + (j : Int) ≤ 9223372036854775807 := by omega
        obtain ⟨h, hh⟩ : ∃ h : Nat, Hid (h = (i + j) / 2) := ⟨_, rfl⟩
        have eh : Hid (((i : Int) + (j : Int)) / 2 = (h : Int)) := by show ((i : Int) + (j : Int)) / 2 = (h : Int); have := hh.out; omega
        have b1 : i ≤ h := by have := hh.out; omega
        have b2 : h < j := by have := hh.out; omega
        have b3 : (h : Int) < (n : Int) := by omega
        have b4 : (0 : Int) ≤ (h : Int) := by omega
        have b5 : h - a < L.length := by have := hk.out.tl; have := ht.out; have := hs.out; omega
        have b6 : H - 1 - (h - a) < R.length := by have := hk.out.sr; have := hk.out.tH; have := ht.out; have := hs.out; omega
        obtain ⟨z, hz⟩ : ∃ z, Hid (m + (H - 1 - (h - a)) = z) := ⟨_, rfl⟩
        have ez : IntKind.i64.wrap ((P : Int) - (h : Int)) = (z : Int) := by have := hz.out; have := hP.out; have := hN.out; have := hmd.out; have := hk.out.tH; have := ht.out; have := hs.out; rw [wrap_in (by omega) (by omega)]; omega
        have b7 : (z : Int) < (n : Int) := by have := hz.out; have := hc.out; omega
        have b8 : (0 : Int) ≤ (z : Int) := by omega
        obtain ⟨x, hx⟩ : ∃ x, Hid (L[h - a]? = some x) := ⟨L[h - a], List.getElem?_eq_getElem b5⟩
        obtain ⟨y, hy⟩ : ∃ y, Hid (R[H - 1 - (h - a)]? = some y) := ⟨R[H - 1 - (h - a)], List.getElem?_eq_getElem b6⟩
        have hx' : (A ++ (L ++ (R ++ B)))[h]? = some x := by
          rw [List.getElem?_append_right (by have := ha.out; have := hs.out; omega), show h - A.length = h - a by rw [ha.out], List.getElem?_append_left b5]
          exact hx.out
        have hy' : (A ++ (L ++ (R ++ B)))[z]? = some y := by
          rw [List.getElem?_append_right (by have := ha.out; have := hz.out; have := hm.out; omega), List.getElem?_append_right (by have := ha.out; have := hz.out; have := hm.out; omega), show z - A.length - L.length = H - 1 - (h - a) by have := ha.out; have := hz.out; have := hm.out; omega, List.getElem?_append_left b6]
          exact hy.out
        obtain ⟨gx1, gx2⟩ := (hR.out.below hb.out) h x hx'
        obtain ⟨gy1, gy2⟩ := (hR.out.below hb.out) z y hy'
        obtain ⟨x0, x1, ex⟩ := seven (E.size x)
        have gx1 : ∀ (r : Nat) u, (enc x)[r]? = some u → wr.cell? ⟨b, h * 2 + r, none⟩ = some u := fun r u hu => by have := gx1 r u (by simpa using hu); simpa using this
        have gx2 : ∀ (r : Nat), r < 2 → (wr.cell? ⟨b, h * 2 + r, none⟩).isSome = true ∧ wr.frozen? ⟨b, h * 2 + r, none⟩ = false := fun r hr => by have := gx2 r hr; simpa using this
        have xc0 : wr.cell? ⟨b, h * 2, none⟩ = some x0 := gx1 0 x0 (by rw [ex]; rfl)
        have xc1 : wr.cell? ⟨b, h * 2 + 1, none⟩ = some x1 := gx1 1 x1 (by rw [ex]; rfl)
        obtain ⟨y0, y1, ey⟩ := seven (E.size y)
        have gy1 : ∀ (r : Nat) u, (enc y)[r]? = some u → wr.cell? ⟨b, z * 2 + r, none⟩ = some u := fun r u hu => by have := gy1 r u (by simpa using hu); simpa using this
        have gy2 : ∀ (r : Nat), r < 2 → (wr.cell? ⟨b, z * 2 + r, none⟩).isSome = true ∧ wr.frozen? ⟨b, z * 2 + r, none⟩ = false := fun r hr => by have := gy2 r hr; simpa using this
        have yc0 : wr.cell? ⟨b, z * 2, none⟩ = some y0 := gy1 0 y0 (by rw [ey]; rfl)
        have yc1 : wr.cell? ⟨b, z * 2 + 1, none⟩ = some y1 := gy1 1 y1 (by rw [ey]; rfl)
        have hwB := hid_of (hw0.out.trans (But.of_below hb.out))
        have hcx := hid_of (hcmp.out y x)
        rw [ex, ey] at hcx
        replace b1 := hid_of b1
        replace b2 := hid_of b2
        clear gx1 gx2 gy1 gy2 hx' hy' b5 b6
        go_upto_region 35 with fail
        rw [eh.out]
        refine wp_region_quiet (C := fun w' => Below wr.heap.size wr w') (by kernel_rfl) (by kernel_rfl) (below_drewN (Below.refl _ _) 1) ?_
        with_reducible refine wpQuiet_step (fun K hK => ?_)
        try refine k_quiet_if (by kernel_rfl) ?_
        refine ⟨.func (.func 106) #[] #[], fun w' _ => ?_, ?_⟩
        · first | (go_simp; done) | (go_simp; decide)
        with_reducible refine hK _ ?_
        clear hK K
        simp only [Act.put, List.setIfInBounds_toArray, List.set_cons_zero, List.set_cons_succ]
        with_reducible refine wpQuiet_step (fun K hK => ?_)
        try refine k_quiet_if (by kernel_rfl) ?_
        refine ⟨.slice (some ⟨b, 0, none⟩) n cap, fun w' _ => ?_, ?_⟩
        · first | (go_simp; done) | (go_simp; decide)
        with_reducible refine hK _ ?_
        clear hK K
        simp only [Act.put, List.setIfInBounds_toArray, List.set_cons_zero, List.set_cons_succ]
        with_reducible refine wpQuiet_step (fun K hK => ?_)
        try refine k_quiet_if (by kernel_rfl) ?_
        refine ⟨.int .i64 P, fun w' _ => ?_, ?_⟩
        · first | (go_simp; done) | (go_simp; decide)
        with_reducible refine hK _ ?_
        clear hK K
        simp only [Act.put, List.setIfInBounds_toArray, List.set_cons_zero, List.set_cons_succ]
        with_reducible refine wpQuiet_step (fun K hK => ?_)
        try refine k_quiet_if (by kernel_rfl) ?_
        refine ⟨.int .i64 h, fun w' _ => ?_, ?_⟩
        · first | (go_simp; done) | (go_simp; decide)
        with_reducible refine hK _ ?_
        clear hK K
        simp only [Act.put, List.setIfInBounds_toArray, List.set_cons_zero, List.set_cons_succ]
        with_reducible refine wpQuiet_step (fun K hK => ?_)
        try refine k_quiet_if (by kernel_rfl) ?_
        refine ⟨.int .i64 z, fun w' _ => ?_, ?_⟩
        · first | (go_simp; done) | (go_simp; decide)
        with_reducible refine hK _ ?_
        clear hK K
        simp only [Act.put, List.setIfInBounds_toArray, List.set_cons_zero, List.set_cons_succ]
        with_reducible refine wpQuiet_step (fun K hK => ?_)
        try refine k_quiet_if (by kernel_rfl) ?_
        refine ⟨.pointer (some ⟨b, z * 2, none⟩), fun w' _ => ?_, ?_⟩
        · first | (go_simp; done) | (go_simp; decide)
        with_reducible refine hK _ ?_
        clear hK K
        simp only [Act.put, List.setIfInBounds_toArray, List.set_cons_zero, List.set_cons_succ]
        with_reducible refine wpQuiet_step (fun K hK => ?_)
        try refine k_quiet_if (by kernel_rfl) ?_
        refine ⟨.agg #[y0, y1], fun w' hw' => ?_, ?_⟩
        · have t0 := stay hw' yc0
          have t1 := stay hw' yc1
          go_simp
        with_reducible refine hK _ ?_
        clear hK K
        simp only [Act.put, List.setIfInBounds_toArray, List.set_cons_zero, List.set_cons_succ]
        with_reducible refine wpQuiet_step (fun K hK => ?_)
        try refine k_quiet_if (by kernel_rfl) ?_
        refine ⟨.slice (some ⟨b, 0, none⟩) n cap, fun w' _ => ?_, ?_⟩
        · first | (go_simp; done) | (go_simp; decide)
        with_reducible refine hK _ ?_
        clear hK K
        simp only [Act.put, List.setIfInBounds_toArray, List.set_cons_zero, List.set_cons_succ]
        with_reducible refine wpQuiet_step (fun K hK => ?_)
        try refine k_quiet_if (by kernel_rfl) ?_
        refine ⟨.int .i64 h, fun w' _ => ?_, ?_⟩
        · first | (go_simp; done) | (go_simp; decide)
        with_reducible refine hK _ ?_
        clear hK K
        simp only [Act.put, List.setIfInBounds_toArray, List.set_cons_zero, List.set_cons_succ]
        with_reducible refine wpQuiet_step (fun K hK => ?_)
        try refine k_quiet_if (by kernel_rfl) ?_
        refine ⟨.pointer (some ⟨b, h * 2, none⟩), fun w' _ => ?_, ?_⟩
        · first | (go_simp; done) | (go_simp; decide)
        with_reducible refine hK _ ?_
        clear hK K
        simp only [Act.put, List.setIfInBounds_toArray, List.set_cons_zero, List.set_cons_succ]
        with_reducible refine wpQuiet_step (fun K hK => ?_)
        try refine k_quiet_if (by kernel_rfl) ?_
        refine ⟨.agg #[x0, x1], fun w' hw' => ?_, ?_⟩
        · have t0 := stay hw' xc0
          have t1 := stay hw' xc1
          go_simp
        with_reducible refine hK _ ?_
        clear hK K
        simp only [Act.put, List.setIfInBounds_toArray, List.set_cons_zero, List.set_cons_succ]
        with_reducible refine wpQuiet_step (fun K hK => ?_)
        try refine k_quiet_if (by kernel_rfl) ?_
        refine ⟨.int .i64 (cn y x), fun w' hw' => ?_, ?_⟩
        · go_simp
          refine (hcx.out w' (hwB.out.trans (But.of_below hw'))).mono ?_
          rintro e w'' ⟨rfl, hb⟩
          exact ⟨rfl, hw'.trans (hb.mono hw'.size)⟩
        with_reducible refine hK _ ?_
        clear hK K
        simp only [Act.put, List.setIfInBounds_toArray, List.set_cons_zero, List.set_cons_succ]
        by_cases hcz : cn y x < 0
        · have hly := hid_of (show lt y x = true by rw [hlt.out]; exact decide_eq_true hcz)
          with_reducible refine wpQuiet_step (fun K hK => ?_)
          try refine k_quiet_if (by kernel_rfl) ?_
          refine ⟨.bool true, fun w' _ => ?_, ?_⟩
          · first | (go_simp; done) | (go_simp; decide)
          with_reducible refine hK _ ?_
          clear hK K
          simp only [Act.put, List.setIfInBounds_toArray, List.set_cons_zero, List.set_cons_succ]
          with_reducible refine wpQuiet_step (fun K hK => ?_)
          try refine k_quiet_if (by kernel_rfl) ?_
          refine ⟨.bool false, fun w' _ => ?_, ?_⟩
          · first | (go_simp; done) | (go_simp; decide)
          with_reducible refine hK _ ?_
          clear hK K
          simp only [Act.put, List.setIfInBounds_toArray, List.set_cons_zero, List.set_cons_succ]
          refine wpQuiet_nil ?_
          intro X1 hX1
          have hb' := hid_of (hb.out.trans (hX1.mono hb.out.size))
          clear hcx hX1 hb xc0 xc1 yc0 yc1
          go_wp2_with fail
          exact ⟨⟨i, h, s, h - a, rfl, rfl, hs, (by have := b1.out; have := hs.out; omega : a + (h - a) = h), hk.out.down (by have := b1.out; have := hs.out; omega) (by have := b2.out; have := ht.out; have := b1.out; have := hs.out; omega) hx.out hy.out hly.out, hb'⟩, by have := b1.out; have := b2.out; simp [intOf]; omega⟩
        · have hly := hid_of (show lt y x = false by rw [hlt.out]; exact decide_eq_false hcz)
          with_reducible refine wpQuiet_step (fun K hK => ?_)
          try refine k_quiet_if (by kernel_rfl) ?_
          refine ⟨.bool false, fun w' _ => ?_, ?_⟩
          · first | (go_simp; done) | (go_simp; decide)
          with_reducible refine hK _ ?_
          clear hK K
          simp only [Act.put, List.setIfInBounds_toArray, List.set_cons_zero, List.set_cons_succ]
          with_reducible refine wpQuiet_step (fun K hK => ?_)
          try refine k_quiet_if (by kernel_rfl) ?_
          refine ⟨.bool true, fun w' _ => ?_, ?_⟩
          · first | (go_simp; done) | (go_simp; decide)
          with_reducible refine hK _ ?_
          clear hK K
          simp only [Act.put, List.setIfInBounds_toArray, List.set_cons_zero, List.set_cons_succ]
          refine wpQuiet_nil ?_
          intro X1 hX1
          have hb' := hid_of (hb.out.trans (hX1.mono hb.out.size))
          clear hcx hX1 hb xc0 xc1 yc0 yc1
          go_wp2_with fail
          exact ⟨⟨h + 1, j, h + 1 - a, t, by go_num, rfl, (by have := b1.out; have := hs.out; omega : a + (h + 1 - a) = h + 1), ht, by rw [show h + 1 - a = h - a + 1 by have := b1.out; have := hs.out; omega]; exact hk.out.up (by have := b1.out; have := hs.out; omega) (by have := b2.out; have := ht.out; have := b1.out; have := hs.out; omega) hx.out hy.out hly.out, hb'⟩, by have := b1.out; have := b2.out; simp [intOf]; omega⟩
      · have i1 : ¬ (i : Int) < (j : Int) := by omega
        have i0 : (0 : Int) ≤ (i : Int) := by omega
        have hst' : s = t := by have := hs.out; have := ht.out; have := hk.out.le; omega
        subst hst'
        obtain ⟨Q, hQ⟩ : ∃ Q, Hid (H - s = Q) := ⟨_, rfl⟩
        obtain ⟨en, hen⟩ : ∃ en, Hid (m + Q = en) := ⟨_, rfl⟩
        have hsH := hk.out.tH
        have hsl := hk.out.tl
        have hsr := hk.out.sr
        have hHH := hH.out
        have hLL := hL.out
        have hRR := hRr.out
        have hmm := hm.out
        have hcc := hc.out
        have hnn' := hn.out
        have hQQ := hQ.out
        have hss := hs.out
        have hdd := hmd.out
        have hee := hen.out
        have hNN := hN.out
        have haa := ha.out
        have een : Hid ((N : Int) - (i : Int) = (en : Int)) := by show (N : Int) - (i : Int) = (en : Int); omega
        have g3 : (i : Int) ≤ (N : Int) := by omega
        have hmg : Hid (mergeL lt L R = mergeL lt (L.take s) (R.take Q) ++ mergeL lt (L.drop s) (R.drop Q)) := by rw [← hQ.out]; exact hk.out.done O hul hur
        have l1 : (L.take s).length = s := by rw [List.length_take]; omega
        have l2 : (L.drop s).length = L.length - s := by rw [List.length_drop]
        have l3 : (R.take Q).length = Q := by rw [List.length_take]; omega
        have l4 : (R.drop Q).length = R.length - Q := by rw [List.length_drop]
        have u1 := Up.take hul s
        have u2 := Up.drop hul s
        have u3 := Up.take hur Q
        have u4 := Up.drop hur Q
        have row0 : Hid (RowE enc wr b (A ++ (L.take s ++ (L.drop s ++ (R.take Q ++ (R.drop Q ++ B)))))) := by
          rw [← List.append_assoc (L.take s), List.take_append_drop, ← List.append_assoc (R.take Q), List.take_append_drop]
          exact hR.out.below hb.out
        have but0 : Hid (But b w wr) := But.of_below hb.out
        clear hR hk hb hlt hcmp
        obtain ⟨L1, eL1⟩ : ∃ L1, L.take s = L1 := ⟨_, rfl⟩
        obtain ⟨L2, eL2⟩ : ∃ L2, L.drop s = L2 := ⟨_, rfl⟩
        obtain ⟨R1, eR1⟩ : ∃ R1, R.take Q = R1 := ⟨_, rfl⟩
        obtain ⟨R2, eR2⟩ : ∃ R2, R.drop Q = R2 := ⟨_, rfl⟩
        rw [eL1] at l1 u1 row0 hmg
        rw [eL2] at l2 u2 row0 hmg
        rw [eR1] at l3 u3 row0 hmg
        rw [eR2] at l4 u4 row0 hmg
        clear eL1 eL2 eR1 eR2
        have fin : Hid (s = 0 ∧ 0 < Q ∧ Q < R.length ∨ s = 0 ∧ Q = R.length ∨ s = L.length ∧ Q = 0 ∨ s = L.length ∧ 0 < Q ∧ Q < R.length ∨ 0 < s ∧ s < L.length ∧ Q = 0 ∨ 0 < s ∧ s < L.length ∧ 0 < Q ∧ Q < R.length ∨ 0 < s ∧ s < L.length ∧ Q = R.length) := by
          show _ ∨ _
          omega
        rcases fin.out with hx | hx | hx | hx | hx | hx | hx
        · have hx := hx
          have v1 : (i : Int) < (m : Int) := by omega
          have v2 : (m : Int) < (en : Int) := by omega
          have v3 : ¬ (a : Int) < (i : Int) := by omega
          have v4 : (i : Int) < (md : Int) := by omega
          have v5 : (md : Int) < (en : Int) := by omega
          have v6 : (en : Int) < (c : Int) := by omega
          have call1 := hid_of (rotate_any E (A ++ L1) L2 R1 (R2 ++ B) b n cap i m en (.func (.func 106) #[] #[]) wr (by simpa [List.append_assoc] using row0.out) (by simp; omega) (by simp; omega) (by omega) (by simp; omega) (by omega) (by omega) hnn)
          rw [show (A ++ L1) ++ (R1 ++ (L2 ++ (R2 ++ B))) = A ++ (L1 ++ (R1 ++ (L2 ++ (R2 ++ B)))) from List.append_assoc _ _ _] at call1
          have keep2 := hid_of (fun W (hW : RowE enc W b (A ++ (L1 ++ (R1 ++ (L2 ++ (R2 ++ B)))))) => show RowE enc W b (A ++ (mergeL lt L1 R1 ++ (L2 ++ (R2 ++ B)))) by have e : L1 = [] := List.eq_nil_of_length_eq_zero (by omega); rw [e] at hW ⊢; rw [nil_mergeL]; exact hW)
          have call3 := hid_of (fun W (hB : But b w0 W) (hW : RowE enc W b (A ++ (mergeL lt L1 R1 ++ (L2 ++ (R2 ++ B))))) => ih.out (L.length - s + (R.length - Q)) (by omega) (A ++ mergeL lt L1 R1) L2 R2 B md en c W hB (by simpa [List.append_assoc] using hW) u2 u4 (by omega) (by omega) (by omega) (by rw [List.length_append, mergeL_length]; omega) (by omega) (by omega) (by omega))
          clear hsH hsl hsr hHH hLL hRR hmm hcc hnn' hQQ hss hdd hee hNN haa hx l1 l2 l3 l4 u1 u2 u3 u4 fin row0
          go_upto_region 39 with fail
          rw [een.out]
          go_wp2_with fail
          refine call1.out.mono ?_
          rintro e X1 ⟨rfl, row1, b1⟩
          replace row1 := hid_of row1
          have but1 := hid_of (but0.out.trans b1)
          clear b1 but0 call1
          go_wp2_with fail
          refine (call3.out X1 (hw0.out.trans but1.out) (keep2.out X1 row1.out)).mono ?_
          rintro e X3 ⟨rfl, row3, b1⟩
          rw [List.append_assoc, ← List.append_assoc (mergeL lt L1 R1), ← hmg.out] at row3
          replace row3 := hid_of row3
          have but3 := hid_of (but1.out.trans b1)
          clear b1 call3
          go_wp2_with fail
          exact bodyPost_end (results_none rfl _ _ _) rfl ⟨rfl, row3.out, but3.out⟩
        · have hx := hx
          have v1 : (i : Int) < (m : Int) := by omega
          have v2 : (m : Int) < (en : Int) := by omega
          have v3 : ¬ (a : Int) < (i : Int) := by omega
          have v4 : (i : Int) < (md : Int) := by omega
          have v5 : (md : Int) < (en : Int) := by omega
          have v6 : ¬ (en : Int) < (c : Int) := by omega
          have call1 := hid_of (rotate_any E (A ++ L1) L2 R1 (R2 ++ B) b n cap i m en (.func (.func 106) #[] #[]) wr (by simpa [List.append_assoc] using row0.out) (by simp; omega) (by simp; omega) (by omega) (by simp; omega) (by omega) (by omega) hnn)
          rw [show (A ++ L1) ++ (R1 ++ (L2 ++ (R2 ++ B))) = A ++ (L1 ++ (R1 ++ (L2 ++ (R2 ++ B)))) from List.append_assoc _ _ _] at call1
          have keep2 := hid_of (fun W (hW : RowE enc W b (A ++ (L1 ++ (R1 ++ (L2 ++ (R2 ++ B)))))) => show RowE enc W b (A ++ (mergeL lt L1 R1 ++ (L2 ++ (R2 ++ B)))) by have e : L1 = [] := List.eq_nil_of_length_eq_zero (by omega); rw [e] at hW ⊢; rw [nil_mergeL]; exact hW)
          have keep3 := hid_of (fun W (hW : RowE enc W b (A ++ (mergeL lt L1 R1 ++ (L2 ++ (R2 ++ B))))) => show RowE enc W b (A ++ (mergeL lt L R ++ B)) by have e : R2 = [] := List.eq_nil_of_length_eq_zero (by omega); rw [hmg.out]; rw [e] at hW ⊢; rw [mergeL_nil]; simpa [List.append_assoc] using hW)
          clear hsH hsl hsr hHH hLL hRR hmm hcc hnn' hQQ hss hdd hee hNN haa hx l1 l2 l3 l4 u1 u2 u3 u4 fin row0
          go_upto_region 39 with fail
          rw [een.out]
          go_wp2_with fail
          refine call1.out.mono ?_
          rintro e X1 ⟨rfl, row1, b1⟩
          replace row1 := hid_of row1
          have but1 := hid_of (but0.out.trans b1)
          clear b1 but0 call1
          go_wp2_with fail
          exact bodyPost_end (results_none rfl _ _ _) rfl ⟨rfl, (keep3.out X1 (keep2.out X1 row1.out)), but1.out⟩
        · have hx := hx
          have v1 : ¬ (i : Int) < (m : Int) := by omega
          have v2 : ¬ (m : Int) < (en : Int) := by omega
          have v3 : (a : Int) < (i : Int) := by omega
          have v4 : ¬ (i : Int) < (md : Int) := by omega
          have v5 : ¬ (md : Int) < (en : Int) := by omega
          have v6 : (en : Int) < (c : Int) := by omega
          have nil : L2 = [] := List.eq_nil_of_length_eq_zero (by omega)
          have row1 : Hid (RowE enc wr b (A ++ (L1 ++ (R1 ++ (L2 ++ (R2 ++ B)))))) := by have h := row0.out; rw [nil] at h ⊢; exact h
          clear nil
          have keep2 := hid_of (fun W (hW : RowE enc W b (A ++ (L1 ++ (R1 ++ (L2 ++ (R2 ++ B)))))) => show RowE enc W b (A ++ (mergeL lt L1 R1 ++ (L2 ++ (R2 ++ B)))) by have e : R1 = [] := List.eq_nil_of_length_eq_zero (by omega); rw [e] at hW ⊢; rw [mergeL_nil]; exact hW)
          have keep3 := hid_of (fun W (hW : RowE enc W b (A ++ (mergeL lt L1 R1 ++ (L2 ++ (R2 ++ B))))) => show RowE enc W b (A ++ (mergeL lt L R ++ B)) by have e : L2 = [] := List.eq_nil_of_length_eq_zero (by omega); rw [hmg.out]; rw [e] at hW ⊢; rw [nil_mergeL]; simpa [List.append_assoc] using hW)
          clear hsH hsl hsr hHH hLL hRR hmm hcc hnn' hQQ hss hdd hee hNN haa hx l1 l2 l3 l4 u1 u2 u3 u4 fin row0
          go_upto_region 39 with fail
          rw [een.out]
          go_wp2_with fail
          exact bodyPost_end (results_none rfl _ _ _) rfl ⟨rfl, (keep3.out wr (keep2.out wr row1.out)), but0.out⟩
        · have hx := hx
          have v1 : ¬ (i : Int) < (m : Int) := by omega
          have v2 : (m : Int) < (en : Int) := by omega
          have v3 : (a : Int) < (i : Int) := by omega
          have v4 : (i : Int) < (md : Int) := by omega
          have v5 : ¬ (md : Int) < (en : Int) := by omega
          have v6 : (en : Int) < (c : Int) := by omega
          have nil : L2 = [] := List.eq_nil_of_length_eq_zero (by omega)
          have row1 : Hid (RowE enc wr b (A ++ (L1 ++ (R1 ++ (L2 ++ (R2 ++ B)))))) := by have h := row0.out; rw [nil] at h ⊢; exact h
          clear nil
          have call2 := hid_of (fun W (hB : But b w0 W) (hW : RowE enc W b (A ++ (L1 ++ (R1 ++ (L2 ++ (R2 ++ B)))))) => ih.out (s + Q) (by omega) A L1 R1 (L2 ++ (R2 ++ B)) a i md W hB hW u1 u3 (by omega) (by omega) (by omega) (by omega) (by omega) (by omega) (by simp; omega))
          have keep3 := hid_of (fun W (hW : RowE enc W b (A ++ (mergeL lt L1 R1 ++ (L2 ++ (R2 ++ B))))) => show RowE enc W b (A ++ (mergeL lt L R ++ B)) by have e : L2 = [] := List.eq_nil_of_length_eq_zero (by omega); rw [hmg.out]; rw [e] at hW ⊢; rw [nil_mergeL]; simpa [List.append_assoc] using hW)
          clear hsH hsl hsr hHH hLL hRR hmm hcc hnn' hQQ hss hdd hee hNN haa hx l1 l2 l3 l4 u1 u2 u3 u4 fin row0
          go_upto_region 39 with fail
          rw [een.out]
          go_wp2_with fail
          refine (call2.out wr (hw0.out.trans but0.out) row1.out).mono ?_
          rintro e X2 ⟨rfl, row2, b1⟩
          replace row2 := hid_of row2
          have but2 := hid_of (but0.out.trans b1)
          clear b1 row1 call2
          go_wp2_with fail
          exact bodyPost_end (results_none rfl _ _ _) rfl ⟨rfl, (keep3.out X2 row2.out), but2.out⟩
        · have hx := hx
          have v1 : (i : Int) < (m : Int) := by omega
          have v2 : ¬ (m : Int) < (en : Int) := by omega
          have v3 : (a : Int) < (i : Int) := by omega
          have v4 : ¬ (i : Int) < (md : Int) := by omega
          have v5 : (md : Int) < (en : Int) := by omega
          have v6 : (en : Int) < (c : Int) := by omega
          have nil : R1 = [] := List.eq_nil_of_length_eq_zero (by omega)
          have row1 : Hid (RowE enc wr b (A ++ (L1 ++ (R1 ++ (L2 ++ (R2 ++ B)))))) := by have h := row0.out; rw [nil] at h ⊢; exact h
          clear nil
          have keep2 := hid_of (fun W (hW : RowE enc W b (A ++ (L1 ++ (R1 ++ (L2 ++ (R2 ++ B)))))) => show RowE enc W b (A ++ (mergeL lt L1 R1 ++ (L2 ++ (R2 ++ B)))) by have e : R1 = [] := List.eq_nil_of_length_eq_zero (by omega); rw [e] at hW ⊢; rw [mergeL_nil]; exact hW)
          have call3 := hid_of (fun W (hB : But b w0 W) (hW : RowE enc W b (A ++ (mergeL lt L1 R1 ++ (L2 ++ (R2 ++ B))))) => ih.out (L.length - s + (R.length - Q)) (by omega) (A ++ mergeL lt L1 R1) L2 R2 B md en c W hB (by simpa [List.append_assoc] using hW) u2 u4 (by omega) (by omega) (by omega) (by rw [List.length_append, mergeL_length]; omega) (by omega) (by omega) (by omega))
          clear hsH hsl hsr hHH hLL hRR hmm hcc hnn' hQQ hss hdd hee hNN haa hx l1 l2 l3 l4 u1 u2 u3 u4 fin row0
          go_upto_region 39 with fail
          rw [een.out]
          go_wp2_with fail
          refine (call3.out wr (hw0.out.trans but0.out) (keep2.out wr row1.out)).mono ?_
          rintro e X3 ⟨rfl, row3, b1⟩
          rw [List.append_assoc, ← List.append_assoc (mergeL lt L1 R1), ← hmg.out] at row3
          replace row3 := hid_of row3
          have but3 := hid_of (but0.out.trans b1)
          clear b1 call3
          go_wp2_with fail
          exact bodyPost_end (results_none rfl _ _ _) rfl ⟨rfl, row3.out, but3.out⟩
        · have hx := hx
          have v1 : (i : Int) < (m : Int) := by omega
          have v2 : (m : Int) < (en : Int) := by omega
          have v3 : (a : Int) < (i : Int) := by omega
          have v4 : (i : Int) < (md : Int) := by omega
          have v5 : (md : Int) < (en : Int) := by omega
          have v6 : (en : Int) < (c : Int) := by omega
          have call1 := hid_of (rotate_any E (A ++ L1) L2 R1 (R2 ++ B) b n cap i m en (.func (.func 106) #[] #[]) wr (by simpa [List.append_assoc] using row0.out) (by simp; omega) (by simp; omega) (by omega) (by simp; omega) (by omega) (by omega) hnn)
          rw [show (A ++ L1) ++ (R1 ++ (L2 ++ (R2 ++ B))) = A ++ (L1 ++ (R1 ++ (L2 ++ (R2 ++ B)))) from List.append_assoc _ _ _] at call1
          have call2 := hid_of (fun W (hB : But b w0 W) (hW : RowE enc W b (A ++ (L1 ++ (R1 ++ (L2 ++ (R2 ++ B)))))) => ih.out (s + Q) (by omega) A L1 R1 (L2 ++ (R2 ++ B)) a i md W hB hW u1 u3 (by omega) (by omega) (by omega) (by omega) (by omega) (by omega) (by simp; omega))
          have call3 := hid_of (fun W (hB : But b w0 W) (hW : RowE enc W b (A ++ (mergeL lt L1 R1 ++ (L2 ++ (R2 ++ B))))) => ih.out (L.length - s + (R.length - Q)) (by omega) (A ++ mergeL lt L1 R1) L2 R2 B md en c W hB (by simpa [List.append_assoc] using hW) u2 u4 (by omega) (by omega) (by omega) (by rw [List.length_append, mergeL_length]; omega) (by omega) (by omega) (by omega))
          clear hsH hsl hsr hHH hLL hRR hmm hcc hnn' hQQ hss hdd hee hNN haa hx l1 l2 l3 l4 u1 u2 u3 u4 fin row0
          go_upto_region 39 with fail
          rw [een.out]
          go_wp2_with fail
          refine call1.out.mono ?_
          rintro e X1 ⟨rfl, row1, b1⟩
          replace row1 := hid_of row1
          have but1 := hid_of (but0.out.trans b1)
          clear b1 but0 call1
          go_wp2_with fail
          refine (call2.out X1 (hw0.out.trans but1.out) row1.out).mono ?_
          rintro e X2 ⟨rfl, row2, b1⟩
          replace row2 := hid_of row2
          have but2 := hid_of (but1.out.trans b1)
          clear b1 row1 call2
          go_wp2_with fail
          refine (call3.out X2 (hw0.out.trans but2.out) row2.out).mono ?_
          rintro e X3 ⟨rfl, row3, b1⟩
          rw [List.append_assoc, ← List.append_assoc (mergeL lt L1 R1), ← hmg.out] at row3
          replace row3 := hid_of row3
          have but3 := hid_of (but2.out.trans b1)
          clear b1 call3
          go_wp2_with fail
          exact bodyPost_end (results_none rfl _ _ _) rfl ⟨rfl, row3.out, but3.out⟩
        · exfalso; omega
end
end Go.Proofs.YtbcfkajcmbckbaaGreatDoor.SortM
/-! Stable sorting over memory: merging, of any two lists. -/
namespace Go.Proofs.YtbcfkajcmbckbaaGreatDoor.SortM
open Go Go.RowKit Go.Stab
section
variable {α : Type} {enc : α → Array Value}
theorem sym_any (E : Enc enc) {lt : α → α → Bool} (O : Swo lt) {b : Nat} {w0 : World} (cn : α → α → Int) (hlt : ∀ x y, lt x y = decide (cn x y < 0)) (hcmp : ∀ x y W, But b w0 W → Calls Tryz.prog 106 #[.agg (enc x), .agg (enc y)] W fun e w' => e = .returned (.int .i64 (cn x y)) ∧ Below W.heap.size W w') (n cap : Nat) (hnn : n ≤ 4611686018427387904) (s : Nat) : SymOk enc lt w0 b n cap s := by
  induction s using Nat.strongRecOn with
  | _ s ih =>
    intro A L R B a m c w hw0 hR hul hur h0 h1 hs ha hm hc hn
    by_cases e1 : L.length = 1
    · obtain ⟨x, rfl⟩ := List.length_eq_one_iff.1 e1
      exact sym_one E O cn hlt hcmp A x R B n cap a m c w hw0 hR hur ha hm hc hn hnn
    · by_cases e2 : R.length = 1
      · obtain ⟨y, rfl⟩ := List.length_eq_one_iff.1 e2
        exact sym_last E O cn hlt hcmp A y L B n cap a m c w hw0 hR hul e1 ha hm hc hn hnn
      · exact sym_step E O cn hlt hcmp A L R B n cap a m c w hw0 (fun s' h => ih s' (by omega)) hR hul hur (by omega) (by omega) ha hm hc hn hnn
end
end Go.Proofs.YtbcfkajcmbckbaaGreatDoor.SortM
/-! Stable sorting over memory: block by block. -/
namespace Go.Stab
variable {α : Type}
theorem blocks_next (lt : α → α → Bool) {s : Nat} (hs : 0 < s) {l : List α} : blocks lt s l = isort lt (l.take s) ++ blocks lt s (l.drop s) := by
  rcases Nat.lt_or_ge s l.length with h' | h'
  · exact blocks_long lt hs h'
  · rw [blocks_short lt h', List.take_of_length_le h', List.drop_eq_nil_of_le h', blocks_short lt (by simp), show isort lt ([] : List α) = [] from rfl, List.append_nil]
/-- What is done of a pass, and what is still to come. -/
structure Part (lt : α → α → Bool) (s : Nat) (D P R : List α) (a n : Nat) : Prop where
  len : P.length = a
  sum : a + R.length = n
  all : blocks lt s D = P ++ blocks lt s R
theorem Part.zero (lt : α → α → Bool) (s : Nat) (D : List α) : Part lt s D [] D 0 D.length := ⟨rfl, by omega, rfl⟩
theorem Part.step {lt : α → α → Bool} {s : Nat} (hs : 0 < s) {D P R : List α} {a n : Nat} (h : Part lt s D P R a n) (hl : a + s ≤ n) : Part lt s D (P ++ isort lt (R.take s)) (R.drop s) (a + s) n := by
  have h1 := h.sum
  refine ⟨by rw [List.length_append, h.len, isort_length, List.length_take]; omega, by rw [List.length_drop]; omega, ?_⟩
  rw [h.all, blocks_next lt hs, List.append_assoc]
theorem Part.last {lt : α → α → Bool} {s : Nat} {D P R : List α} {a n : Nat} (h : Part lt s D P R a n) (hl : n ≤ a + s) : blocks lt s D = P ++ isort lt R := by
  have h1 := h.sum
  rw [h.all, blocks_short lt (by omega)]
theorem two_blocks (lt : α → α → Bool) {s : Nat} (hs : 0 < s) {R : List α} : blocks lt s R = isort lt (R.take s) ++ (isort lt ((R.drop s).take s) ++ blocks lt s (R.drop (2 * s))) := by
  rw [blocks_next lt hs, blocks_next lt hs (l := R.drop s), List.drop_drop, show s + s = 2 * s by omega]
theorem rest_blocks (lt : α → α → Bool) {s : Nat} (hs : 0 < s) {R : List α} (h2 : R.length ≤ 2 * s) : blocks lt s R = isort lt (R.take s) ++ isort lt (R.drop s) := by
  rw [blocks_next lt hs, blocks_short lt (l := R.drop s) (by rw [List.length_drop]; omega)]
theorem mergeL_map {β : Type} (f : α → β) {lt : α → α → Bool} {lt' : β → β → Bool} (h : ∀ x y, lt x y = lt' (f x) (f y)) : ∀ (l r : List α), (mergeL lt l r).map f = mergeL lt' (l.map f) (r.map f)
  | [], r => by simp [nil_mergeL]
  | x :: l, [] => by simp [mergeL_nil]
  | x :: l, y :: r => by
    rw [mergeL_cons, List.map_cons, List.map_cons, mergeL_cons, h]
    split
    · rw [List.map_cons, mergeL_map f h (x :: l) r, List.map_cons]
    · rw [List.map_cons, mergeL_map f h l (y :: r), List.map_cons]
termination_by l r => l.length + r.length
theorem isort_map {β : Type} (f : α → β) {lt : α → α → Bool} {lt' : β → β → Bool} (h : ∀ x y, lt x y = lt' (f x) (f y)) (l : List α) : (isort lt l).map f = isort lt' (l.map f) := by
  unfold isort
  rw [List.foldl_map]
  suffices ∀ (l s : List α), (l.foldl (fun s y => mergeL lt s [y]) s).map f = l.foldl (fun s y => mergeL lt' s [f y]) (s.map f) from this l []
  intro l
  induction l with
  | nil => intro s; rfl
  | cons y l ih => intro s; rw [List.foldl_cons, List.foldl_cons, ih, mergeL_map f h]; rfl
end Go.Stab
namespace Go.Proofs.YtbcfkajcmbckbaaGreatDoor.SortM
open Go Go.RowKit Go.Stab
section
variable {α : Type} {enc : α → Array Value}
set_option maxRecDepth 100000 in
set_option maxHeartbeats 8000000 in
theorem stable_any (E : Enc enc) {lt : α → α → Bool} (O : Swo lt) {b : Nat} {w0 : World} (cn : α → α → Int) (hlt : ∀ x y, lt x y = decide (cn x y < 0)) (hcmp : ∀ x y W, But b w0 W → Calls Tryz.prog 106 #[.agg (enc x), .agg (enc y)] W fun e w' => e = .returned (.int .i64 (cn x y)) ∧ Below W.heap.size W w')
    (D : List α) (n cap : Nat) (w : World) (hw0 : But b w0 w) (hR : RowE enc w b D) (hn : D.length = n) (hnn : n ≤ 1152921504606846976) :
    Calls Tryz.prog 108 #[.slice (some ⟨b, 0, none⟩) n cap, .int .i64 n, .func (.func 106) #[] #[]] w fun e w' => e = .returned (.tuple #[]) ∧ RowE enc w' b (isort lt D) ∧ But b w w' := by
  have insert := hid_of (fun (A M B : List α) (a c : Nat) (W : World) (h1 : But b w0 W) (h2 : RowE enc W b (A ++ (M ++ B))) (h3 : A.length = a) (h4 : a + M.length = c) (h5 : c + B.length = n) => insert_any E O cn hlt hcmp A M B n cap a c W h1 h2 h3 h4 h5 (by omega))
  have sym := hid_of (fun (A L R B : List α) (a m c : Nat) (W : World) (h0 : But b w0 W) (h1 : RowE enc W b (A ++ (L ++ (R ++ B)))) (hl : Up lt L) (hr : Up lt R) (h2 : 0 < L.length) (h3 : 0 < R.length) (h4 : A.length = a) (h5 : a + L.length = m) (h6 : m + R.length = c) (h7 : c + B.length = n) => sym_any E O cn hlt hcmp n cap (by omega) (L.length + R.length) A L R B a m c W h0 h1 hl hr h2 h3 rfl h4 h5 h6 h7)
  have p0 : Hid (Part lt 20 D [] D 0 n) := by rw [← hn]; exact Part.zero lt 20 D
  replace hw0 := hid_of hw0
  replace hR := hid_of hR
  replace hn := hid_of hn
  have n1 : (n : Int) ≤ 1152921504606846976 := by omega
  have n0 : (0 : Int) ≤ (n : Int) := by omega
  clear hlt hcmp
  go_enter Tryz.func108, Tryz.ntmps108
  go_wp2_with fail
  go_loopw [7, 8] (fun av bv wr => ∃ (a c : Nat) (P R : List α), av = .int .i64 a ∧ bv = .int .i64 c ∧ Hid (a + 20 = c) ∧ a ≤ n ∧ Hid (Part lt 20 D P R a n) ∧ Hid (RowE enc wr b (P ++ R)) ∧ Hid (But b w wr)) (fun av _ _ => n - (intOf av).toNat)
  case atStart => exact ⟨0, 20, [], D, rfl, rfl, rfl, Nat.zero_le _, p0, hR, hid_of (But.refl b w)⟩
  case round =>
    clear p0
    obtain ⟨a, c, P, R, rfl, rfl, hac, han, hp, hr, hb⟩ := hrel
    have a0 : (0 : Int) ≤ (a : Int) := by omega
    have a1 : (a : Int) ≤ 1152921504606846976 := by omega
    have c1 : (c : Int) ≤ 1152921504606847000 := by have := hac.out; omega
    have c0 : (0 : Int) ≤ (c : Int) := by omega
    by_cases hcn : c ≤ n
    · have hcn' : (c : Int) ≤ (n : Int) := by omega
      have call := hid_of (insert.out P (R.take 20) (R.drop 20) a c wr (hw0.out.trans hb.out) (by rw [List.take_append_drop]; exact hr.out) hp.out.len (by have := hp.out.sum; have := hac.out; rw [List.length_take]; omega) (by have := hp.out.sum; have := hac.out; rw [List.length_drop]; omega))
      have hp' : Hid (Part lt 20 D (P ++ isort lt (R.take 20)) (R.drop 20) c n) := by have := hac.out; subst this; exact hp.out.step (by omega) (by omega)
      obtain ⟨c', hc'⟩ : ∃ c' : Nat, Hid (c + 20 = c') := ⟨_, rfl⟩
      have ec : Hid ((c : Int) + 20 = (c' : Int)) := by show (c : Int) + 20 = (c' : Int); have := hc'.out; omega
      have hm : Hid (n - c < n - a) := by show n - c < n - a; have := hac.out; omega
      go_wp2_with fail
      refine call.out.mono ?_
      rintro e X ⟨rfl, hx, hbx⟩
      have hx' : Hid (RowE enc X b ((P ++ isort lt (R.take 20)) ++ R.drop 20)) := by rw [List.append_assoc]; exact hx
      have hb' := hid_of (hb.out.trans hbx)
      clear call hx hbx hr hb hp insert sym
      go_wp2_with fail
      rw [ec.out]
      exact ⟨⟨c, c', _, _, rfl, rfl, hc', hcn, hp', hx', hb'⟩, by simp only [intOf]; exact hm.out⟩
    · have hcn' : ¬ (c : Int) ≤ (n : Int) := by omega
      have call := hid_of (insert.out P R [] a n wr (hw0.out.trans hb.out) (by rw [List.append_nil]; exact hr.out) hp.out.len hp.out.sum (by simp))
      have he : Hid (P ++ (isort lt R ++ []) = blocks lt 20 D) := by show _ = _; rw [List.append_nil, hp.out.last (by have := hac.out; omega)]
      rw [he.out] at call
      clear he hac hp hr a0 a1 c1 c0 insert
      go_wp2_with fail
      refine call.out.mono ?_
      rintro e X ⟨rfl, hx, hbx⟩
      replace hx := hid_of hx
      have hb' := hid_of (hb.out.trans hbx)
      clear call hbx hb hcn hcn' han
      go_wp2_with fail
      go_loopw [6, 7, 8, 9] (fun sv _ _ _ wr => ∃ s : Nat, sv = .int .i64 s ∧ 0 < s ∧ Hid (RowE enc wr b (blocks lt s D)) ∧ Hid (But b w wr)) (fun sv _ _ _ _ => n - (intOf sv).toNat)
      case atStart => exact ⟨20, rfl, by omega, hx, hb'⟩
      case round =>
        clear hx hb'
        obtain ⟨s, rfl, hs, hx, hb⟩ := hrel
        by_cases hsn : s < n
        · have hsn' : (s : Int) < (n : Int) := by omega
          have s0 : (0 : Int) ≤ (s : Int) := by omega
          have s1 : (s : Int) ≤ 1152921504606846976 := by omega
          obtain ⟨S2, hS2⟩ : ∃ S2 : Nat, Hid (2 * s = S2) := ⟨_, rfl⟩
          have eS : Hid (2 * (s : Int) = (S2 : Int)) := by show 2 * (s : Int) = (S2 : Int); have := hS2.out; omega
          have eS' : Hid ((s : Int) * 2 = (S2 : Int)) := by show (s : Int) * 2 = (S2 : Int); have := hS2.out; omega
          have s2 : (S2 : Int) ≤ 2305843009213693952 := by have := hS2.out; omega
          have s3 : (0 : Int) ≤ (S2 : Int) := by omega
          have hm2 : Hid (0 < S2 ∧ n - S2 < n - s) := by show _ ∧ _; have := hS2.out; omega
          have q0 : Hid (Part lt S2 D [] D 0 n) := by rw [← hn.out]; exact Part.zero lt S2 D
          go_upto_region 9 with fail
          rw [eS.out]
          go_loopw [7, 8] (fun av bv wr => ∃ (a c : Nat) (P R : List α), av = .int .i64 a ∧ bv = .int .i64 c ∧ Hid (a + S2 = c) ∧ a ≤ n ∧ Hid (Part lt S2 D P R a n) ∧ Hid (RowE enc wr b (P ++ blocks lt s R)) ∧ Hid (But b w wr)) (fun av _ _ => n - (intOf av).toNat)
          case atStart => exact ⟨0, S2, [], D, rfl, rfl, by show 0 + S2 = S2; omega, Nat.zero_le _, q0, hx, hb⟩
          case round =>
            clear q0 hx hb
            obtain ⟨a, c, P, R, rfl, rfl, hac, han, hp, hr, hb⟩ := hrel
            have a0 : (0 : Int) ≤ (a : Int) := by omega
            have a1 : (a : Int) ≤ 1152921504606846976 := by omega
            have c1 : (c : Int) ≤ 3458764513820540928 := by have := hac.out; omega
            have c0 : (0 : Int) ≤ (c : Int) := by omega
            obtain ⟨m, hmm⟩ : ∃ m : Nat, Hid (a + s = m) := ⟨_, rfl⟩
            have em : Hid ((a : Int) + (s : Int) = (m : Int)) := by show (a : Int) + (s : Int) = (m : Int); have := hmm.out; omega
            by_cases hcn : c ≤ n
            · have hcn' : (c : Int) ≤ (n : Int) := by omega
              have call := hid_of (sym.out P (isort lt (R.take s)) (isort lt ((R.drop s).take s)) (blocks lt s (R.drop (2 * s))) a m c wr (hw0.out.trans hb.out) (by have h := hr.out; rw [two_blocks lt hs] at h; exact h) (isort_up O _) (isort_up O _)
                (by rw [isort_length, List.length_take]; have := hp.out.sum; have := hac.out; have := hS2.out; omega) (by rw [isort_length, List.length_take, List.length_drop]; have := hp.out.sum; have := hac.out; have := hS2.out; omega) hp.out.len (by rw [isort_length, List.length_take]; have := hmm.out; have := hp.out.sum; have := hac.out; have := hS2.out; omega) (by rw [isort_length, List.length_take, List.length_drop]; have := hmm.out; have := hp.out.sum; have := hac.out; have := hS2.out; omega) (by rw [blocks_length lt hs _ _ (Nat.le_refl _), List.length_drop]; have := hp.out.sum; have := hac.out; have := hS2.out; omega))
              rw [blocks_twice O, ← List.append_assoc, hS2.out] at call
              have hp' : Hid (Part lt S2 D (P ++ isort lt (R.take S2)) (R.drop S2) c n) := by have := hac.out; subst this; exact hp.out.step hm2.out.1 (by omega)
              obtain ⟨c', hc'⟩ : ∃ c' : Nat, Hid (c + S2 = c') := ⟨_, rfl⟩
              have ec : Hid ((c : Int) + (S2 : Int) = (c' : Int)) := by show (c : Int) + (S2 : Int) = (c' : Int); have := hc'.out; omega
              have hm : Hid (n - c < n - a) := by show n - c < n - a; have := hac.out; have := hm2.out; omega
              go_wp2_with fail
              rw [em.out]
              refine call.out.mono ?_
              rintro e X ⟨rfl, hx, hbx⟩
              replace hx := hid_of hx
              have hb' := hid_of (hb.out.trans hbx)
              clear call hbx hr hb hp sym
              go_wp2_with fail
              rw [eS.out, ec.out]
              exact ⟨⟨c, c', _, _, rfl, rfl, hc', hcn, hp', hx, hb'⟩, by simp only [intOf]; exact hm.out⟩
            · have hcn' : ¬ (c : Int) ≤ (n : Int) := by omega
              have m1 : (m : Int) ≤ 3458764513820540928 := by have := hmm.out; omega
              by_cases hmn : m < n
              · have hmn' : (m : Int) < (n : Int) := by omega
                have call := hid_of (sym.out P (isort lt (R.take s)) (isort lt (R.drop s)) [] a m n wr (hw0.out.trans hb.out) (by have h := hr.out; rw [rest_blocks lt hs (by have := hp.out.sum; have := hac.out; have := hS2.out; omega)] at h; rw [List.append_nil]; exact h) (isort_up O _) (isort_up O _)
                  (by rw [isort_length, List.length_take]; have := hp.out.sum; have := hmm.out; omega) (by rw [isort_length, List.length_drop]; have := hp.out.sum; have := hmm.out; omega) hp.out.len (by rw [isort_length, List.length_take]; have := hp.out.sum; have := hmm.out; omega) (by rw [isort_length, List.length_drop]; have := hp.out.sum; have := hmm.out; omega) (by simp))
                rw [blocks_rest O, List.append_nil, ← hp.out.last (by have := hac.out; omega)] at call
                go_upto_region 14 with fail
                rw [em.out]
                go_wp2_with fail
                refine call.out.mono ?_
                rintro e X ⟨rfl, hx, hbx⟩
                replace hx := hid_of hx
                have hb' := hid_of (hb.out.trans hbx)
                clear call hbx hr hb hp sym
                go_wp2_with fail
                rw [eS'.out]
                exact ⟨⟨S2, rfl, hm2.out.1, hx, hb'⟩, by simp only [intOf]; exact hm2.out.2⟩
              · have hmn' : ¬ (m : Int) < (n : Int) := by omega
                have hx : Hid (RowE enc wr b (blocks lt S2 D)) := by
                  have h := hr.out
                  rw [blocks_short lt (by have := hp.out.sum; have := hmm.out; omega), ← hp.out.last (by have := hac.out; omega)] at h
                  exact h
                clear hr hp sym
                go_upto_region 14 with fail
                rw [em.out]
                go_wp2_with fail
                rw [eS'.out]
                exact ⟨⟨S2, rfl, hm2.out.1, hx, hb⟩, by simp only [intOf]; exact hm2.out.2⟩
        · have hsn' : ¬ (s : Int) < (n : Int) := by omega
          rw [blocks_short lt (by have := hn.out; omega)] at hx
          clear sym
          go_wp2_with fail
          exact bodyPost_end (results_none rfl _ _ _) rfl ⟨rfl, hx.out, hb.out⟩
end
end Go.Proofs.YtbcfkajcmbckbaaGreatDoor.SortM
/-! slices.SortStableFunc. -/
namespace Go.Proofs.YtbcfkajcmbckbaaGreatDoor.SortM
open Go Go.RowKit Go.Stab
section
variable {α : Type} {enc : α → Array Value}
theorem sort_any (E : Enc enc) {lt : α → α → Bool} (O : Swo lt) {b : Nat} {w0 : World} (cn : α → α → Int) (hlt : ∀ x y, lt x y = decide (cn x y < 0)) (hcmp : ∀ x y W, But b w0 W → Calls Tryz.prog 106 #[.agg (enc x), .agg (enc y)] W fun e w' => e = .returned (.int .i64 (cn x y)) ∧ Below W.heap.size W w')
    (D : List α) (n cap : Nat) (w : World) (hw0 : But b w0 w) (hR : RowE enc w b D) (hn : D.length = n) (hnn : n ≤ 1152921504606846976) :
    Calls Tryz.prog 105 #[.slice (some ⟨b, 0, none⟩) n cap, .func (.func 106) #[] #[]] w fun e w' => e = .returned (.tuple #[]) ∧ RowE enc w' b (isort lt D) ∧ But b w w' := by
  have call := hid_of (stable_any E O cn hlt hcmp D n cap w hw0 hR hn hnn)
  clear hlt hcmp hw0 hR hn
  go_enter Tryz.func105, Tryz.ntmps105
  go_wp2_with fail
  refine call.out.mono ?_
  rintro e X ⟨rfl, hx, hb⟩
  replace hx := hid_of hx
  replace hb := hid_of hb
  clear call
  go_wp2_with fail
  exact bodyPost_end (results_none rfl _ _ _) rfl ⟨rfl, hx.out, hb.out⟩
end
end Go.Proofs.YtbcfkajcmbckbaaGreatDoor.SortM
