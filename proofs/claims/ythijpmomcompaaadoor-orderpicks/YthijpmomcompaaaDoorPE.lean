import Derived.Test.YthijpmomcompaaaDoorPD
import Derived.RangeFuncNested
import Derived.RangeFuncBound
import Derived.RangeFuncCalls
import Derived.RangeFuncLeaves
import Derived.Shelf.Abstract
import Derived.Shelf.RegionOpen
import Derived.OwnWalkIn
import Derived.TacticsInMore
import Derived.LoopNIn
import Derived.LoopIn
/-! slices.Values over a list of any length. -/
namespace Go.Proofs.YthijpmomcompaaaDoor
open Go Go.RowKit Go.Shelf
attribute [local go_sem] Oper.semAt_some

theorem heap_new' {w : World} {n : Nat} {o : Obj} (h : n = w.heap.size) : (w.alloc o).heap[n]? = some o := by rw [h]; exact heap_alloc_new w o
/-- Five cells that nobody shares. -/
def Row5 (W : World) (B : Nat) (c0 c1 c2 c3 c4 : Value) : Prop :=
  (W.cell? ⟨B, 0, none⟩ = some c0 ∧ W.frozen? ⟨B, 0, none⟩ = false) ∧ (W.cell? ⟨B, 1, none⟩ = some c1 ∧ W.frozen? ⟨B, 1, none⟩ = false) ∧ (W.cell? ⟨B, 2, none⟩ = some c2 ∧ W.frozen? ⟨B, 2, none⟩ = false) ∧ (W.cell? ⟨B, 3, none⟩ = some c3 ∧ W.frozen? ⟨B, 3, none⟩ = false) ∧ (W.cell? ⟨B, 4, none⟩ = some c4 ∧ W.frozen? ⟨B, 4, none⟩ = false)
theorem Row5.own {A B : World} {row : Option Nat} {g : Nat} {c0 c1 c2 c3 c4 : Value} (h : Row5 A g c0 c1 c2 c3 c4) (hg : A.grownBy B row) (hr : ∀ r, row = some r → ∃ o, A.heap[r]? = some o ∧ o.isCells = false) : Row5 B g c0 c1 c2 c3 c4 := by
  obtain ⟨⟨y0, f0⟩, ⟨y1, f1⟩, ⟨y2, f2⟩, ⟨y3, f3⟩, ⟨y4, f4⟩⟩ := h
  exact ⟨⟨cell_kept y0 hg hr, (frozen_kept y0 hg hr).trans f0⟩, ⟨cell_kept y1 hg hr, (frozen_kept y1 hg hr).trans f1⟩, ⟨cell_kept y2 hg hr, (frozen_kept y2 hg hr).trans f2⟩, ⟨cell_kept y3 hg hr, (frozen_kept y3 hg hr).trans f3⟩, ⟨cell_kept y4 hg hr, (frozen_kept y4 hg hr).trans f4⟩⟩
theorem frozen_alloc' {W : World} {p : Addr} {v : Value} (h : W.cell? p = some v) (hf : W.frozen? p = false) (o : Obj) : (W.alloc o).frozen? p = false := by
  have hlt : p.block < W.heap.size := by
    rcases Nat.lt_or_ge p.block W.heap.size with h' | h'
    · exact h'
    · simp [World.cell?, Array.getElem?_eq_none h'] at h
  unfold World.frozen? at *
  rw [Below.heap_alloc _ _ _ hlt]; exact hf
theorem Row5.alloc {W : World} {g : Nat} {c0 c1 c2 c3 c4 : Value} (h : Row5 W g c0 c1 c2 c3 c4) (o : Obj) : Row5 (W.alloc o) g c0 c1 c2 c3 c4 := by
  obtain ⟨⟨y0, f0⟩, ⟨y1, f1⟩, ⟨y2, f2⟩, ⟨y3, f3⟩, ⟨y4, f4⟩⟩ := h
  exact ⟨⟨cell_alloc' y0 o, frozen_alloc' y0 f0 o⟩, ⟨cell_alloc' y1 o, frozen_alloc' y1 f1 o⟩, ⟨cell_alloc' y2 o, frozen_alloc' y2 f2 o⟩, ⟨cell_alloc' y3 o, frozen_alloc' y3 f3 o⟩, ⟨cell_alloc' y4 o, frozen_alloc' y4 f4 o⟩⟩
theorem Row5.put {W : World} {g : Nat} {c0 c1 c2 c3 c4 : Value} (h : Row5 W g c0 c1 c2 c3 c4) (a0 a1 a2 a3 a4 : Value) : Row5 (put5 W g a0 a1 a2 a3 a4) g a0 a1 a2 a3 a4 := by
  obtain ⟨⟨y0, f0⟩, ⟨y1, f1⟩, ⟨y2, f2⟩, ⟨y3, f3⟩, ⟨y4, f4⟩⟩ := h
  cases hh : W.heap[g]? with
  | none => simp [World.cell?, hh] at y4
  | some o =>
    cases o with
    | cells cur t fz =>
      obtain ⟨lo, hi⟩ := fz
      have hp : (put5 W g a0 a1 a2 a3 a4).heap[g]? = some (.cells (((((cur.setIfInBounds 0 a0).setIfInBounds 1 a1).setIfInBounds 2 a2).setIfInBounds 3 a3).setIfInBounds 4 a4) t (lo, hi)) := by
        simp [put5, World.setCell, Array.getElem?_modify, hh]
      have h5 : 4 < cur.size := by
        simp [World.cell?, hh] at y4
        exact (Array.getElem?_eq_some_iff.1 y4).1
      simp only [World.frozen?, hh] at f0 f1 f2 f3 f4
      refine ⟨⟨?_, ?_⟩, ⟨?_, ?_⟩, ⟨?_, ?_⟩, ⟨?_, ?_⟩, ⟨?_, ?_⟩⟩
      all_goals first
        | (simp only [World.frozen?, hp]; assumption)
        | (have l0 : 0 < cur.size := by omega
           have l1 : 1 < cur.size := by omega
           have l2 : 2 < cur.size := by omega
           have l3 : 3 < cur.size := by omega
           simp [World.cell?, *])
    | _ => simp [World.cell?, hh] at y4
theorem Row5.far {W W' : World} {g : Nat} {c0 c1 c2 c3 c4 : Value} (h : Row5 W g c0 c1 c2 c3 c4) (hk : W'.heap[g]? = W.heap[g]?) : Row5 W' g c0 c1 c2 c3 c4 := by
  unfold Row5 at *
  unfold World.cell? World.frozen? at *
  rw [hk]; exact h
theorem Row5.lt {W : World} {g : Nat} {c0 c1 c2 c3 c4 : Value} (h : Row5 W g c0 c1 c2 c3 c4) : g < W.heap.size := by
  rcases Nat.lt_or_ge g W.heap.size with h' | h'
  · exact h'
  · have := h.1.1
    simp [World.cell?, Array.getElem?_eq_none h'] at this
theorem KeepsOthers.put5 (W : World) (g : Nat) (a0 a1 a2 a3 a4 : Value) : KeepsOthers W (put5 W g a0 a1 a2 a3 a4) := by
  unfold Go.Proofs.YthijpmomcompaaaDoor.put5
  exact ((((KeepsOthers.setCell _ _ _).trans (KeepsOthers.setCell _ _ _)).trans (KeepsOthers.setCell _ _ _)).trans (KeepsOthers.setCell _ _ _)).trans (KeepsOthers.setCell _ _ _)
/-- A box of one cell. -/
def Box1 (W : World) (B : Nat) (v : Value) : Prop := W.cell? ⟨B, 0, none⟩ = some v ∧ W.frozen? ⟨B, 0, none⟩ = false
theorem Box1.own {A B : World} {row : Option Nat} {g : Nat} {v : Value} (h : Box1 A g v) (hg : A.grownBy B row) (hr : ∀ r, row = some r → ∃ o, A.heap[r]? = some o ∧ o.isCells = false) : Box1 B g v := ⟨cell_kept h.1 hg hr, (frozen_kept h.1 hg hr).trans h.2⟩
theorem Box1.alloc {W : World} {g : Nat} {v : Value} (h : Box1 W g v) (o : Obj) : Box1 (W.alloc o) g v := ⟨cell_alloc' h.1 o, frozen_alloc' h.1 h.2 o⟩
theorem Box1.far {W W' : World} {g : Nat} {v : Value} (h : Box1 W g v) (hk : W'.heap[g]? = W.heap[g]?) : Box1 W' g v := by
  unfold Box1 at *
  unfold World.cell? World.frozen? at *
  rw [hk]; exact h
theorem Box1.lt {W : World} {g : Nat} {v : Value} (h : Box1 W g v) : g < W.heap.size := lt_of_cell h.1
theorem box1_of {W : World} {B : Nat} {v : Value} {t : TypeId} (h : W.heap[B]? = some (.cells #[v] t (0, 0))) : Box1 W B v := ⟨by simp [World.cell?, h], by simp [World.frozen?, h]⟩
theorem Box1.set {W : World} {g : Nat} {v : Value} (h : Box1 W g v) (u : Value) : Box1 (W.setCell ⟨g, 0, none⟩ u) g u := by
  obtain ⟨h1, h2⟩ := h
  cases hh : W.heap[g]? with
  | none => simp [World.cell?, hh] at h1
  | some o =>
    cases o with
    | cells cur t fz =>
      obtain ⟨lo, hi⟩ := fz
      have hp : (W.setCell ⟨g, 0, none⟩ u).heap[g]? = some (.cells (cur.setIfInBounds 0 u) t (lo, hi)) := by simp [World.setCell, Array.getElem?_modify, hh]
      have h5 : 0 < cur.size := by
        simp [World.cell?, hh] at h1
        exact (Array.getElem?_eq_some_iff.1 h1).1
      simp only [World.frozen?, hh] at h2
      refine ⟨?_, ?_⟩
      · simp [World.cell?, hp, h5]
      · simp only [World.frozen?, hp]; assumption
    | _ => simp [World.cell?, hh] at h1
theorem row5_of {W : World} {B : Nat} {c0 c1 c2 c3 c4 : Value} {t : TypeId} (h : W.heap[B]? = some (.cells #[c0, c1, c2, c3, c4] t (0, 0))) : Row5 W B c0 c1 c2 c3 c4 := by
  obtain ⟨y0, y1, y2, y3, y4, f⟩ := row_cells h
  exact ⟨⟨y0, f 0⟩, ⟨y1, f 1⟩, ⟨y2, f 2⟩, ⟨y3, f 3⟩, ⟨y4, f 4⟩⟩
set_option maxHeartbeats 1000000 in
theorem vals_in (F : Fence) (n : Nat) (hf : F.fn 17) (hro : F.round = none) (a : Option Addr) (len cap : Nat) (w : World) :
    CallsIn F n Tryd.prog 17 #[.slice a len cap] w fun e w' => e = .returned (.func (.func 27) #[] #[.pointer (some ⟨w.heap.size, 0, none⟩)]) ∧ w' = w.alloc (.cells #[.slice a len cap] 22) := by
  refine callsIn_of_wp Tryd.func17 rfl hf ?_ hro
  simp only [Tryd.ntmps17, List.size_toArray, List.length_cons, List.length_nil, Nat.reduceAdd, Nat.reduceSub, Array.replicate_succ, Array.replicate_zero, List.push_toArray, List.append_toArray, List.nil_append, List.cons_append]
  gi_wp2
  go_ret
  exact ⟨rfl, rfl⟩
theorem keepsOthers_below {W W' : World} (h : Below W.heap.size W W') : KeepsOthers W W' := ⟨h.size, fun k _ hk _ => (h.block k (Array.getElem?_eq_some_iff.1 hk).1).trans hk⟩
/-- What A has in the blocks of U, in cells, B has too. -/
def KpU (U : Nat → Prop) (A B : World) : Prop := ∀ p u, U p.block → A.cell? p = some u → B.cell? p = some u
theorem KpU.trans {U : Nat → Prop} {A B C : World} (h : KpU U A B) (h' : KpU U B C) : KpU U A C := fun p u hp hc => h' p u hp (h p u hp hc)
/-- A Value's five cells. -/
structure V5 where
  k : Int
  x : Int
  s : ByteArray
  an : Option Addr
  ln : Nat
  cn : Nat
  ai : Option Addr
  li : Nat
  ci : Nat
def V5.cells (t : V5) : List Value := [.int .i64 t.k, .int .i64 t.x, .string t.s, .slice t.an t.ln t.cn, .slice t.ai t.li t.ci]
theorem Five.v5 {cs : List Value} (h : Five cs) : ∃ t : V5, cs = t.cells := by
  obtain ⟨k, x, s, an, ln, cn, ai, li, ci, rfl⟩ := h
  exact ⟨⟨k, x, s, an, ln, cn, ai, li, ci⟩, rfl⟩
def firsts (n q : Nat) : List (Fin n) := (List.finRange n).take q
theorem firsts_len (n q : Nat) (h : q ≤ n) : (firsts n q).length = q := by simp [firsts]; omega
theorem firsts_succ (n q : Nat) (h : q < n) : firsts n (q + 1) = firsts n q ++ [⟨q, h⟩] := by
  unfold firsts
  rw [List.take_add_one, List.getElem?_eq_getElem (by simpa using h)]
  simp
theorem firsts_all (n : Nat) : firsts n n = List.finRange n := by unfold firsts; rw [List.take_of_length_le (by simp)]
set_option maxRecDepth 100000 in
set_option maxHeartbeats 2000000 in
theorem vals_n (F : Fence) (r : Nat) (hf : F.fn 27) (hro : F.round = none) (hr : 1 ≤ r) (Bs n c : Nat) (a : Option Addr) (tf : Fin n → V5) (U : Nat → Prop) (w : World) (hBs : Bs < w.heap.size) (hn : n ≤ 4611686018427387904)
    (hc : w.cell? ⟨Bs, 0, none⟩ = some (.slice a n c)) (hs : ∀ i : Fin n, ∃ g o, a = some ⟨g, o, none⟩ ∧ U g ∧ CellsAt w g (o + i.1 * 5) (tf i).cells) :
    SeqStopsK F r Tryd.prog 27 #[.pointer (some ⟨Bs, 0, none⟩)] (fun i : Fin n => #[Value.agg (tf i).cells.toArray]) (KpU U) (fun ys => ys = List.finRange n) (fun _ => True) n w := fun l J Jx W hW hJ _ hY h0 => by
  have hc' := (hW.cell (p := ⟨Bs, 0, none⟩) hBs).trans hc
  have n0 : (0 : Int) ≤ (n : Int) := by omega
  have n1 : (n : Int) ≤ 4611686018427387904 := by omega
  refine callsIn_of_wp Tryd.func27 rfl hf ?_ hro
  simp only [Tryd.ntmps27, List.size_toArray, List.length_cons, List.length_nil, Nat.reduceAdd, Nat.reduceSub, Array.replicate_succ, Array.replicate_zero, List.push_toArray, List.append_toArray, List.nil_append, List.cons_append]
  replace hs := hid_of hs; replace hW := hid_of hW; replace hY := hid_of hY; replace hJ := hid_of hJ
  gi_wp2
  gi_loopw [4, 7] (fun _ i wr => ∃ q : Nat, q ≤ n ∧ i = .int .i64 q ∧ Hid (J (firsts n q) wr) ∧ Hid (KpU U W wr)) (fun _ i _ => n - (intOf i).toNat)
  case atStart => exact ⟨0, Nat.zero_le _, by simp, hid_of h0, hid_of (fun _ _ _ h => h)⟩
  case round =>
    obtain ⟨q, hq, rfl, hJ1, hK⟩ := hrel
    by_cases hlt : q < n
    · have i1 : (q : Int) < (n : Int) := by omega
      have i2 : (0 : Int) ≤ (q : Int) := by omega
      obtain ⟨g, o, rfl, hUg, hcl⟩ := hs.out ⟨q, hlt⟩
      have cT : ∀ e u, (tf ⟨q, hlt⟩).cells[e]? = some u → wr.cell? ⟨g, o + q * 5 + e, none⟩ = some u := fun e u he => hK.out _ _ hUg ((hW.out.cell (cell_lt (hcl e u he))).trans (hcl e u he))
      have c0 : wr.cell? ⟨g, o + q * 5, none⟩ = some (.int .i64 (tf ⟨q, hlt⟩).k) := cT 0 _ rfl
      have c1 : wr.cell? ⟨g, o + q * 5 + 1, none⟩ = some (.int .i64 (tf ⟨q, hlt⟩).x) := cT 1 _ rfl
      have c2 : wr.cell? ⟨g, o + q * 5 + 2, none⟩ = some (.string (tf ⟨q, hlt⟩).s) := cT 2 _ rfl
      have c3 : wr.cell? ⟨g, o + q * 5 + 3, none⟩ = some (.slice (tf ⟨q, hlt⟩).an (tf ⟨q, hlt⟩).ln (tf ⟨q, hlt⟩).cn) := cT 3 _ rfl
      have c4 : wr.cell? ⟨g, o + q * 5 + 4, none⟩ = some (.slice (tf ⟨q, hlt⟩).ai (tf ⟨q, hlt⟩).li (tf ⟨q, hlt⟩).ci) := cT 4 _ rfl
      clear cT hcl
      have hd : decide ((q : Int) < (n : Int)) = true := by simp; omega
      obtain ⟨X, hX⟩ : ∃ X, Hid (wr.alloc (.cells #[.int .i64 (tf ⟨q, hlt⟩).k, .int .i64 (tf ⟨q, hlt⟩).x, .string (tf ⟨q, hlt⟩).s, .slice (tf ⟨q, hlt⟩).an (tf ⟨q, hlt⟩).ln (tf ⟨q, hlt⟩).cn, .slice (tf ⟨q, hlt⟩).ai (tf ⟨q, hlt⟩).li (tf ⟨q, hlt⟩).ci] 31) = X) := ⟨_, rfl⟩
      have hJX : Hid (J (firsts n q) X) := by rw [← hX.out]; exact hJ.out _ wr _ none hJ1.out (World.grownBy_alloc wr _ none) (fun r e => by cases e)
      have hKX : Hid (KpU U W X) := by rw [← hX.out]; exact fun p u hp hc => cell_alloc' (hK.out p u hp hc) _
      obtain ⟨fn, tmps, assign, body, hy, hR⟩ := hY.out (firsts n q) ⟨q, hlt⟩ X hJX.out (by rw [firsts_len n q hq]; exact hlt)
      unfold V5.cells at hy
      have hnew : X.heap[wr.heap.size]? = some (.cells #[.int .i64 (tf ⟨q, hlt⟩).k, .int .i64 (tf ⟨q, hlt⟩).x, .string (tf ⟨q, hlt⟩).s, .slice (tf ⟨q, hlt⟩).an (tf ⟨q, hlt⟩).ln (tf ⟨q, hlt⟩).cn, .slice (tf ⟨q, hlt⟩).ai (tf ⟨q, hlt⟩).li (tf ⟨q, hlt⟩).ci] 31 (0, 0)) := by rw [← hX.out]; exact heap_alloc_new wr _
      obtain ⟨e0, e1, e2, e3, e4, -⟩ := row_cells hnew
      clear hnew
      gi_wp2_with (first | rw [hX.out] | fail)
      refine hR.mono ?_
      rintro e W3 (⟨rfl, hJ3, hk3⟩ | ⟨rfl, hJx3⟩)
      · have hJ' : Hid (J (firsts n (q + 1)) W3) := hid_of (by rw [firsts_succ n q hlt]; exact hJ3)
        have hK' : Hid (KpU U W W3) := hid_of (hKX.out.trans hk3)
        gi_wp2
        go_roundw
        case rel => exact ⟨q + 1, by omega, by go_num, hJ', hK'⟩
        case measure => simp [intOf]; omega
      · gi_wp2
        refine bodyPost_ret (results_none rfl _ _ _) rfl ?_
        exact ⟨⟨_, rfl⟩, .inr ⟨_, trivial, hJx3⟩⟩
    · obtain rfl : q = n := by omega
      have hd : decide ((q : Int) < (q : Int)) = false := by simp
      gi_wp2
      go_end0
      exact ⟨⟨_, rfl⟩, .inl ⟨_, firsts_all _, hJ1.out⟩⟩
end Go.Proofs.YthijpmomcompaaaDoor
