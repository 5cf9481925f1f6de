import Derived.Test.YtgigikcopedoeaaGreatLC
import Derived.Test.YtgigikcopedoeaaGreatLA
import Derived.Test.YtgigikcopedoeaaGreatXA
import Derived.RangeFuncNested
import Derived.RangeFuncBound
import Derived.RangeFuncCalls
import Derived.RangeFuncLeaves
import Derived.Shelf.Abstract
import Derived.Shelf.RegionOpen
import Derived.OwnWalkIn
import Derived.TacticsInMore
import Derived.LoopNIn
import Derived.LoopIn
/-! Taken over from elder texts: r15p/PA.tpl, r15p/PE.tpl, r15p/PF.tpl. -/
namespace Go.Proofs.YtgigikcopedoeaaGreat.Tree
open Go Go.RowKit Go.Shelf
attribute [local go_sem] Oper.semAt_some
/-- The place of the item over which none is chosen, among the first q. -/
def bestT (sg : Int) (its : List Tr) : Nat → Nat
  | 0 => 0
  | q + 1 => match its[q]?, its[bestT sg its q]? with
    | some u, some v => if sg * cmpT u v < 0 then q else bestT sg its q
    | _, _ => bestT sg its q
theorem bestT_lt (sg : Int) (its : List Tr) (q : Nat) (h : q ≤ its.length) (h0 : 0 < its.length) : bestT sg its q < its.length := by
  induction q with
  | zero => exact h0
  | succ q ih =>
    have := ih (by omega)
    unfold bestT
    split
    · split <;> omega
    · omega
theorem bestT_step {sg : Int} {its : List Tr} {q : Nat} {u v : Tr} (hu : its[q]? = some u) (hv : its[bestT sg its q]? = some v) : bestT sg its (q + 1) = if sg * cmpT u v < 0 then q else bestT sg its q := by
  rw [bestT, hu, hv]
theorem heap_new' {w : World} {n : Nat} {o : Obj} (h : n = w.heap.size) : (w.alloc o).heap[n]? = some o := by rw [h]; exact heap_alloc_new w o
theorem Row5.own {A B : World} {row : Option Nat} {g : Nat} {c0 c1 c2 c3 c4 : Value} (h : Row5 A g c0 c1 c2 c3 c4) (hg : A.grownBy B row) (hr : ∀ r, row = some r → ∃ o, A.heap[r]? = some o ∧ o.isCells = false) : Row5 B g c0 c1 c2 c3 c4 := by
  obtain ⟨⟨y0, f0⟩, ⟨y1, f1⟩, ⟨y2, f2⟩, ⟨y3, f3⟩, ⟨y4, f4⟩⟩ := h
  exact ⟨⟨cell_kept y0 hg hr, (frozen_kept y0 hg hr).trans f0⟩, ⟨cell_kept y1 hg hr, (frozen_kept y1 hg hr).trans f1⟩, ⟨cell_kept y2 hg hr, (frozen_kept y2 hg hr).trans f2⟩, ⟨cell_kept y3 hg hr, (frozen_kept y3 hg hr).trans f3⟩, ⟨cell_kept y4 hg hr, (frozen_kept y4 hg hr).trans f4⟩⟩
theorem Row5.far {W W' : World} {g : Nat} {c0 c1 c2 c3 c4 : Value} (h : Row5 W g c0 c1 c2 c3 c4) (hk : W'.heap[g]? = W.heap[g]?) : Row5 W' g c0 c1 c2 c3 c4 := by
  unfold Row5 at *
  unfold World.cell? World.frozen? at *
  rw [hk]; exact h
theorem Row5.lt {W : World} {g : Nat} {c0 c1 c2 c3 c4 : Value} (h : Row5 W g c0 c1 c2 c3 c4) : g < W.heap.size := by
  rcases Nat.lt_or_ge g W.heap.size with h' | h'
  · exact h'
  · have := h.1.1
    simp [World.cell?, Array.getElem?_eq_none h'] at this
theorem KeepsOthers.put5 (W : World) (g : Nat) (a0 a1 a2 a3 a4 : Value) : KeepsOthers W (put5 W g a0 a1 a2 a3 a4) := by
  unfold Go.Proofs.YtgigikcopedoeaaGreat.Tree.put5
  exact ((((KeepsOthers.setCell _ _ _).trans (KeepsOthers.setCell _ _ _)).trans (KeepsOthers.setCell _ _ _)).trans (KeepsOthers.setCell _ _ _)).trans (KeepsOthers.setCell _ _ _)
/-- A box of one cell. -/
def Box1 (W : World) (B : Nat) (v : Value) : Prop := W.cell? ⟨B, 0, none⟩ = some v ∧ W.frozen? ⟨B, 0, none⟩ = false
theorem Box1.own {A B : World} {row : Option Nat} {g : Nat} {v : Value} (h : Box1 A g v) (hg : A.grownBy B row) (hr : ∀ r, row = some r → ∃ o, A.heap[r]? = some o ∧ o.isCells = false) : Box1 B g v := ⟨cell_kept h.1 hg hr, (frozen_kept h.1 hg hr).trans h.2⟩
theorem Box1.alloc {W : World} {g : Nat} {v : Value} (h : Box1 W g v) (o : Obj) : Box1 (W.alloc o) g v := ⟨cell_alloc' h.1 o, frozen_alloc' h.1 h.2 o⟩
theorem Box1.far {W W' : World} {g : Nat} {v : Value} (h : Box1 W g v) (hk : W'.heap[g]? = W.heap[g]?) : Box1 W' g v := by
  unfold Box1 at *
  unfold World.cell? World.frozen? at *
  rw [hk]; exact h
theorem Box1.lt {W : World} {g : Nat} {v : Value} (h : Box1 W g v) : g < W.heap.size := lt_of_cell h.1
theorem box1_of {W : World} {B : Nat} {v : Value} {t : TypeId} (h : W.heap[B]? = some (.cells #[v] t (0, 0))) : Box1 W B v := ⟨by simp [World.cell?, h], by simp [World.frozen?, h]⟩
theorem Box1.set {W : World} {g : Nat} {v : Value} (h : Box1 W g v) (u : Value) : Box1 (W.setCell ⟨g, 0, none⟩ u) g u := by
  obtain ⟨h1, h2⟩ := h
  cases hh : W.heap[g]? with
  | none => simp [World.cell?, hh] at h1
  | some o =>
    cases o with
    | cells cur t fz =>
      obtain ⟨lo, hi⟩ := fz
      have hp : (W.setCell ⟨g, 0, none⟩ u).heap[g]? = some (.cells (cur.setIfInBounds 0 u) t (lo, hi)) := by simp [World.setCell, Array.getElem?_modify, hh]
      have h5 : 0 < cur.size := by
        simp [World.cell?, hh] at h1
        exact (Array.getElem?_eq_some_iff.1 h1).1
      simp only [World.frozen?, hh] at h2
      refine ⟨?_, ?_⟩
      · simp [World.cell?, hp, h5]
      · simp only [World.frozen?, hp]; assumption
    | _ => simp [World.cell?, hh] at h1
theorem row5_of {W : World} {B : Nat} {c0 c1 c2 c3 c4 : Value} {t : TypeId} (h : W.heap[B]? = some (.cells #[c0, c1, c2, c3, c4] t (0, 0))) : Row5 W B c0 c1 c2 c3 c4 := by
  obtain ⟨y0, y1, y2, y3, y4, f⟩ := row_cells h
  exact ⟨⟨y0, f 0⟩, ⟨y1, f 1⟩, ⟨y2, f 2⟩, ⟨y3, f 3⟩, ⟨y4, f 4⟩⟩
theorem keepsOthers_below {W W' : World} (h : Below W.heap.size W W') : KeepsOthers W W' := ⟨h.size, fun k _ hk _ => (h.block k (Array.getElem?_eq_some_iff.1 hk).1).trans hk⟩
/-- What A has in the blocks of U, in cells, B has too. -/
def KpU (U : Nat → Prop) (A B : World) : Prop := ∀ p u, U p.block → A.cell? p = some u → B.cell? p = some u
theorem KpU.trans {U : Nat → Prop} {A B C : World} (h : KpU U A B) (h' : KpU U B C) : KpU U A C := fun p u hp hc => h' p u hp (h p u hp hc)
/-- A Value's five cells. -/
structure V5 where
  k : Int
  x : Int
  s : ByteArray
  an : Option Addr
  ln : Nat
  cn : Nat
  ai : Option Addr
  li : Nat
  ci : Nat
def V5.cells (t : V5) : List Value := [.int .i64 t.k, .int .i64 t.x, .string t.s, .slice t.an t.ln t.cn, .slice t.ai t.li t.ci]
def firsts (n q : Nat) : List (Fin n) := (List.finRange n).take q
theorem firsts_len (n q : Nat) (h : q ≤ n) : (firsts n q).length = q := by simp [firsts]; omega
theorem firsts_succ (n q : Nat) (h : q < n) : firsts n (q + 1) = firsts n q ++ [⟨q, h⟩] := by
  unfold firsts
  rw [List.take_add_one, List.getElem?_eq_getElem (by simpa using h)]
  simp
theorem firsts_all (n : Nat) : firsts n n = List.finRange n := by unfold firsts; rw [List.take_of_length_le (by simp)]
set_option maxRecDepth 100000 in
set_option maxHeartbeats 2000000 in
theorem vals_n (F : Fence) (r : Nat) (hf : F.fn 118) (hro : F.round = none) (hr : 1 ≤ r) (Bs n c : Nat) (a : Option Addr) (tf : Fin n → V5) (U : Nat → Prop) (w : World) (hBs : Bs < w.heap.size) (hn : n ≤ 4611686018427387904)
    (hc : w.cell? ⟨Bs, 0, none⟩ = some (.slice a n c)) (hs : ∀ i : Fin n, ∃ g o, a = some ⟨g, o, none⟩ ∧ U g ∧ CellsAt w g (o + i.1 * 5) (tf i).cells) :
    SeqStopsK F r Tryz.prog 118 #[.pointer (some ⟨Bs, 0, none⟩)] (fun i : Fin n => #[Value.agg (tf i).cells.toArray]) (KpU U) (fun ys => ys = List.finRange n) (fun _ => True) n w := fun l J Jx W hW hJ _ hY h0 => by
  have hc' := (hW.cell (p := ⟨Bs, 0, none⟩) hBs).trans hc
  have n0 : (0 : Int) ≤ (n : Int) := by omega
  have n1 : (n : Int) ≤ 4611686018427387904 := by omega
  refine callsIn_of_wp Tryz.func118 rfl hf ?_ hro
  simp only [Tryz.ntmps118, List.size_toArray, List.length_cons, List.length_nil, Nat.reduceAdd, Nat.reduceSub, Array.replicate_succ, Array.replicate_zero, List.push_toArray, List.append_toArray, List.nil_append, List.cons_append]
  replace hs := hid_of hs; replace hW := hid_of hW; replace hY := hid_of hY; replace hJ := hid_of hJ
  gi_wp2
  gi_loopw [4, 7] (fun _ i wr => ∃ q : Nat, q ≤ n ∧ i = .int .i64 q ∧ Hid (J (firsts n q) wr) ∧ Hid (KpU U W wr)) (fun _ i _ => n - (intOf i).toNat)
  case atStart => exact ⟨0, Nat.zero_le _, by simp, hid_of h0, hid_of (fun _ _ _ h => h)⟩
  case round =>
    obtain ⟨q, hq, rfl, hJ1, hK⟩ := hrel
    by_cases hlt : q < n
    · have i1 : (q : Int) < (n : Int) := by omega
      have i2 : (0 : Int) ≤ (q : Int) := by omega
      obtain ⟨g, o, rfl, hUg, hcl⟩ := hs.out ⟨q, hlt⟩
      have cT : ∀ e u, (tf ⟨q, hlt⟩).cells[e]? = some u → wr.cell? ⟨g, o + q * 5 + e, none⟩ = some u := fun e u he => hK.out _ _ hUg ((hW.out.cell (cell_lt (hcl e u he))).trans (hcl e u he))
      have c0 : wr.cell? ⟨g, o + q * 5, none⟩ = some (.int .i64 (tf ⟨q, hlt⟩).k) := cT 0 _ rfl
      have c1 : wr.cell? ⟨g, o + q * 5 + 1, none⟩ = some (.int .i64 (tf ⟨q, hlt⟩).x) := cT 1 _ rfl
      have c2 : wr.cell? ⟨g, o + q * 5 + 2, none⟩ = some (.string (tf ⟨q, hlt⟩).s) := cT 2 _ rfl
      have c3 : wr.cell? ⟨g, o + q * 5 + 3, none⟩ = some (.slice (tf ⟨q, hlt⟩).an (tf ⟨q, hlt⟩).ln (tf ⟨q, hlt⟩).cn) := cT 3 _ rfl
      have c4 : wr.cell? ⟨g, o + q * 5 + 4, none⟩ = some (.slice (tf ⟨q, hlt⟩).ai (tf ⟨q, hlt⟩).li (tf ⟨q, hlt⟩).ci) := cT 4 _ rfl
      clear cT hcl
      have hd : decide ((q : Int) < (n : Int)) = true := by simp; omega
      obtain ⟨X, hX⟩ : ∃ X, Hid (wr.alloc (.cells #[.int .i64 (tf ⟨q, hlt⟩).k, .int .i64 (tf ⟨q, hlt⟩).x, .string (tf ⟨q, hlt⟩).s, .slice (tf ⟨q, hlt⟩).an (tf ⟨q, hlt⟩).ln (tf ⟨q, hlt⟩).cn, .slice (tf ⟨q, hlt⟩).ai (tf ⟨q, hlt⟩).li (tf ⟨q, hlt⟩).ci] 25) = X) := ⟨_, rfl⟩
      have hJX : Hid (J (firsts n q) X) := by rw [← hX.out]; exact hJ.out _ wr _ none hJ1.out (World.grownBy_alloc wr _ none) (fun r e => by cases e)
      have hKX : Hid (KpU U W X) := by rw [← hX.out]; exact fun p u hp hc => cell_alloc' (hK.out p u hp hc) _
      obtain ⟨fn, tmps, assign, body, hy, hR⟩ := hY.out (firsts n q) ⟨q, hlt⟩ X hJX.out (by rw [firsts_len n q hq]; exact hlt)
      unfold V5.cells at hy
      have hnew : X.heap[wr.heap.size]? = some (.cells #[.int .i64 (tf ⟨q, hlt⟩).k, .int .i64 (tf ⟨q, hlt⟩).x, .string (tf ⟨q, hlt⟩).s, .slice (tf ⟨q, hlt⟩).an (tf ⟨q, hlt⟩).ln (tf ⟨q, hlt⟩).cn, .slice (tf ⟨q, hlt⟩).ai (tf ⟨q, hlt⟩).li (tf ⟨q, hlt⟩).ci] 25 (0, 0)) := by rw [← hX.out]; exact heap_alloc_new wr _
      obtain ⟨e0, e1, e2, e3, e4, -⟩ := row_cells hnew
      clear hnew
      gi_wp2_with (first | rw [hX.out] | fail)
      refine hR.mono ?_
      rintro e W3 (⟨rfl, hJ3, hk3⟩ | ⟨rfl, hJx3⟩)
      · have hJ' : Hid (J (firsts n (q + 1)) W3) := hid_of (by rw [firsts_succ n q hlt]; exact hJ3)
        have hK' : Hid (KpU U W W3) := hid_of (hKX.out.trans hk3)
        gi_wp2
        go_roundw
        case rel => exact ⟨q + 1, by omega, by go_num, hJ', hK'⟩
        case measure => simp [intOf]; omega
      · gi_wp2
        refine bodyPost_ret (results_none rfl _ _ _) rfl ?_
        exact ⟨⟨_, rfl⟩, .inr ⟨_, trivial, hJx3⟩⟩
    · obtain rfl : q = n := by omega
      have hd : decide ((q : Int) < (q : Int)) = false := by simp
      gi_wp2
      go_end0
      exact ⟨⟨_, rfl⟩, .inl ⟨_, firsts_all _, hJ1.out⟩⟩
/-- Which was chosen so far, at which place. -/
def pickF {n : Nat} (sg : Int) (tf : Fin n → Tr) (pre : List (Fin n)) : Option (Fin n) × Nat :=
  pre.zipIdx.foldl (fun b x => match b.1 with
    | none => (some x.1, x.2)
    | some y => if sg * cmpT (tf x.1) (tf y) < 0 then (some x.1, x.2) else b) (none, 0)
theorem pickF_nil {n : Nat} (sg : Int) (tf : Fin n → Tr) : pickF sg tf [] = (none, 0) := rfl
theorem pickF_snoc {n : Nat} (sg : Int) (tf : Fin n → Tr) (pre : List (Fin n)) (x : Fin n) : pickF sg tf (pre ++ [x]) = match (pickF sg tf pre).1 with
    | none => (some x, pre.length)
    | some y => if sg * cmpT (tf x) (tf y) < 0 then (some x, pre.length) else pickF sg tf pre := by
  unfold pickF
  rw [List.zipIdx_append, List.foldl_append]
  simp
theorem pickF_firsts {n : Nat} (sg : Int) (its : List Tr) (tf : Fin n → Tr) (hn : its.length = n) (htf : ∀ i : Fin n, its[i.1]? = some (tf i)) : ∀ q, 0 < q → (hq : q ≤ n) → ∃ y : Fin n, pickF sg tf (firsts n q) = (some y, y.1) ∧ y.1 = bestT sg its q
  | 0, h, _ => absurd h (by omega)
  | 1, _, hq => by
    refine ⟨⟨0, by omega⟩, ?_, ?_⟩
    · rw [firsts_succ n 0 (by omega), pickF_snoc]
      rfl
    · show 0 = bestT sg its 1
      have := bestT_lt sg its 1 (by omega) (by omega)
      unfold bestT
      split
      · unfold bestT; split <;> rfl
      · rfl
  | q + 2, _, hq => by
    obtain ⟨y, h1, h2⟩ := pickF_firsts sg its tf hn htf (q + 1) (by omega) (by omega)
    rw [firsts_succ n (q + 1) (by omega), pickF_snoc, h1, firsts_len n (q + 1) (by omega), bestT_step (htf ⟨q + 1, by omega⟩) (by rw [← h2]; exact htf y)]
    simp only
    split
    · exact ⟨⟨q + 1, by omega⟩, rfl, rfl⟩
    · exact ⟨y, rfl, h2⟩
theorem vals_any (a : Option Addr) (len cap : Nat) (w : World) : Calls Tryz.prog 89 #[.slice a len cap] w fun e w' => e = .returned (.func (.func 118) #[] #[.pointer (some ⟨w.heap.size, 0, none⟩)]) ∧ w' = w.alloc (.cells #[.slice a len cap] 23) := by
  go_enter Tryz.func89, Tryz.ntmps89
  go_wp2
  go_ret
  exact ⟨rfl, rfl⟩
/-- What the loop of chosen keeps. -/
structure Ch {n : Nat} (w : World) (sg : Int) (tt : Fin n → Tr) (tf : Fin n → V5) (pre : List (Fin n)) (b : Option (Fin n)) (p : Nat) (t : V5) : Prop where
  pick : pickF sg tt pre = (b, p)
  ifn : b = none → pre = []
  ifs : ∀ y, b = some y → 0 < pre.length ∧ t = tf y
theorem Ch.zero {n : Nat} (w : World) (sg : Int) (tt : Fin n → Tr) (tf : Fin n → V5) (t : V5) : Ch w sg tt tf [] none 0 t := ⟨rfl, fun _ => rfl, (fun y h => by cases h)⟩
theorem Ch.take {n : Nat} {w : World} {sg : Int} {tt : Fin n → Tr} {tf : Fin n → V5} {pre : List (Fin n)} {b : Option (Fin n)} {p : Nat} {t : V5} (h : Ch w sg tt tf pre b p t) (x : Fin n) (hx : ∀ y, b = some y → sg * cmpT (tt x) (tt y) < 0) : Ch w sg tt tf (pre ++ [x]) (some x) pre.length (tf x) := by
  refine ⟨?_, (fun h => by cases h), fun y hy => by cases hy; exact ⟨by simp, rfl⟩⟩
  rw [pickF_snoc, h.pick]
  cases b with
  | none => rfl
  | some y => simp only; rw [if_pos (hx y rfl)]
theorem Ch.leave {n : Nat} {w : World} {sg : Int} {tt : Fin n → Tr} {tf : Fin n → V5} {pre : List (Fin n)} {y : Fin n} {p : Nat} {t : V5} (h : Ch w sg tt tf pre (some y) p t) (x : Fin n) (hx : ¬ sg * cmpT (tt x) (tt y) < 0) : Ch w sg tt tf (pre ++ [x]) (some y) p t := by
  refine ⟨?_, (fun h => by cases h), fun z hz => by cases hz; exact ⟨by simp, (h.ifs y rfl).2⟩⟩
  rw [pickF_snoc, h.pick]
  simp only
  rw [if_neg hx]
/-- The loop's own cells, written. -/
def put7 (W : World) (N : Nat) (t : V5) (p s : Int) : World := ((put5 W (N + 1) (.int .i64 t.k) (.int .i64 t.x) (.string t.s) (.slice t.an t.ln t.cn) (.slice t.ai t.li t.ci)).setCell ⟨N + 1 + 1, 0, none⟩ (.int .i64 p)).setCell ⟨N + 1 + 1 + 1, 0, none⟩ (.int .i64 s)
theorem keep_set {W X : World} (p : Addr) (u : Value) (h : KeepsOthers W X) : KeepsOthers W (X.setCell p u) := h.trans (KeepsOthers.setCell _ _ _)
theorem kpU_set {N : Nat} {W X : World} {g : Nat} (hg : N ≤ g) (u : Value) (h : KpU (fun j => j < N) W X) : KpU (fun j => j < N) W (X.setCell ⟨g, 0, none⟩ u) := fun p v hp hc => (World.cell?_of_block (w := X) (a := p) (Below.heap_setCell _ _ _ _ (by have : p.block < N := hp; show p.block ≠ g; omega))).trans (h p v hp hc)
theorem end7 {w W X : World} {f v3 v4 : Value} {c0 c1 c2 c3 c4 : Value} (hWX : Below W.heap.size W X) (h1 : Box1 X w.heap.size f) (h2 : Row5 X (w.heap.size + 1) c0 c1 c2 c3 c4) (h3 : Box1 X (w.heap.size + 1 + 1) v3) (h4 : Box1 X (w.heap.size + 1 + 1 + 1) v4) (hB : Below w.heap.size w X) (t : V5) (p s : Int) :
    KeepsOthers W (put7 X w.heap.size t p s).drew ∧ KpU (fun j => j < w.heap.size) W (put7 X w.heap.size t p s).drew ∧ Box1 (put7 X w.heap.size t p s).drew w.heap.size f ∧ Row5 (put7 X w.heap.size t p s).drew (w.heap.size + 1) (.int .i64 t.k) (.int .i64 t.x) (.string t.s) (.slice t.an t.ln t.cn) (.slice t.ai t.li t.ci) ∧ Box1 (put7 X w.heap.size t p s).drew (w.heap.size + 1 + 1) (.int .i64 p) ∧ Box1 (put7 X w.heap.size t p s).drew (w.heap.size + 1 + 1 + 1) (.int .i64 s) ∧ Below w.heap.size w (put7 X w.heap.size t p s).drew := by
  unfold put7
  have k0 := (keepsOthers_below hWX).trans (KeepsOthers.put5 X (w.heap.size + 1) (.int .i64 t.k) (.int .i64 t.x) (.string t.s) (.slice t.an t.ln t.cn) (.slice t.ai t.li t.ci))
  have u0 : KpU (fun j => j < w.heap.size) W (put5 X (w.heap.size + 1) (.int .i64 t.k) (.int .i64 t.x) (.string t.s) (.slice t.an t.ln t.cn) (.slice t.ai t.li t.ci)) := fun p v hp hc => (World.cell?_of_block (w := X) (a := p) (put5_far _ _ _ _ _ (by have : p.block < w.heap.size := hp; omega))).trans (stay hWX hc)
  have x1 := h1.far (put5_far (w := X) (g := w.heap.size + 1) (.int .i64 t.k) (.int .i64 t.x) (.string t.s) (.slice t.an t.ln t.cn) (.slice t.ai t.li t.ci) (k := w.heap.size) (by omega))
  have x2 := h2.put (.int .i64 t.k) (.int .i64 t.x) (.string t.s) (.slice t.an t.ln t.cn) (.slice t.ai t.li t.ci)
  have x3 := h3.far (put5_far (w := X) (g := w.heap.size + 1) (.int .i64 t.k) (.int .i64 t.x) (.string t.s) (.slice t.an t.ln t.cn) (.slice t.ai t.li t.ci) (k := w.heap.size + 1 + 1) (by omega))
  have x4 := h4.far (put5_far (w := X) (g := w.heap.size + 1) (.int .i64 t.k) (.int .i64 t.x) (.string t.s) (.slice t.an t.ln t.cn) (.slice t.ai t.li t.ci) (k := w.heap.size + 1 + 1 + 1) (by omega))
  have xb := hB.trans (put5_below (w := X) (g := w.heap.size + 1) (B := w.heap.size) (by omega) (.int .i64 t.k) (.int .i64 t.x) (.string t.s) (.slice t.an t.ln t.cn) (.slice t.ai t.li t.ci))
  generalize put5 X (w.heap.size + 1) (.int .i64 t.k) (.int .i64 t.x) (.string t.s) (.slice t.an t.ln t.cn) (.slice t.ai t.li t.ci) = X5 at *
  have k1 := keep_set ⟨w.heap.size + 1 + 1, 0, none⟩ (.int .i64 p) k0
  have u1 := kpU_set (g := w.heap.size + 1 + 1) (by omega) (.int .i64 p) u0
  have y1 := x1.far (Below.heap_setCell X5 ⟨w.heap.size + 1 + 1, 0, none⟩ (.int .i64 p) w.heap.size (by show w.heap.size ≠ w.heap.size + 1 + 1; omega))
  have y2 := x2.far (Below.heap_setCell X5 ⟨w.heap.size + 1 + 1, 0, none⟩ (.int .i64 p) (w.heap.size + 1) (by show w.heap.size + 1 ≠ w.heap.size + 1 + 1; omega))
  have y3 := x3.set (.int .i64 p)
  have y4 := x4.far (Below.heap_setCell X5 ⟨w.heap.size + 1 + 1, 0, none⟩ (.int .i64 p) (w.heap.size + 1 + 1 + 1) (by show w.heap.size + 1 + 1 + 1 ≠ w.heap.size + 1 + 1; omega))
  have yb := xb.setCell (p := ⟨w.heap.size + 1 + 1, 0, none⟩) (by show w.heap.size ≤ w.heap.size + 1 + 1; omega) (.int .i64 p)
  generalize X5.setCell ⟨w.heap.size + 1 + 1, 0, none⟩ (.int .i64 p) = X6 at *
  have k2 := keep_set ⟨w.heap.size + 1 + 1 + 1, 0, none⟩ (.int .i64 s) k1
  have u2 := kpU_set (g := w.heap.size + 1 + 1 + 1) (by omega) (.int .i64 s) u1
  have z1 := y1.far (Below.heap_setCell X6 ⟨w.heap.size + 1 + 1 + 1, 0, none⟩ (.int .i64 s) w.heap.size (by show w.heap.size ≠ w.heap.size + 1 + 1 + 1; omega))
  have z2 := y2.far (Below.heap_setCell X6 ⟨w.heap.size + 1 + 1 + 1, 0, none⟩ (.int .i64 s) (w.heap.size + 1) (by show w.heap.size + 1 ≠ w.heap.size + 1 + 1 + 1; omega))
  have z3 := y3.far (Below.heap_setCell X6 ⟨w.heap.size + 1 + 1 + 1, 0, none⟩ (.int .i64 s) (w.heap.size + 1 + 1) (by show w.heap.size + 1 + 1 ≠ w.heap.size + 1 + 1 + 1; omega))
  have z4 := y4.set (.int .i64 s)
  have zb := yb.setCell (p := ⟨w.heap.size + 1 + 1 + 1, 0, none⟩) (by show w.heap.size ≤ w.heap.size + 1 + 1 + 1; omega) (.int .i64 s)
  generalize X6.setCell ⟨w.heap.size + 1 + 1 + 1, 0, none⟩ (.int .i64 s) = X7 at *
  exact ⟨⟨k2.size, k2.same⟩, u2, z1, z2, z3, z4, below_drew zb⟩
theorem end1 {w W X : World} {f v3 v4 : Value} {c0 c1 c2 c3 c4 : Value} (hWX : Below W.heap.size W X) (h1 : Box1 X w.heap.size f) (h2 : Row5 X (w.heap.size + 1) c0 c1 c2 c3 c4) (h3 : Box1 X (w.heap.size + 1 + 1) v3) (h4 : Box1 X (w.heap.size + 1 + 1 + 1) v4) (hB : Below w.heap.size w X) (s : Int) :
    KeepsOthers W (X.setCell ⟨w.heap.size + 1 + 1 + 1, 0, none⟩ (.int .i64 s)) ∧ KpU (fun j => j < w.heap.size) W (X.setCell ⟨w.heap.size + 1 + 1 + 1, 0, none⟩ (.int .i64 s)) ∧ Box1 (X.setCell ⟨w.heap.size + 1 + 1 + 1, 0, none⟩ (.int .i64 s)) w.heap.size f ∧ Row5 (X.setCell ⟨w.heap.size + 1 + 1 + 1, 0, none⟩ (.int .i64 s)) (w.heap.size + 1) c0 c1 c2 c3 c4 ∧ Box1 (X.setCell ⟨w.heap.size + 1 + 1 + 1, 0, none⟩ (.int .i64 s)) (w.heap.size + 1 + 1) v3 ∧ Box1 (X.setCell ⟨w.heap.size + 1 + 1 + 1, 0, none⟩ (.int .i64 s)) (w.heap.size + 1 + 1 + 1) (.int .i64 s) ∧ Below w.heap.size w (X.setCell ⟨w.heap.size + 1 + 1 + 1, 0, none⟩ (.int .i64 s)) :=
  ⟨keep_set _ _ (keepsOthers_below hWX), kpU_set (by omega) _ (fun p v _ hc => stay hWX hc), h1.far (Below.heap_setCell X ⟨w.heap.size + 1 + 1 + 1, 0, none⟩ (.int .i64 s) w.heap.size (by show w.heap.size ≠ w.heap.size + 1 + 1 + 1; omega)), h2.far (Below.heap_setCell X ⟨w.heap.size + 1 + 1 + 1, 0, none⟩ (.int .i64 s) (w.heap.size + 1) (by show w.heap.size + 1 ≠ w.heap.size + 1 + 1 + 1; omega)), h3.far (Below.heap_setCell X ⟨w.heap.size + 1 + 1 + 1, 0, none⟩ (.int .i64 s) (w.heap.size + 1 + 1) (by show w.heap.size + 1 + 1 ≠ w.heap.size + 1 + 1 + 1; omega)), h4.set _, hB.setCell (p := ⟨w.heap.size + 1 + 1 + 1, 0, none⟩) (by show w.heap.size ≤ w.heap.size + 1 + 1 + 1; omega) _⟩
set_option maxHeartbeats 2000000 in
set_option maxRecDepth 100000 in
theorem over_Least (t u : Tr) (cs cs' : V5) (w : World) (hV : VRep w t cs.cells) (hV' : VRep w u cs'.cells) (hS : SmallT t) (hS' : SmallT u) :
    Calls Tryz.prog 90 #[.agg cs.cells.toArray, .agg cs'.cells.toArray] w fun e w' => e = .returned (.bool (decide ((1) * cmpT t u < 0))) ∧ Below w.heap.size w w' := by
  have hb0 : ∀ o o', Below w.heap.size w ((w.alloc o).alloc o') := fun o o' => ((Below.refl _ w).alloc (Nat.le_refl _) o).alloc (by simp) o'
  have call := fun o o' => hid_of (compare_any t u _ _ ((w.alloc o).alloc o') (VRep.keep (hb0 o o') _ _ hV) (VRep.keep (hb0 o o') _ _ hV') (small_below _ hS) (small_below _ hS'))
  replace hb0 := hid_of hb0
  have hd : Hid (decide (cmpT t u < 0) = decide ((1) * cmpT t u < 0)) := by
    show decide _ = decide _
    congr 1
    apply propext
    omega
  clear hV hV'
  obtain ⟨k, x, s, an, ln, cn, ai, li, ci⟩ := cs
  obtain ⟨k', x', s', an', ln', cn', ai', li', ci'⟩ := cs'
  unfold V5.cells at *
  go_enter Tryz.func90, Tryz.ntmps90
  go_wp2_with fail
  refine (call _ _).out.mono ?_
  rintro e w1 ⟨rfl, hb1⟩
  replace hb1 := hid_of hb1
  clear call
  go_wp2_with fail
  go_ret
  exact ⟨by first | rfl | (rw [hd.out]; rfl) | (rw [← hd.out]; rfl), (hb0.out _ _).trans (hb1.out.mono (hb0.out _ _).size)⟩
set_option maxRecDepth 100000 in
set_option maxHeartbeats 8000000 in
theorem chosen_Least (Bs n c : Nat) (a : Option Addr) (its : List Tr) (w : World) (hn : its.length = n) (hnn : n ≤ 4611686018427387904) (hc : w.cell? ⟨Bs, 0, none⟩ = some (.slice a n c)) (hV : ListAt w a c its) (hS : SmallL its) :
    Calls Tryz.prog 88 #[.func (.func 118) #[] #[.pointer (some ⟨Bs, 0, none⟩)], .func (.func 90) #[] #[]] w fun e w' => e = .returned (.tuple #[.int .i64 (bestT (1) its n), .bool (decide (0 < n))]) ∧ Below w.heap.size w w' := by
  -- the items
  have hget : ∀ i : Fin n, ∃ u, its[i.1]? = some u := fun i => ⟨its[i.1]'(by rw [hn]; exact i.2), List.getElem?_eq_getElem _⟩
  obtain ⟨tt, htt⟩ : ∃ tt : Fin n → Tr, ∀ i, its[i.1]? = some (tt i) := ⟨fun i => (hget i).choose, fun i => (hget i).choose_spec⟩
  have hcells : ∀ i : Fin n, ∃ t5 : V5, (∃ g o, a = some ⟨g, o, none⟩ ∧ g < w.heap.size ∧ CellsAt w g (o + i.1 * 5) t5.cells) ∧ VRep w (tt i) t5.cells := fun i => by
    obtain ⟨b, o, k, x, s, an, ln, cn, ai, li, ci, ea, hl, h1, h2⟩ := hV.item (htt i)
    exact ⟨⟨k, x, s, an, ln, cn, ai, li, ci⟩, ⟨b, o, ea, hl, h1⟩, h2⟩
  obtain ⟨tf, htf⟩ : ∃ tf : Fin n → V5, ∀ i, (∃ g o, a = some ⟨g, o, none⟩ ∧ g < w.heap.size ∧ CellsAt w g (o + i.1 * 5) (tf i).cells) ∧ VRep w (tt i) (tf i).cells := ⟨fun i => (hcells i).choose, fun i => (hcells i).choose_spec⟩
  have over := hid_of (fun (i j : Fin n) (W : World) (hW : Below w.heap.size w W) => over_Least (tt i) (tt j) (tf i) (tf j) W (VRep.keep hW _ _ (htf i).2) (VRep.keep hW _ _ (htf j).2) (SmallL.at hS (htt i)) (SmallL.at hS (htt j)))
  have hpick := hid_of (fun q h1 h2 => pickF_firsts (1) its tt hn htt q h1 h2)
  clear hget hcells hV hS
  refine (callsIn_wide (n := 5)).1 ?_
  have hro : Fence.wide.round = none := rfl
  refine callsIn_of_wp_marks Tryz.func88 rfl trivial ?_ hro
  simp only [Tryz.ntmps88, List.size_toArray, List.length_cons, List.length_nil, Nat.reduceAdd, Nat.reduceSub, Array.replicate_succ, Array.replicate_zero, List.push_toArray, List.append_toArray, List.nil_append, List.cons_append]
  gi_wp2
  obtain ⟨W0, hW0⟩ : ∃ W0, ((((w.alloc (.cells #[.func (.func 90) #[] #[]] 32)).alloc (.cells #[.int .i64 0, .int .i64 0, .string ⟨#[]⟩, .slice none 0 0, .slice none 0 0] 25)).alloc (.cells #[.int .i64 0] 3)).alloc (.cells #[.int .i64 0] 3)) = W0 := ⟨_, rfl⟩
  have hb0 : Below w.heap.size w W0 := by rw [← hW0]; exact ((((Below.refl _ w).alloc (Nat.le_refl _) _).alloc (by simp) _).alloc (by rw [World.size_alloc, World.size_alloc]; omega) _).alloc (by rw [World.size_alloc, World.size_alloc, World.size_alloc]; omega) _
  have hsz : W0.heap.size = w.heap.size + 4 := by rw [← hW0]; simp
  have r0 : W0.heap[w.heap.size]? = some (.cells #[.func (.func 90) #[] #[]] 32) := by rw [← hW0, Below.heap_alloc _ _ _ (by rw [World.size_alloc, World.size_alloc, World.size_alloc]; omega), Below.heap_alloc _ _ _ (by rw [World.size_alloc, World.size_alloc]; omega)]; exact new1 w _ _
  have r1 : W0.heap[w.heap.size + 1]? = some (.cells #[.int .i64 0, .int .i64 0, .string ⟨#[]⟩, .slice none 0 0, .slice none 0 0] 25) := by rw [← hW0, Below.heap_alloc _ _ _ (by rw [World.size_alloc, World.size_alloc, World.size_alloc]; omega), Below.heap_alloc _ _ _ (by rw [World.size_alloc, World.size_alloc]; omega)]; exact new2 w _ _
  have r2 : W0.heap[w.heap.size + 1 + 1]? = some (.cells #[.int .i64 0] 3) := by rw [← hW0, Below.heap_alloc _ _ _ (by simp)]; exact heap_new' (by simp)
  have r3 : W0.heap[w.heap.size + 1 + 1 + 1]? = some (.cells #[.int .i64 0] 3) := by rw [← hW0]; exact heap_new' (by simp)
  rw [hW0]
  clear hW0
  have hBs : Bs < w.heap.size := lt_of_cell hc
  have sB := stay hb0 hc
  refine wpIn_rangeFunc_ownH hro (by decide) (gf := 118) (lb := #[.pointer (some ⟨Bs, 0, none⟩)]) rfl trivial (enters_of Tryz.func118 (by kernel_rfl) rfl)
    (vals_n Fence.wide _ trivial hro (by decide) Bs n c a tf (fun j => j < w.heap.size) W0 (by omega) hnn sB (fun i => by obtain ⟨⟨g, o, ea, hl, h1⟩, -⟩ := htf i; exact ⟨g, o, ea, hl, h1.keep hb0 hl⟩)) KpU.trans (fun W l o o' hl ho hc _ p u _ hu => cell_kept hu (grownBy_putObj' W l o') (fun r e => by cases e; exact ⟨o, ho, hc⟩)) (Below.refl _ _) (fun _ => rfl)
    (fun pre W => (∃ (b : Option (Fin n)) (p : Nat) (t : V5), Ch w (1) tt tf pre b p t ∧ Box1 W w.heap.size (.func (.func 90) #[] #[]) ∧ Row5 W (w.heap.size + 1) (.int .i64 t.k) (.int .i64 t.x) (.string t.s) (.slice t.an t.ln t.cn) (.slice t.ai t.li t.ci) ∧ Box1 W (w.heap.size + 1 + 1) (.int .i64 p) ∧ Box1 W (w.heap.size + 1 + 1 + 1) (.int .i64 pre.length)) ∧ Below w.heap.size w W)
    (fun _ _ _ => False) ?own (fun _ _ _ _ _ hs _ _ => hs) ?start
    (fun i a' W => ∃ Bx, w.heap.size + 1 + 1 + 1 < Bx ∧ W.heap[Bx]? = some (.cells (tf i).cells.toArray 25 (0, 0)) ∧ a' = { tmps := #[.func (.func 118) #[] #[.pointer (some ⟨Bs, 0, none⟩)], .func (.func 90) #[] #[], undef, .pointer (some ⟨w.heap.size, 0, none⟩), .int .i64 0, .bool false, .pointer (some ⟨w.heap.size + 1, 0, none⟩), .pointer (some ⟨w.heap.size + 1 + 1, 0, none⟩), .pointer (some ⟨w.heap.size + 1 + 1 + 1, 0, none⟩), .pointer (some ⟨Bx, 0, none⟩), .func (.func 118) #[] #[.pointer (some ⟨Bs, 0, none⟩)], .agg (tf i).cells.toArray, undef, undef, undef, undef, undef, undef, undef, undef, undef, undef, undef, undef, undef, undef, undef], defers := [] })
    ?ownA ?assign ?body ?done ?stop
  case own =>
    refine OwnFrom.and (Own.from (fun pre A B row hs hg hr => ?_) _) (ownFrom_below (Nat.le_refl _) (by omega))
    obtain ⟨b, p, t, h0, h1, h2, h3, h4⟩ := hs
    exact ⟨b, p, t, h0, h1.own hg hr, h2.own hg hr, h3.own hg hr, h4.own hg hr⟩
  case start => exact ⟨⟨none, 0, ⟨0, 0, ⟨#[]⟩, none, 0, 0, none, 0, 0⟩, Ch.zero _ _ _ _ _, box1_of r0, row5_of r1, box1_of r2, box1_of r3⟩, hb0⟩
  case ownA =>
    rintro i a' _ A B row ⟨Bx, h1, h2, h3⟩ hg hr
    refine ⟨Bx, h1, (hg.block Bx (Array.getElem?_eq_some_iff.1 h2).1 (fun e => ?_)).trans h2, h3⟩
    obtain ⟨_, o, ho, hc⟩ := hr Bx e.symm
    rw [h2] at ho; cases ho; cases hc
  case assign =>
    rintro l pre i W K hI hK
    obtain ⟨⟨b, p, t, h0, h1, h2, h3, h4⟩, hB⟩ := hI
    unfold V5.cells at *
    gi_wp2
    exact hK _ _ ((KeepsOthers.alloc _ _).from _) (fun p u _ hu => cell_alloc' hu _) ⟨⟨b, p, t, h0, h1.alloc _, h2.alloc _, h3.alloc _, h4.alloc _⟩, hB.alloc hB.size _⟩ ⟨W.heap.size, h4.lt, heap_alloc_new W _, rfl⟩
  case body =>
    rintro l pre i a' W hl ⟨r, hr⟩ ⟨⟨b, p, t, h0, h1, h2, h3, h4⟩, hB⟩ ⟨Bx, hBx, bX, rfl⟩ hlt
    obtain ⟨q0, q1, q2, q3, q4, -⟩ := row_cells bX
    obtain ⟨⟨y0, f0⟩, ⟨y1, f1⟩, ⟨y2, f2⟩, ⟨y3, f3⟩, ⟨y4, f4⟩⟩ := id h2
    obtain ⟨o0, of⟩ := id h1
    obtain ⟨p0, pf⟩ := id h3
    obtain ⟨s0, sf⟩ := id h4
    have hpl : pre.length < n := hlt
    have l0 : (0 : Int) ≤ (pre.length : Int) := by omega
    have l1 : (pre.length : Int) ≤ 4611686018427387904 := by omega
    replace h0 := hid_of h0
    replace htf := hid_of htf
    replace htt := hid_of htt
    cases b with
    | none =>
      have hz : Hid (pre = []) := h0.out.ifn rfl
      have hpe := hz.out
      subst hpe
      have s0' : W.cell? ⟨w.heap.size + 1 + 1 + 1, 0, none⟩ = some (.int .i64 0) := s0
      clear s0
      have hch := hid_of (h0.out.take i (fun y h => by cases h))
      gi_wp2
      refine ⟨(fun f h => by cases h), ?_⟩
      rename_i hK xx hh ww heq
      apply hK
      clear hK heq
      gi_wp2
      gi_region
      all_goals
        gi_wp2
        obtain ⟨e1, e2, e3, e4, e5, e6, e7⟩ := end7 (Below.refl _ W) h1 h2 h3 h4 hB (tf i) 0 1
        exact ⟨e1.from _, e2, ⟨some i, 0, tf i, hch.out, e3, e4, e5, e6⟩, e7⟩
    | some y =>
      have hz : Hid (0 < pre.length ∧ t = tf y) := h0.out.ifs y rfl
      have lz : ¬ (pre.length : Int) = 0 := by have := hz.out.1; omega
      have lz2 : ((pre.length : Int) == 0) = false := by simpa using lz
      obtain ⟨hz1, hz2⟩ := hz.out
      subst hz2
      clear hz
      have hcall := hid_of (over.out i y W hB)
      unfold V5.cells at hcall
      have el : Hid ((pre.length : Int) + 1 = (((pre ++ [i]).length : Nat) : Int)) := by show _ = _; simp
      gi_wp2
      refine ⟨trivial, (CallsIn.inRound l (callsIn_wide.2 hcall.out)).mono ?_⟩
      rintro e w2 ⟨rfl, hb2⟩
      have h1' := h1.far (hb2.block _ h1.lt)
      have h2' := h2.far (hb2.block _ h2.lt)
      have h3' := h3.far (hb2.block _ h3.lt)
      have h4' := h4.far (hb2.block _ h4.lt)
      have hB' : Below w.heap.size w w2 := hB.trans (hb2.mono hB.size)
      replace q0 := stay hb2 q0
      replace q1 := stay hb2 q1
      replace q2 := stay hb2 q2
      replace q3 := stay hb2 q3
      replace q4 := stay hb2 q4
      obtain ⟨⟨b0, d0⟩, ⟨b1, d1⟩, ⟨b2, d2⟩, ⟨b3, d3⟩, ⟨b4, d4⟩⟩ := id h2'
      obtain ⟨p0', pf'⟩ := id h3'
      obtain ⟨s0', sf'⟩ := id h4'
      replace hb2 := hid_of hb2
      replace hB' := hid_of hB'
      by_cases hcz : (1) * cmpT (tt i) (tt y) < 0
      · have hch := hid_of (h0.out.take i (fun z hz => by cases hz; exact hcz))
        rw [decide_eq_true hcz]
        clear hcz y0 y1 y2 y3 y4 f0 f1 f2 f3 f4 o0 of p0 pf s0 sf hcall
        gi_wp2
        gi_region
        all_goals
          gi_wp2
          rw [el.out]
          obtain ⟨e1, e2, e3, e4, e5, e6, e7⟩ := end7 hb2.out h1' h2' h3' h4' hB'.out (tf i) pre.length ((pre ++ [i]).length : Nat)
          exact ⟨e1.from _, e2, ⟨some i, pre.length, tf i, hch.out, e3, e4, e5, e6⟩, e7⟩
      · have hch := hid_of (h0.out.leave i hcz)
        rw [decide_eq_false hcz]
        clear hcz y0 y1 y2 y3 y4 f0 f1 f2 f3 f4 o0 of p0 pf s0 sf hcall
        gi_wp2
        rw [el.out]
        obtain ⟨e1, e2, e3, e4, e5, e6, e7⟩ := end1 hb2.out h1' h2' h3' h4' hB'.out ((pre ++ [i]).length : Nat)
        exact ⟨e1.from _, e2, ⟨some y, p, tf y, hch.out, e3, e4, e5, e6⟩, e7⟩
  case done =>
    rintro D ys W hD rfl ⟨⟨b, p, t, h0, h1, h2, h3, h4⟩, hB⟩ hK
    obtain ⟨p0, pf⟩ := id h3
    obtain ⟨s0, sf⟩ := id h4
    rw [List.length_finRange] at s0
    have hp : Hid (p = bestT (1) its n) := by
      show p = _
      by_cases h9 : n = 0
      · have e1 := h0.pick
        subst h9
        have e2 := congrArg Prod.snd e1
        simp only [List.finRange_zero, pickF_nil] at e2
        rw [← e2]
        rfl
      · obtain ⟨y, e1, e2⟩ := hpick.out n (by omega) (Nat.le_refl _)
        rw [firsts_all, h0.pick] at e1
        have e3 := congrArg Prod.snd e1
        simp only at e3
        rw [e3, e2]
    have hd : Hid (decide ((0 : Int) < (n : Int)) = decide (0 < n)) := by show decide _ = decide _; congr 1; simp
    clear h0 over hpick htf htt
    gi_wp2
    gi_region
    all_goals
      gi_wp2
      have hB' : Below w.heap.size w W.drew := below_drew hB
      have hK' : W.drew.heap[D]? = some (.deferred (some [])) := hK
      clear hK hB h1 h2 h3 h4 p0 s0 pf sf
      generalize W.drew = Wp at hB' hK' ⊢
      refine ⟨by simp, .inl ⟨_, _, rfl, run_takeDeferred hK', ?_⟩⟩
      have hBf := hB'.trans (belowK_b (w := w) (Nat.le_refl _) _ D _ (.deferred none) (by omega) hK' rfl rfl)
      generalize Wp.putObj D (.deferred none) = Wf at *
      exact ⟨.tuple #[.int .i64 p, .bool (decide ((0 : Int) < (n : Int)))], by simp [results, Tryz.results88, go_sem], by rw [hp.out, hd.out], hBf⟩
  case stop =>
    rintro D c pre W _ _ h _
    exact h.elim
set_option maxHeartbeats 2000000 in
set_option maxRecDepth 100000 in
theorem over_Greatest (t u : Tr) (cs cs' : V5) (w : World) (hV : VRep w t cs.cells) (hV' : VRep w u cs'.cells) (hS : SmallT t) (hS' : SmallT u) :
    Calls Tryz.prog 91 #[.agg cs.cells.toArray, .agg cs'.cells.toArray] w fun e w' => e = .returned (.bool (decide ((-1) * cmpT t u < 0))) ∧ Below w.heap.size w w' := by
  have hb0 : ∀ o o', Below w.heap.size w ((w.alloc o).alloc o') := fun o o' => ((Below.refl _ w).alloc (Nat.le_refl _) o).alloc (by simp) o'
  have call := fun o o' => hid_of (compare_any t u _ _ ((w.alloc o).alloc o') (VRep.keep (hb0 o o') _ _ hV) (VRep.keep (hb0 o o') _ _ hV') (small_below _ hS) (small_below _ hS'))
  replace hb0 := hid_of hb0
  have hd : Hid (decide (cmpT t u > 0) = decide ((-1) * cmpT t u < 0)) := by
    show decide _ = decide _
    congr 1
    apply propext
    omega
  clear hV hV'
  obtain ⟨k, x, s, an, ln, cn, ai, li, ci⟩ := cs
  obtain ⟨k', x', s', an', ln', cn', ai', li', ci'⟩ := cs'
  unfold V5.cells at *
  go_enter Tryz.func91, Tryz.ntmps91
  go_wp2_with fail
  refine (call _ _).out.mono ?_
  rintro e w1 ⟨rfl, hb1⟩
  replace hb1 := hid_of hb1
  clear call
  go_wp2_with fail
  go_ret
  exact ⟨by first | rfl | (rw [hd.out]; rfl) | (rw [← hd.out]; rfl), (hb0.out _ _).trans (hb1.out.mono (hb0.out _ _).size)⟩
set_option maxRecDepth 100000 in
set_option maxHeartbeats 8000000 in
theorem chosen_Greatest (Bs n c : Nat) (a : Option Addr) (its : List Tr) (w : World) (hn : its.length = n) (hnn : n ≤ 4611686018427387904) (hc : w.cell? ⟨Bs, 0, none⟩ = some (.slice a n c)) (hV : ListAt w a c its) (hS : SmallL its) :
    Calls Tryz.prog 88 #[.func (.func 118) #[] #[.pointer (some ⟨Bs, 0, none⟩)], .func (.func 91) #[] #[]] w fun e w' => e = .returned (.tuple #[.int .i64 (bestT (-1) its n), .bool (decide (0 < n))]) ∧ Below w.heap.size w w' := by
  -- the items
  have hget : ∀ i : Fin n, ∃ u, its[i.1]? = some u := fun i => ⟨its[i.1]'(by rw [hn]; exact i.2), List.getElem?_eq_getElem _⟩
  obtain ⟨tt, htt⟩ : ∃ tt : Fin n → Tr, ∀ i, its[i.1]? = some (tt i) := ⟨fun i => (hget i).choose, fun i => (hget i).choose_spec⟩
  have hcells : ∀ i : Fin n, ∃ t5 : V5, (∃ g o, a = some ⟨g, o, none⟩ ∧ g < w.heap.size ∧ CellsAt w g (o + i.1 * 5) t5.cells) ∧ VRep w (tt i) t5.cells := fun i => by
    obtain ⟨b, o, k, x, s, an, ln, cn, ai, li, ci, ea, hl, h1, h2⟩ := hV.item (htt i)
    exact ⟨⟨k, x, s, an, ln, cn, ai, li, ci⟩, ⟨b, o, ea, hl, h1⟩, h2⟩
  obtain ⟨tf, htf⟩ : ∃ tf : Fin n → V5, ∀ i, (∃ g o, a = some ⟨g, o, none⟩ ∧ g < w.heap.size ∧ CellsAt w g (o + i.1 * 5) (tf i).cells) ∧ VRep w (tt i) (tf i).cells := ⟨fun i => (hcells i).choose, fun i => (hcells i).choose_spec⟩
  have over := hid_of (fun (i j : Fin n) (W : World) (hW : Below w.heap.size w W) => over_Greatest (tt i) (tt j) (tf i) (tf j) W (VRep.keep hW _ _ (htf i).2) (VRep.keep hW _ _ (htf j).2) (SmallL.at hS (htt i)) (SmallL.at hS (htt j)))
  have hpick := hid_of (fun q h1 h2 => pickF_firsts (-1) its tt hn htt q h1 h2)
  clear hget hcells hV hS
  refine (callsIn_wide (n := 5)).1 ?_
  have hro : Fence.wide.round = none := rfl
  refine callsIn_of_wp_marks Tryz.func88 rfl trivial ?_ hro
  simp only [Tryz.ntmps88, List.size_toArray, List.length_cons, List.length_nil, Nat.reduceAdd, Nat.reduceSub, Array.replicate_succ, Array.replicate_zero, List.push_toArray, List.append_toArray, List.nil_append, List.cons_append]
  gi_wp2
  obtain ⟨W0, hW0⟩ : ∃ W0, ((((w.alloc (.cells #[.func (.func 91) #[] #[]] 32)).alloc (.cells #[.int .i64 0, .int .i64 0, .string ⟨#[]⟩, .slice none 0 0, .slice none 0 0] 25)).alloc (.cells #[.int .i64 0] 3)).alloc (.cells #[.int .i64 0] 3)) = W0 := ⟨_, rfl⟩
  have hb0 : Below w.heap.size w W0 := by rw [← hW0]; exact ((((Below.refl _ w).alloc (Nat.le_refl _) _).alloc (by simp) _).alloc (by rw [World.size_alloc, World.size_alloc]; omega) _).alloc (by rw [World.size_alloc, World.size_alloc, World.size_alloc]; omega) _
  have hsz : W0.heap.size = w.heap.size + 4 := by rw [← hW0]; simp
  have r0 : W0.heap[w.heap.size]? = some (.cells #[.func (.func 91) #[] #[]] 32) := by rw [← hW0, Below.heap_alloc _ _ _ (by rw [World.size_alloc, World.size_alloc, World.size_alloc]; omega), Below.heap_alloc _ _ _ (by rw [World.size_alloc, World.size_alloc]; omega)]; exact new1 w _ _
  have r1 : W0.heap[w.heap.size + 1]? = some (.cells #[.int .i64 0, .int .i64 0, .string ⟨#[]⟩, .slice none 0 0, .slice none 0 0] 25) := by rw [← hW0, Below.heap_alloc _ _ _ (by rw [World.size_alloc, World.size_alloc, World.size_alloc]; omega), Below.heap_alloc _ _ _ (by rw [World.size_alloc, World.size_alloc]; omega)]; exact new2 w _ _
  have r2 : W0.heap[w.heap.size + 1 + 1]? = some (.cells #[.int .i64 0] 3) := by rw [← hW0, Below.heap_alloc _ _ _ (by simp)]; exact heap_new' (by simp)
  have r3 : W0.heap[w.heap.size + 1 + 1 + 1]? = some (.cells #[.int .i64 0] 3) := by rw [← hW0]; exact heap_new' (by simp)
  rw [hW0]
  clear hW0
  have hBs : Bs < w.heap.size := lt_of_cell hc
  have sB := stay hb0 hc
  refine wpIn_rangeFunc_ownH hro (by decide) (gf := 118) (lb := #[.pointer (some ⟨Bs, 0, none⟩)]) rfl trivial (enters_of Tryz.func118 (by kernel_rfl) rfl)
    (vals_n Fence.wide _ trivial hro (by decide) Bs n c a tf (fun j => j < w.heap.size) W0 (by omega) hnn sB (fun i => by obtain ⟨⟨g, o, ea, hl, h1⟩, -⟩ := htf i; exact ⟨g, o, ea, hl, h1.keep hb0 hl⟩)) KpU.trans (fun W l o o' hl ho hc _ p u _ hu => cell_kept hu (grownBy_putObj' W l o') (fun r e => by cases e; exact ⟨o, ho, hc⟩)) (Below.refl _ _) (fun _ => rfl)
    (fun pre W => (∃ (b : Option (Fin n)) (p : Nat) (t : V5), Ch w (-1) tt tf pre b p t ∧ Box1 W w.heap.size (.func (.func 91) #[] #[]) ∧ Row5 W (w.heap.size + 1) (.int .i64 t.k) (.int .i64 t.x) (.string t.s) (.slice t.an t.ln t.cn) (.slice t.ai t.li t.ci) ∧ Box1 W (w.heap.size + 1 + 1) (.int .i64 p) ∧ Box1 W (w.heap.size + 1 + 1 + 1) (.int .i64 pre.length)) ∧ Below w.heap.size w W)
    (fun _ _ _ => False) ?own (fun _ _ _ _ _ hs _ _ => hs) ?start
    (fun i a' W => ∃ Bx, w.heap.size + 1 + 1 + 1 < Bx ∧ W.heap[Bx]? = some (.cells (tf i).cells.toArray 25 (0, 0)) ∧ a' = { tmps := #[.func (.func 118) #[] #[.pointer (some ⟨Bs, 0, none⟩)], .func (.func 91) #[] #[], undef, .pointer (some ⟨w.heap.size, 0, none⟩), .int .i64 0, .bool false, .pointer (some ⟨w.heap.size + 1, 0, none⟩), .pointer (some ⟨w.heap.size + 1 + 1, 0, none⟩), .pointer (some ⟨w.heap.size + 1 + 1 + 1, 0, none⟩), .pointer (some ⟨Bx, 0, none⟩), .func (.func 118) #[] #[.pointer (some ⟨Bs, 0, none⟩)], .agg (tf i).cells.toArray, undef, undef, undef, undef, undef, undef, undef, undef, undef, undef, undef, undef, undef, undef, undef], defers := [] })
    ?ownA ?assign ?body ?done ?stop
  case own =>
    refine OwnFrom.and (Own.from (fun pre A B row hs hg hr => ?_) _) (ownFrom_below (Nat.le_refl _) (by omega))
    obtain ⟨b, p, t, h0, h1, h2, h3, h4⟩ := hs
    exact ⟨b, p, t, h0, h1.own hg hr, h2.own hg hr, h3.own hg hr, h4.own hg hr⟩
  case start => exact ⟨⟨none, 0, ⟨0, 0, ⟨#[]⟩, none, 0, 0, none, 0, 0⟩, Ch.zero _ _ _ _ _, box1_of r0, row5_of r1, box1_of r2, box1_of r3⟩, hb0⟩
  case ownA =>
    rintro i a' _ A B row ⟨Bx, h1, h2, h3⟩ hg hr
    refine ⟨Bx, h1, (hg.block Bx (Array.getElem?_eq_some_iff.1 h2).1 (fun e => ?_)).trans h2, h3⟩
    obtain ⟨_, o, ho, hc⟩ := hr Bx e.symm
    rw [h2] at ho; cases ho; cases hc
  case assign =>
    rintro l pre i W K hI hK
    obtain ⟨⟨b, p, t, h0, h1, h2, h3, h4⟩, hB⟩ := hI
    unfold V5.cells at *
    gi_wp2
    exact hK _ _ ((KeepsOthers.alloc _ _).from _) (fun p u _ hu => cell_alloc' hu _) ⟨⟨b, p, t, h0, h1.alloc _, h2.alloc _, h3.alloc _, h4.alloc _⟩, hB.alloc hB.size _⟩ ⟨W.heap.size, h4.lt, heap_alloc_new W _, rfl⟩
  case body =>
    rintro l pre i a' W hl ⟨r, hr⟩ ⟨⟨b, p, t, h0, h1, h2, h3, h4⟩, hB⟩ ⟨Bx, hBx, bX, rfl⟩ hlt
    obtain ⟨q0, q1, q2, q3, q4, -⟩ := row_cells bX
    obtain ⟨⟨y0, f0⟩, ⟨y1, f1⟩, ⟨y2, f2⟩, ⟨y3, f3⟩, ⟨y4, f4⟩⟩ := id h2
    obtain ⟨o0, of⟩ := id h1
    obtain ⟨p0, pf⟩ := id h3
    obtain ⟨s0, sf⟩ := id h4
    have hpl : pre.length < n := hlt
    have l0 : (0 : Int) ≤ (pre.length : Int) := by omega
    have l1 : (pre.length : Int) ≤ 4611686018427387904 := by omega
    replace h0 := hid_of h0
    replace htf := hid_of htf
    replace htt := hid_of htt
    cases b with
    | none =>
      have hz : Hid (pre = []) := h0.out.ifn rfl
      have hpe := hz.out
      subst hpe
      have s0' : W.cell? ⟨w.heap.size + 1 + 1 + 1, 0, none⟩ = some (.int .i64 0) := s0
      clear s0
      have hch := hid_of (h0.out.take i (fun y h => by cases h))
      gi_wp2
      refine ⟨(fun f h => by cases h), ?_⟩
      rename_i hK xx hh ww heq
      apply hK
      clear hK heq
      gi_wp2
      gi_region
      all_goals
        gi_wp2
        obtain ⟨e1, e2, e3, e4, e5, e6, e7⟩ := end7 (Below.refl _ W) h1 h2 h3 h4 hB (tf i) 0 1
        exact ⟨e1.from _, e2, ⟨some i, 0, tf i, hch.out, e3, e4, e5, e6⟩, e7⟩
    | some y =>
      have hz : Hid (0 < pre.length ∧ t = tf y) := h0.out.ifs y rfl
      have lz : ¬ (pre.length : Int) = 0 := by have := hz.out.1; omega
      have lz2 : ((pre.length : Int) == 0) = false := by simpa using lz
      obtain ⟨hz1, hz2⟩ := hz.out
      subst hz2
      clear hz
      have hcall := hid_of (over.out i y W hB)
      unfold V5.cells at hcall
      have el : Hid ((pre.length : Int) + 1 = (((pre ++ [i]).length : Nat) : Int)) := by show _ = _; simp
      gi_wp2
      refine ⟨trivial, (CallsIn.inRound l (callsIn_wide.2 hcall.out)).mono ?_⟩
      rintro e w2 ⟨rfl, hb2⟩
      have h1' := h1.far (hb2.block _ h1.lt)
      have h2' := h2.far (hb2.block _ h2.lt)
      have h3' := h3.far (hb2.block _ h3.lt)
      have h4' := h4.far (hb2.block _ h4.lt)
      have hB' : Below w.heap.size w w2 := hB.trans (hb2.mono hB.size)
      replace q0 := stay hb2 q0
      replace q1 := stay hb2 q1
      replace q2 := stay hb2 q2
      replace q3 := stay hb2 q3
      replace q4 := stay hb2 q4
      obtain ⟨⟨b0, d0⟩, ⟨b1, d1⟩, ⟨b2, d2⟩, ⟨b3, d3⟩, ⟨b4, d4⟩⟩ := id h2'
      obtain ⟨p0', pf'⟩ := id h3'
      obtain ⟨s0', sf'⟩ := id h4'
      replace hb2 := hid_of hb2
      replace hB' := hid_of hB'
      by_cases hcz : (-1) * cmpT (tt i) (tt y) < 0
      · have hch := hid_of (h0.out.take i (fun z hz => by cases hz; exact hcz))
        rw [decide_eq_true hcz]
        clear hcz y0 y1 y2 y3 y4 f0 f1 f2 f3 f4 o0 of p0 pf s0 sf hcall
        gi_wp2
        gi_region
        all_goals
          gi_wp2
          rw [el.out]
          obtain ⟨e1, e2, e3, e4, e5, e6, e7⟩ := end7 hb2.out h1' h2' h3' h4' hB'.out (tf i) pre.length ((pre ++ [i]).length : Nat)
          exact ⟨e1.from _, e2, ⟨some i, pre.length, tf i, hch.out, e3, e4, e5, e6⟩, e7⟩
      · have hch := hid_of (h0.out.leave i hcz)
        rw [decide_eq_false hcz]
        clear hcz y0 y1 y2 y3 y4 f0 f1 f2 f3 f4 o0 of p0 pf s0 sf hcall
        gi_wp2
        rw [el.out]
        obtain ⟨e1, e2, e3, e4, e5, e6, e7⟩ := end1 hb2.out h1' h2' h3' h4' hB'.out ((pre ++ [i]).length : Nat)
        exact ⟨e1.from _, e2, ⟨some y, p, tf y, hch.out, e3, e4, e5, e6⟩, e7⟩
  case done =>
    rintro D ys W hD rfl ⟨⟨b, p, t, h0, h1, h2, h3, h4⟩, hB⟩ hK
    obtain ⟨p0, pf⟩ := id h3
    obtain ⟨s0, sf⟩ := id h4
    rw [List.length_finRange] at s0
    have hp : Hid (p = bestT (-1) its n) := by
      show p = _
      by_cases h9 : n = 0
      · have e1 := h0.pick
        subst h9
        have e2 := congrArg Prod.snd e1
        simp only [List.finRange_zero, pickF_nil] at e2
        rw [← e2]
        rfl
      · obtain ⟨y, e1, e2⟩ := hpick.out n (by omega) (Nat.le_refl _)
        rw [firsts_all, h0.pick] at e1
        have e3 := congrArg Prod.snd e1
        simp only at e3
        rw [e3, e2]
    have hd : Hid (decide ((0 : Int) < (n : Int)) = decide (0 < n)) := by show decide _ = decide _; congr 1; simp
    clear h0 over hpick htf htt
    gi_wp2
    gi_region
    all_goals
      gi_wp2
      have hB' : Below w.heap.size w W.drew := below_drew hB
      have hK' : W.drew.heap[D]? = some (.deferred (some [])) := hK
      clear hK hB h1 h2 h3 h4 p0 s0 pf sf
      generalize W.drew = Wp at hB' hK' ⊢
      refine ⟨by simp, .inl ⟨_, _, rfl, run_takeDeferred hK', ?_⟩⟩
      have hBf := hB'.trans (belowK_b (w := w) (Nat.le_refl _) _ D _ (.deferred none) (by omega) hK' rfl rfl)
      generalize Wp.putObj D (.deferred none) = Wf at *
      exact ⟨.tuple #[.int .i64 p, .bool (decide ((0 : Int) < (n : Int)))], by simp [results, Tryz.results88, go_sem], by rw [hp.out, hd.out], hBf⟩
  case stop =>
    rintro D c pre W _ _ h _
    exact h.elim
set_option maxHeartbeats 2000000 in
theorem oleast_any (a : Option Addr) (c n : Nat) (its : List Tr) (w : World) (hn : its.length = n) (hnn : n ≤ 4611686018427387904) (hV : ListAt w a c its) (hS : SmallL its) : Calls Tryz.prog 56 #[.slice a n c] w fun e w' => e = .returned (.tuple #[.int .i64 (bestT (1) its n), .bool (decide (0 < n))]) ∧ Below w.heap.size w w' := by
  have HB : Below w.heap.size w (w.alloc (.cells #[.slice a n c] 23)) := (Below.refl _ w).alloc (Nat.le_refl _) _
  have hc := hid_of (chosen_Least w.heap.size n c a its _ hn hnn (by unfold World.cell?; rw [heap_alloc_new w]; rfl) (hV.keep HB) hS)
  replace HB := hid_of HB
  clear hV hS
  go_enter Tryz.func56, Tryz.ntmps56
  go_wp2_with (first | (go_at_call 89; refine (vals_any _ _ _ _).mono ?_; rintro e w1 ⟨rfl, rfl⟩) | (go_at_call 88; refine hc.out.mono ?_; rintro e w2 ⟨rfl, hb⟩; replace hb := hid_of hb))
  go_ret2
  exact ⟨rfl, HB.out.trans (hb.out.mono HB.out.size)⟩
set_option maxHeartbeats 2000000 in
theorem ogreatest_any (a : Option Addr) (c n : Nat) (its : List Tr) (w : World) (hn : its.length = n) (hnn : n ≤ 4611686018427387904) (hV : ListAt w a c its) (hS : SmallL its) : Calls Tryz.prog 57 #[.slice a n c] w fun e w' => e = .returned (.tuple #[.int .i64 (bestT (-1) its n), .bool (decide (0 < n))]) ∧ Below w.heap.size w w' := by
  have HB : Below w.heap.size w (w.alloc (.cells #[.slice a n c] 23)) := (Below.refl _ w).alloc (Nat.le_refl _) _
  have hc := hid_of (chosen_Greatest w.heap.size n c a its _ hn hnn (by unfold World.cell?; rw [heap_alloc_new w]; rfl) (hV.keep HB) hS)
  replace HB := hid_of HB
  clear hV hS
  go_enter Tryz.func57, Tryz.ntmps57
  go_wp2_with (first | (go_at_call 89; refine (vals_any _ _ _ _).mono ?_; rintro e w1 ⟨rfl, rfl⟩) | (go_at_call 88; refine hc.out.mono ?_; rintro e w2 ⟨rfl, hb⟩; replace hb := hid_of hb))
  go_ret2
  exact ⟨rfl, HB.out.trans (hb.out.mono HB.out.size)⟩
end Go.Proofs.YtgigikcopedoeaaGreat.Tree
