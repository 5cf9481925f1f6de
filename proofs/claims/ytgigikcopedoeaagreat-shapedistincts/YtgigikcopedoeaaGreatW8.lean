import Derived.Test.YtgigikcopedoeaaGreatW6
import Derived.RangeFuncNested
import Derived.RangeFuncBound
import Derived.RangeFuncCalls
import Derived.RangeFuncLeaves
import Derived.Shelf.Abstract
import Derived.Shelf.RegionOpen
import Derived.OwnWalkIn
import Derived.TacticsInMore
import Derived.LoopNIn
import Derived.LoopIn
/-! The least and the greatest of one number. -/
namespace Go.Proofs.YtgigikcopedoeaaGreat
open Go Go.RowKit Go.Shelf
attribute [local go_sem] Oper.semAt_some

/-- Five cells that nobody shares. -/
def Row5 (W : World) (B : Nat) (c0 c1 c2 c3 c4 : Value) : Prop :=
  (W.cell? ⟨B, 0, none⟩ = some c0 ∧ W.frozen? ⟨B, 0, none⟩ = false) ∧ (W.cell? ⟨B, 1, none⟩ = some c1 ∧ W.frozen? ⟨B, 1, none⟩ = false) ∧ (W.cell? ⟨B, 2, none⟩ = some c2 ∧ W.frozen? ⟨B, 2, none⟩ = false) ∧ (W.cell? ⟨B, 3, none⟩ = some c3 ∧ W.frozen? ⟨B, 3, none⟩ = false) ∧ (W.cell? ⟨B, 4, none⟩ = some c4 ∧ W.frozen? ⟨B, 4, none⟩ = false)
theorem Row5.own {A B : World} {row : Option Nat} {g : Nat} {c0 c1 c2 c3 c4 : Value} (h : Row5 A g c0 c1 c2 c3 c4) (hg : A.grownBy B row) (hr : ∀ r, row = some r → ∃ o, A.heap[r]? = some o ∧ o.isCells = false) : Row5 B g c0 c1 c2 c3 c4 := by
  obtain ⟨⟨y0, f0⟩, ⟨y1, f1⟩, ⟨y2, f2⟩, ⟨y3, f3⟩, ⟨y4, f4⟩⟩ := h
  exact ⟨⟨cell_kept y0 hg hr, (frozen_kept y0 hg hr).trans f0⟩, ⟨cell_kept y1 hg hr, (frozen_kept y1 hg hr).trans f1⟩, ⟨cell_kept y2 hg hr, (frozen_kept y2 hg hr).trans f2⟩, ⟨cell_kept y3 hg hr, (frozen_kept y3 hg hr).trans f3⟩, ⟨cell_kept y4 hg hr, (frozen_kept y4 hg hr).trans f4⟩⟩
theorem frozen_alloc' {W : World} {p : Addr} {v : Value} (h : W.cell? p = some v) (hf : W.frozen? p = false) (o : Obj) : (W.alloc o).frozen? p = false := by
  have hlt : p.block < W.heap.size := by
    rcases Nat.lt_or_ge p.block W.heap.size with h' | h'
    · exact h'
    · simp [World.cell?, Array.getElem?_eq_none h'] at h
  unfold World.frozen? at *
  rw [Below.heap_alloc _ _ _ hlt]; exact hf
theorem Row5.alloc {W : World} {g : Nat} {c0 c1 c2 c3 c4 : Value} (h : Row5 W g c0 c1 c2 c3 c4) (o : Obj) : Row5 (W.alloc o) g c0 c1 c2 c3 c4 := by
  obtain ⟨⟨y0, f0⟩, ⟨y1, f1⟩, ⟨y2, f2⟩, ⟨y3, f3⟩, ⟨y4, f4⟩⟩ := h
  exact ⟨⟨cell_alloc' y0 o, frozen_alloc' y0 f0 o⟩, ⟨cell_alloc' y1 o, frozen_alloc' y1 f1 o⟩, ⟨cell_alloc' y2 o, frozen_alloc' y2 f2 o⟩, ⟨cell_alloc' y3 o, frozen_alloc' y3 f3 o⟩, ⟨cell_alloc' y4 o, frozen_alloc' y4 f4 o⟩⟩
theorem Row5.put {W : World} {g : Nat} {c0 c1 c2 c3 c4 : Value} (h : Row5 W g c0 c1 c2 c3 c4) (a0 a1 a2 a3 a4 : Value) : Row5 (put5 W g a0 a1 a2 a3 a4) g a0 a1 a2 a3 a4 := by
  obtain ⟨⟨y0, f0⟩, ⟨y1, f1⟩, ⟨y2, f2⟩, ⟨y3, f3⟩, ⟨y4, f4⟩⟩ := h
  cases hh : W.heap[g]? with
  | none => simp [World.cell?, hh] at y4
  | some o =>
    cases o with
    | cells cur t fz =>
      obtain ⟨lo, hi⟩ := fz
      have hp : (put5 W g a0 a1 a2 a3 a4).heap[g]? = some (.cells (((((cur.setIfInBounds 0 a0).setIfInBounds 1 a1).setIfInBounds 2 a2).setIfInBounds 3 a3).setIfInBounds 4 a4) t (lo, hi)) := by
        simp [put5, World.setCell, Array.getElem?_modify, hh]
      have h5 : 4 < cur.size := by
        simp [World.cell?, hh] at y4
        exact (Array.getElem?_eq_some_iff.1 y4).1
      simp only [World.frozen?, hh] at f0 f1 f2 f3 f4
      refine ⟨⟨?_, ?_⟩, ⟨?_, ?_⟩, ⟨?_, ?_⟩, ⟨?_, ?_⟩, ⟨?_, ?_⟩⟩
      all_goals first
        | (simp only [World.frozen?, hp]; assumption)
        | (have l0 : 0 < cur.size := by omega
           have l1 : 1 < cur.size := by omega
           have l2 : 2 < cur.size := by omega
           have l3 : 3 < cur.size := by omega
           simp [World.cell?, *])
    | _ => simp [World.cell?, hh] at y4
theorem Row5.far {W W' : World} {g : Nat} {c0 c1 c2 c3 c4 : Value} (h : Row5 W g c0 c1 c2 c3 c4) (hk : W'.heap[g]? = W.heap[g]?) : Row5 W' g c0 c1 c2 c3 c4 := by
  unfold Row5 at *
  unfold World.cell? World.frozen? at *
  rw [hk]; exact h
theorem Row5.lt {W : World} {g : Nat} {c0 c1 c2 c3 c4 : Value} (h : Row5 W g c0 c1 c2 c3 c4) : g < W.heap.size := by
  rcases Nat.lt_or_ge g W.heap.size with h' | h'
  · exact h'
  · have := h.1.1
    simp [World.cell?, Array.getElem?_eq_none h'] at this
theorem KeepsOthers.put5 (W : World) (g : Nat) (a0 a1 a2 a3 a4 : Value) : KeepsOthers W (put5 W g a0 a1 a2 a3 a4) := by
  unfold Go.Proofs.YtgigikcopedoeaaGreat.put5
  exact ((((KeepsOthers.setCell _ _ _).trans (KeepsOthers.setCell _ _ _)).trans (KeepsOthers.setCell _ _ _)).trans (KeepsOthers.setCell _ _ _)).trans (KeepsOthers.setCell _ _ _)
/-- A box of one cell. -/
def Box1 (W : World) (B : Nat) (v : Value) : Prop := W.cell? ⟨B, 0, none⟩ = some v ∧ W.frozen? ⟨B, 0, none⟩ = false
theorem Box1.own {A B : World} {row : Option Nat} {g : Nat} {v : Value} (h : Box1 A g v) (hg : A.grownBy B row) (hr : ∀ r, row = some r → ∃ o, A.heap[r]? = some o ∧ o.isCells = false) : Box1 B g v := ⟨cell_kept h.1 hg hr, (frozen_kept h.1 hg hr).trans h.2⟩
theorem Box1.alloc {W : World} {g : Nat} {v : Value} (h : Box1 W g v) (o : Obj) : Box1 (W.alloc o) g v := ⟨cell_alloc' h.1 o, frozen_alloc' h.1 h.2 o⟩
theorem Box1.far {W W' : World} {g : Nat} {v : Value} (h : Box1 W g v) (hk : W'.heap[g]? = W.heap[g]?) : Box1 W' g v := by
  unfold Box1 at *
  unfold World.cell? World.frozen? at *
  rw [hk]; exact h
theorem Box1.lt {W : World} {g : Nat} {v : Value} (h : Box1 W g v) : g < W.heap.size := lt_of_cell h.1
theorem box1_of {W : World} {B : Nat} {v : Value} {t : TypeId} (h : W.heap[B]? = some (.cells #[v] t (0, 0))) : Box1 W B v := ⟨by simp [World.cell?, h], by simp [World.frozen?, h]⟩
theorem Box1.set {W : World} {g : Nat} {v : Value} (h : Box1 W g v) (u : Value) : Box1 (W.setCell ⟨g, 0, none⟩ u) g u := by
  obtain ⟨h1, h2⟩ := h
  cases hh : W.heap[g]? with
  | none => simp [World.cell?, hh] at h1
  | some o =>
    cases o with
    | cells cur t fz =>
      obtain ⟨lo, hi⟩ := fz
      have hp : (W.setCell ⟨g, 0, none⟩ u).heap[g]? = some (.cells (cur.setIfInBounds 0 u) t (lo, hi)) := by simp [World.setCell, Array.getElem?_modify, hh]
      have h5 : 0 < cur.size := by
        simp [World.cell?, hh] at h1
        exact (Array.getElem?_eq_some_iff.1 h1).1
      simp only [World.frozen?, hh] at h2
      refine ⟨?_, ?_⟩
      · simp [World.cell?, hp, h5]
      · simp only [World.frozen?, hp]; assumption
    | _ => simp [World.cell?, hh] at h1
theorem row5_of {W : World} {B : Nat} {c0 c1 c2 c3 c4 : Value} {t : TypeId} (h : W.heap[B]? = some (.cells #[c0, c1, c2, c3, c4] t (0, 0))) : Row5 W B c0 c1 c2 c3 c4 := by
  obtain ⟨y0, y1, y2, y3, y4, f⟩ := row_cells h
  exact ⟨⟨y0, f 0⟩, ⟨y1, f 1⟩, ⟨y2, f 2⟩, ⟨y3, f 3⟩, ⟨y4, f 4⟩⟩
set_option maxHeartbeats 1000000 in
theorem vals_in (F : Fence) (n : Nat) (hf : F.fn 89) (hro : F.round = none) (a : Option Addr) (len cap : Nat) (w : World) :
    CallsIn F n Tryz.prog 89 #[.slice a len cap] w fun e w' => e = .returned (.func (.func 118) #[] #[.pointer (some ⟨w.heap.size, 0, none⟩)]) ∧ w' = w.alloc (.cells #[.slice a len cap] 23) := by
  refine callsIn_of_wp Tryz.func89 rfl hf ?_ hro
  simp only [Tryz.ntmps89, List.size_toArray, List.length_cons, List.length_nil, Nat.reduceAdd, Nat.reduceSub, Array.replicate_succ, Array.replicate_zero, List.push_toArray, List.append_toArray, List.nil_append, List.cons_append]
  gi_wp2
  go_ret
  exact ⟨rfl, rfl⟩
set_option maxRecDepth 100000 in
set_option maxHeartbeats 2000000 in
theorem vals_stops (F : Fence) (n : Nat) (hf : F.fn 118) (hro : F.round = none) (hn : 1 ≤ n) (Bs g c : Nat) (x : Int) (w : World) (hBs : Bs < w.heap.size) (hc : w.cell? ⟨Bs, 0, none⟩ = some (.slice (some ⟨g, 0, none⟩) 1 c)) (hs : NumAt w g 0 x) :
    SeqStopsK F n Tryz.prog 118 #[.pointer (some ⟨Bs, 0, none⟩)] (fun _ : Unit => #[numV x]) (fun _ _ => True) (fun ys => ys = [()]) (fun pre => pre = [()]) 1 w := fun l J Jx W hW hJ _ hY h0 => by
  have hc' := (hW.cell (p := ⟨Bs, 0, none⟩) hBs).trans hc
  obtain ⟨t0, t1, t2, t3, t4⟩ := hs.keep hW
  simp only [Nat.zero_add] at t1 t2 t3 t4
  refine callsIn_of_wp Tryz.func118 rfl hf ?_ hro
  simp only [Tryz.ntmps118, List.size_toArray, List.length_cons, List.length_nil, Nat.reduceAdd, Nat.reduceSub, Array.replicate_succ, Array.replicate_zero, List.push_toArray, List.append_toArray, List.nil_append, List.cons_append]
  gi_wp2
  have hJ1 : J [] (W.alloc (numC x)) := hJ [] W _ none h0 (World.grownBy_alloc W (numC x) none) (fun r e => by cases e)
  obtain ⟨fn, tmps, assign, body, hy, hR⟩ := hY [] () _ hJ1 (by simp)
  unfold numC at hy hR
  unfold numV at hy
  refine wpIn_loop_rounds 2 ?_
  rw [roundsIn_succ]
  gi_wp2
  refine hR.mono ?_
  rintro e W3 (⟨rfl, hJ3, hk3⟩ | ⟨rfl, hJx3⟩)
  · gi_wp2
    rw [roundsIn_succ]
    gi_wp2
    go_end0
    exact ⟨⟨_, rfl⟩, .inl ⟨_, rfl, hJ3⟩⟩
  · gi_wp2
    refine bodyPost_ret (results_none rfl _ _ _) rfl ?_
    exact ⟨⟨_, rfl⟩, .inr ⟨_, rfl, hJx3⟩⟩
set_option maxRecDepth 100000 in
set_option maxHeartbeats 4000000 in
theorem chosen_one (kf Bs g c : Nat) (x : Int) (w : World) (hc : w.cell? ⟨Bs, 0, none⟩ = some (.slice (some ⟨g, 0, none⟩) 1 c)) (hs : NumAt w g 0 x) :
    Calls Tryz.prog 88 #[.func (.func 118) #[] #[.pointer (some ⟨Bs, 0, none⟩)], .func (.func kf) #[] #[]] w fun e w' => e = .returned (.tuple #[.int .i64 0, .bool true]) ∧ Below w.heap.size w w' := by
  refine (callsIn_wide (n := 5)).1 ?_
  have hro : Fence.wide.round = none := rfl
  refine callsIn_of_wp_marks Tryz.func88 rfl trivial ?_ hro
  simp only [Tryz.ntmps88, List.size_toArray, List.length_cons, List.length_nil, Nat.reduceAdd, Nat.reduceSub, Array.replicate_succ, Array.replicate_zero, List.push_toArray, List.append_toArray, List.nil_append, List.cons_append]
  gi_wp2
  obtain ⟨W0, hW0⟩ : ∃ W0, ((((w.alloc (.cells #[.func (.func kf) #[] #[]] 32)).alloc (.cells #[.int .i64 0, .int .i64 0, .string ⟨#[]⟩, .slice none 0 0, .slice none 0 0] 25)).alloc (.cells #[.int .i64 0] 3)).alloc (.cells #[.int .i64 0] 3)) = W0 := ⟨_, rfl⟩
  have hb0 : Below w.heap.size w W0 := by rw [← hW0]; exact ((((Below.refl _ w).alloc (Nat.le_refl _) _).alloc (by simp) _).alloc (by rw [World.size_alloc, World.size_alloc]; omega) _).alloc (by rw [World.size_alloc, World.size_alloc, World.size_alloc]; omega) _
  have hsz : W0.heap.size = w.heap.size + 4 := by rw [← hW0]; simp
  have r1 : W0.heap[w.heap.size + 1]? = some (.cells #[.int .i64 0, .int .i64 0, .string ⟨#[]⟩, .slice none 0 0, .slice none 0 0] 25) := by rw [← hW0, Below.heap_alloc _ _ _ (by rw [World.size_alloc, World.size_alloc, World.size_alloc]; omega), Below.heap_alloc _ _ _ (by rw [World.size_alloc, World.size_alloc]; omega)]; exact new2 w _ _
  have r2 : W0.heap[w.heap.size + 1 + 1]? = some (.cells #[.int .i64 0] 3) := by rw [← hW0, Below.heap_alloc _ _ _ (by simp)]; exact heap_new' (by simp)
  have r3 : W0.heap[w.heap.size + 1 + 1 + 1]? = some (.cells #[.int .i64 0] 3) := by rw [← hW0]; exact heap_new' (by simp)
  rw [hW0]
  clear hW0
  have hBs : Bs < w.heap.size := lt_of_cell hc
  have sB := stay hb0 hc
  refine wpIn_rangeFunc_ownH hro (by decide) (gf := 118) (lb := #[.pointer (some ⟨Bs, 0, none⟩)]) rfl trivial (enters_of Tryz.func118 (by kernel_rfl) rfl)
    (vals_stops Fence.wide _ trivial hro (by decide) Bs g c x W0 (by omega) sB (hs.keep hb0)) (fun _ _ => trivial) (fun _ _ _ _ _ _ _ _ => trivial) (Below.refl _ _) (fun _ => rfl)
    (fun pre W => (∃ c0 c1 c2 c3 c4, Row5 W (w.heap.size + 1) c0 c1 c2 c3 c4 ∧ Box1 W (w.heap.size + 1 + 1) (.int .i64 0) ∧ ((pre = [] ∧ Box1 W (w.heap.size + 1 + 1 + 1) (.int .i64 0)) ∨ (pre = [()] ∧ Box1 W (w.heap.size + 1 + 1 + 1) (.int .i64 1)))) ∧ Below w.heap.size w W)
    (fun _ _ _ => False) ?own (fun _ _ _ _ _ hs _ _ => hs) ?start
    (fun _ a' W => ∃ Bx, w.heap.size + 1 + 1 + 1 < Bx ∧ W.heap[Bx]? = some (numC x) ∧ a' = { tmps := #[.func (.func 118) #[] #[.pointer (some ⟨Bs, 0, none⟩)], .func (.func kf) #[] #[], undef, .pointer (some ⟨w.heap.size, 0, none⟩), .int .i64 0, .bool false, .pointer (some ⟨w.heap.size + 1, 0, none⟩), .pointer (some ⟨w.heap.size + 1 + 1, 0, none⟩), .pointer (some ⟨w.heap.size + 1 + 1 + 1, 0, none⟩), .pointer (some ⟨Bx, 0, none⟩), .func (.func 118) #[] #[.pointer (some ⟨Bs, 0, none⟩)], numV x, undef, undef, undef, undef, undef, undef, undef, undef, undef, undef, undef, undef, undef, undef, undef], defers := [] })
    ?ownA ?assign ?body ?done ?stop
  case own =>
    refine OwnFrom.and (Own.from (fun pre A B row hs hg hr => ?_) _) (ownFrom_below (Nat.le_refl _) (by omega))
    obtain ⟨c0, c1, c2, c3, c4, h1, h2, h3⟩ := hs
    refine ⟨c0, c1, c2, c3, c4, h1.own hg hr, h2.own hg hr, ?_⟩
    rcases h3 with ⟨e, h3⟩ | ⟨e, h3⟩
    · exact .inl ⟨e, h3.own hg hr⟩
    · exact .inr ⟨e, h3.own hg hr⟩
  case start => exact ⟨⟨_, _, _, _, _, row5_of r1, box1_of r2, .inl ⟨rfl, box1_of r3⟩⟩, hb0⟩
  case ownA =>
    rintro ⟨⟩ a' _ A B row ⟨Bx, h1, h2, h3⟩ hg hr
    refine ⟨Bx, h1, (hg.block Bx (Array.getElem?_eq_some_iff.1 h2).1 (fun e => ?_)).trans h2, h3⟩
    obtain ⟨_, o, ho, hc⟩ := hr Bx e.symm
    rw [h2] at ho; cases ho; cases hc
  case assign =>
    rintro l pre ⟨⟩ W K hI hK
    obtain ⟨⟨c0, c1, c2, c3, c4, h1, h2, h3⟩, hB⟩ := hI
    unfold numV numC at *
    gi_wp2
    refine hK _ _ ((KeepsOthers.alloc _ _).from _) trivial ⟨⟨c0, c1, c2, c3, c4, h1.alloc _, h2.alloc _, ?_⟩, hB.alloc hB.size _⟩ ⟨W.heap.size, ?_, heap_alloc_new W _, rfl⟩
    · rcases h3 with ⟨e, h3⟩ | ⟨e, h3⟩
      · exact .inl ⟨e, h3.alloc _⟩
      · exact .inr ⟨e, h3.alloc _⟩
    · rcases h3 with ⟨e, h3⟩ | ⟨e, h3⟩
      · exact h3.lt
      · exact h3.lt
  case body =>
    rintro l pre ⟨⟩ a' W hl ⟨r, hr⟩ ⟨⟨c0, c1, c2, c3, c4, h1, h2, ⟨rfl, h3⟩ | ⟨rfl, _⟩⟩, hB⟩ ⟨Bx, hBx, bX, rfl⟩ hlt
    · unfold numC at bX
      unfold numV
      obtain ⟨q0, q1, q2, q3, q4, -⟩ := row_cells bX
      obtain ⟨⟨y0, f0⟩, ⟨y1, f1⟩, ⟨y2, f2⟩, ⟨y3, f3⟩, ⟨y4, f4⟩⟩ := id h1
      obtain ⟨p0, pf⟩ := id h2
      obtain ⟨s0, sf⟩ := id h3
      gi_wp2
      refine ⟨(fun f h => by cases h), ?_⟩
      rename_i hK xx hh ww heq
      apply hK
      clear hK heq
      gi_wp2
      gi_region
      all_goals
        gi_wp2
        have k1 := KeepsOthers.put5 W (w.heap.size + 1) (.int .i64 3) (.int .i64 x) (.string ⟨#[]⟩) (.slice none 0 0) (.slice none 0 0)
        have hx1 := h1.put (.int .i64 3) (.int .i64 x) (.string ⟨#[]⟩) (.slice none 0 0) (.slice none 0 0)
        have hx2 := h2.far (put5_far (w := W) (g := w.heap.size + 1) (.int .i64 3) (.int .i64 x) (.string ⟨#[]⟩) (.slice none 0 0) (.slice none 0 0) (k := w.heap.size + 1 + 1) (by omega))
        have hx3 := h3.far (put5_far (w := W) (g := w.heap.size + 1) (.int .i64 3) (.int .i64 x) (.string ⟨#[]⟩) (.slice none 0 0) (.slice none 0 0) (k := w.heap.size + 1 + 1 + 1) (by omega))
        have hb1 := hB.trans (put5_below (w := W) (g := w.heap.size + 1) (B := w.heap.size) (by omega) (.int .i64 3) (.int .i64 x) (.string ⟨#[]⟩) (.slice none 0 0) (.slice none 0 0))
        unfold put5 at k1 hx1 hx2 hx3 hb1
        generalize ((((W.setCell ⟨w.heap.size + 1, 0, none⟩ (.int .i64 3)).setCell ⟨w.heap.size + 1, 1, none⟩ (.int .i64 x)).setCell ⟨w.heap.size + 1, 2, none⟩ (.string ⟨#[]⟩)).setCell ⟨w.heap.size + 1, 3, none⟩ (.slice none 0 0)).setCell ⟨w.heap.size + 1, 4, none⟩ (.slice none 0 0) = W5 at k1 hx1 hx2 hx3 hb1 ⊢
        have k2 := k1.trans (KeepsOthers.setCell W5 ⟨w.heap.size + 1 + 1, 0, none⟩ (.int .i64 0))
        have hy1 := hx1.far (Below.heap_setCell W5 ⟨w.heap.size + 1 + 1, 0, none⟩ (.int .i64 0) (w.heap.size + 1) (by show w.heap.size + 1 ≠ w.heap.size + 1 + 1; omega))
        have hy2 := hx2.set (.int .i64 0)
        have hy3 := hx3.far (Below.heap_setCell W5 ⟨w.heap.size + 1 + 1, 0, none⟩ (.int .i64 0) (w.heap.size + 1 + 1 + 1) (by show w.heap.size + 1 + 1 + 1 ≠ w.heap.size + 1 + 1; omega))
        have hb2 := hb1.setCell (p := ⟨w.heap.size + 1 + 1, 0, none⟩) (by show w.heap.size ≤ w.heap.size + 1 + 1; omega) (.int .i64 0)
        generalize W5.setCell ⟨w.heap.size + 1 + 1, 0, none⟩ (.int .i64 0) = W6 at k2 hy1 hy2 hy3 hb2 ⊢
        have k3 := k2.trans (KeepsOthers.setCell W6 ⟨w.heap.size + 1 + 1 + 1, 0, none⟩ (.int .i64 1))
        have hz1 := hy1.far (Below.heap_setCell W6 ⟨w.heap.size + 1 + 1 + 1, 0, none⟩ (.int .i64 1) (w.heap.size + 1) (by show w.heap.size + 1 ≠ w.heap.size + 1 + 1 + 1; omega))
        have hz2 := hy2.far (Below.heap_setCell W6 ⟨w.heap.size + 1 + 1 + 1, 0, none⟩ (.int .i64 1) (w.heap.size + 1 + 1) (by show w.heap.size + 1 + 1 ≠ w.heap.size + 1 + 1 + 1; omega))
        have hz3 := hy3.set (.int .i64 1)
        have hb3 := hb2.setCell (p := ⟨w.heap.size + 1 + 1 + 1, 0, none⟩) (by show w.heap.size ≤ w.heap.size + 1 + 1 + 1; omega) (.int .i64 1)
        generalize W6.setCell ⟨w.heap.size + 1 + 1 + 1, 0, none⟩ (.int .i64 1) = W7 at k3 hz1 hz2 hz3 hb3 ⊢
        clear k1 k2 hx1 hx2 hx3 hy1 hy2 hy3 hb1 hb2
        exact ⟨KeepsOthers.from (W' := W7.drew) ⟨k3.size, k3.same⟩ _, trivial, ⟨_, _, _, _, _, hz1, hz2, .inr ⟨rfl, hz3⟩⟩, below_drew hb3⟩
    · simp at hlt
  case done =>
    rintro D ys W hD rfl ⟨⟨c0, c1, c2, c3, c4, h1, h2, ⟨h, _⟩ | ⟨_, h3⟩⟩, hB⟩ hK
    · cases h
    obtain ⟨p0, pf⟩ := id h2
    obtain ⟨s0, sf⟩ := id h3
    gi_wp2
    gi_region
    all_goals
      gi_wp2
      have hB' : Below w.heap.size w W.drew := below_drew hB
      have hK' : W.drew.heap[D]? = some (.deferred (some [])) := hK
      clear hK hB h1 h2 h3 p0 s0 pf sf
      generalize W.drew = Wp at hB' hK' ⊢
      refine ⟨by simp, .inl ⟨_, _, rfl, run_takeDeferred hK', ?_⟩⟩
      have hBf := hB'.trans (belowK_b (w := w) (Nat.le_refl _) _ D _ (.deferred none) (by omega) hK' rfl rfl)
      generalize Wp.putObj D (.deferred none) = Wf at *
      exact ⟨.tuple #[.int .i64 0, .bool true], by simp [results, Tryz.results88, go_sem], rfl, hBf⟩
  case stop =>
    rintro D c pre W _ _ h _
    exact h.elim
end Go.Proofs.YtgigikcopedoeaaGreat
