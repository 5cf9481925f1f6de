import Derived.Test.YtbhjbicbgmeboaaB2
import Derived.RangeFuncNested
import Derived.RangeFuncBound
import Derived.RangeFuncCalls
import Derived.RangeFuncLeaves
import Derived.Shelf.Abstract
import Derived.Shelf.RegionOpen
import Derived.OwnWalkIn
import Derived.TacticsInMore
import Derived.LoopNIn
import Derived.LoopIn
/-! A range over slices.Backward of a list of one element: within. -/
namespace Go.Proofs.Ytbhjbicbgmeboaa
open Go Go.RowKit Go.Shelf
attribute [local go_sem] Oper.semAt_some

set_option maxHeartbeats 1000000 in
theorem back_s_in (F : Fence) (n : Nat) (hf : F.fn 40) (hro : F.round = none) (a : Option Addr) (len cap : Nat) (w : World) :
    CallsIn F n Try.prog 40 #[.slice a len cap] w fun e w' => e = .returned (.func (.func 52) #[] #[.pointer (some ⟨w.heap.size, 0, none⟩)]) ∧ w' = w.alloc (.cells #[.slice a len cap] 22) := by
  refine callsIn_of_wp Try.func40 rfl hf ?_ hro
  simp only [Try.ntmps40, List.size_toArray, List.length_cons, List.length_nil, Nat.reduceAdd, Nat.reduceSub, Array.replicate_succ, Array.replicate_zero, List.push_toArray, List.append_toArray, List.nil_append, List.cons_append]
  gi_wp2
  go_ret
  exact ⟨rfl, rfl⟩

set_option maxRecDepth 100000 in
set_option maxHeartbeats 2000000 in
theorem back_s_stops (F : Fence) (n : Nat) (hf : F.fn 52) (hro : F.round = none) (hn : 1 ≤ n) (Bs b o c : Nat) (s : ByteArray) (w : World) (hBs : Bs < w.heap.size) (hb : b < w.heap.size)
    (hc : w.cell? ⟨Bs, 0, none⟩ = some (.slice (some ⟨b, o, none⟩) 1 c)) (hs : w.cell? ⟨b, o, none⟩ = some (.string s)) :
    SeqStopsK F n Try.prog 52 #[.pointer (some ⟨Bs, 0, none⟩)] (fun _ : Unit => #[Value.int .i64 0, Value.string s]) (fun _ _ => True) (fun ys => ys = [()]) (fun pre => pre = [()]) 1 w := fun l J Jx W hW _ _ hY h0 => by
  have hc' := (hW.cell (p := ⟨Bs, 0, none⟩) hBs).trans hc
  have hs' := (hW.cell (p := ⟨b, o, none⟩) hb).trans hs
  refine callsIn_of_wp Try.func52 rfl hf ?_ hro
  simp only [Try.ntmps52, List.size_toArray, List.length_cons, List.length_nil, Nat.reduceAdd, Nat.reduceSub, Array.replicate_succ, Array.replicate_zero, List.push_toArray, List.append_toArray, List.nil_append, List.cons_append]
  gi_wp2
  obtain ⟨fn, tmps, assign, body, hy, hR⟩ := hY [] () W h0 (by simp)
  refine wpIn_loop_rounds 2 ?_
  rw [roundsIn_succ]
  gi_wp2
  refine hR.mono ?_
  rintro e W3 (⟨rfl, hJ3, hk3⟩ | ⟨rfl, hJx3⟩)
  · gi_wp2
    rw [roundsIn_succ]
    gi_wp2
    go_end0
    exact ⟨⟨_, rfl⟩, .inl ⟨_, rfl, hJ3⟩⟩
  · gi_wp2
    refine bodyPost_ret (results_none rfl _ _ _) rfl ?_
    exact ⟨⟨_, rfl⟩, .inr ⟨_, rfl, hJx3⟩⟩

/-- Five cells that nobody shares. -/
def Row5 (W : World) (B : Nat) (c0 c1 c2 c3 c4 : Value) : Prop :=
  (W.cell? ⟨B, 0, none⟩ = some c0 ∧ W.frozen? ⟨B, 0, none⟩ = false) ∧ (W.cell? ⟨B, 1, none⟩ = some c1 ∧ W.frozen? ⟨B, 1, none⟩ = false) ∧ (W.cell? ⟨B, 2, none⟩ = some c2 ∧ W.frozen? ⟨B, 2, none⟩ = false) ∧ (W.cell? ⟨B, 3, none⟩ = some c3 ∧ W.frozen? ⟨B, 3, none⟩ = false) ∧ (W.cell? ⟨B, 4, none⟩ = some c4 ∧ W.frozen? ⟨B, 4, none⟩ = false)
theorem Row5.own {A B : World} {row : Option Nat} {g : Nat} {c0 c1 c2 c3 c4 : Value} (h : Row5 A g c0 c1 c2 c3 c4) (hg : A.grownBy B row) (hr : ∀ r, row = some r → ∃ o, A.heap[r]? = some o ∧ o.isCells = false) : Row5 B g c0 c1 c2 c3 c4 := by
  obtain ⟨⟨y0, f0⟩, ⟨y1, f1⟩, ⟨y2, f2⟩, ⟨y3, f3⟩, ⟨y4, f4⟩⟩ := h
  exact ⟨⟨cell_kept y0 hg hr, (frozen_kept y0 hg hr).trans f0⟩, ⟨cell_kept y1 hg hr, (frozen_kept y1 hg hr).trans f1⟩, ⟨cell_kept y2 hg hr, (frozen_kept y2 hg hr).trans f2⟩, ⟨cell_kept y3 hg hr, (frozen_kept y3 hg hr).trans f3⟩, ⟨cell_kept y4 hg hr, (frozen_kept y4 hg hr).trans f4⟩⟩
theorem cell_alloc' {W : World} {p : Addr} {v : Value} (h : W.cell? p = some v) (o : Obj) : (W.alloc o).cell? p = some v := by
  have hlt : p.block < W.heap.size := by
    rcases Nat.lt_or_ge p.block W.heap.size with h' | h'
    · exact h'
    · simp [World.cell?, Array.getElem?_eq_none h'] at h
  rw [World.cell?_of_block (w := W) (Below.heap_alloc _ _ _ hlt)]; exact h
theorem frozen_alloc' {W : World} {p : Addr} {v : Value} (h : W.cell? p = some v) (hf : W.frozen? p = false) (o : Obj) : (W.alloc o).frozen? p = false := by
  have hlt : p.block < W.heap.size := by
    rcases Nat.lt_or_ge p.block W.heap.size with h' | h'
    · exact h'
    · simp [World.cell?, Array.getElem?_eq_none h'] at h
  unfold World.frozen? at *
  rw [Below.heap_alloc _ _ _ hlt]; exact hf
theorem Row5.alloc {W : World} {g : Nat} {c0 c1 c2 c3 c4 : Value} (h : Row5 W g c0 c1 c2 c3 c4) (o : Obj) : Row5 (W.alloc o) g c0 c1 c2 c3 c4 := by
  obtain ⟨⟨y0, f0⟩, ⟨y1, f1⟩, ⟨y2, f2⟩, ⟨y3, f3⟩, ⟨y4, f4⟩⟩ := h
  exact ⟨⟨cell_alloc' y0 o, frozen_alloc' y0 f0 o⟩, ⟨cell_alloc' y1 o, frozen_alloc' y1 f1 o⟩, ⟨cell_alloc' y2 o, frozen_alloc' y2 f2 o⟩, ⟨cell_alloc' y3 o, frozen_alloc' y3 f3 o⟩, ⟨cell_alloc' y4 o, frozen_alloc' y4 f4 o⟩⟩
theorem Row5.put {W : World} {g : Nat} {c0 c1 c2 c3 c4 : Value} (h : Row5 W g c0 c1 c2 c3 c4) (a0 a1 a2 a3 a4 : Value) : Row5 (put5 W g a0 a1 a2 a3 a4) g a0 a1 a2 a3 a4 := by
  obtain ⟨⟨y0, f0⟩, ⟨y1, f1⟩, ⟨y2, f2⟩, ⟨y3, f3⟩, ⟨y4, f4⟩⟩ := h
  cases hh : W.heap[g]? with
  | none => simp [World.cell?, hh] at y4
  | some o =>
    cases o with
    | cells cur t fz =>
      obtain ⟨lo, hi⟩ := fz
      have hp : (put5 W g a0 a1 a2 a3 a4).heap[g]? = some (.cells (((((cur.setIfInBounds 0 a0).setIfInBounds 1 a1).setIfInBounds 2 a2).setIfInBounds 3 a3).setIfInBounds 4 a4) t (lo, hi)) := by
        simp [put5, World.setCell, Array.getElem?_modify, hh]
      have h5 : 4 < cur.size := by
        simp [World.cell?, hh] at y4
        exact (Array.getElem?_eq_some_iff.1 y4).1
      simp only [World.frozen?, hh] at f0 f1 f2 f3 f4
      refine ⟨⟨?_, ?_⟩, ⟨?_, ?_⟩, ⟨?_, ?_⟩, ⟨?_, ?_⟩, ⟨?_, ?_⟩⟩
      all_goals first
        | (simp only [World.frozen?, hp]; assumption)
        | (have l0 : 0 < cur.size := by omega
           have l1 : 1 < cur.size := by omega
           have l2 : 2 < cur.size := by omega
           have l3 : 3 < cur.size := by omega
           simp [World.cell?, *])
    | _ => simp [World.cell?, hh] at y4
theorem Row5.far {W W' : World} {g : Nat} {c0 c1 c2 c3 c4 : Value} (h : Row5 W g c0 c1 c2 c3 c4) (hk : W'.heap[g]? = W.heap[g]?) : Row5 W' g c0 c1 c2 c3 c4 := by
  unfold Row5 at *
  unfold World.cell? World.frozen? at *
  rw [hk]; exact h
theorem Row5.lt {W : World} {g : Nat} {c0 c1 c2 c3 c4 : Value} (h : Row5 W g c0 c1 c2 c3 c4) : g < W.heap.size := by
  rcases Nat.lt_or_ge g W.heap.size with h' | h'
  · exact h'
  · have := h.1.1
    simp [World.cell?, Array.getElem?_eq_none h'] at this
theorem KeepsOthers.put5 (W : World) (g : Nat) (a0 a1 a2 a3 a4 : Value) : KeepsOthers W (put5 W g a0 a1 a2 a3 a4) := by
  unfold Go.Proofs.Ytbhjbicbgmeboaa.put5
  exact ((((KeepsOthers.setCell _ _ _).trans (KeepsOthers.setCell _ _ _)).trans (KeepsOthers.setCell _ _ _)).trans (KeepsOthers.setCell _ _ _)).trans (KeepsOthers.setCell _ _ _)
theorem cell_of_heap {W : World} {g : Nat} {v : Value} {t : TypeId} {f : Nat × Nat} (h : W.heap[g]? = some (.cells #[v] t f)) : W.cell? ⟨g, 0, none⟩ = some v := by simp [World.cell?, h]
theorem Row5.cells {W : World} {g : Nat} {k x : Int} {tx : ByteArray} {nm it : Value} (h : Row5 W g (.int .i64 k) (.int .i64 x) (.string tx) nm it) : CellsAt W g 0 (five k x tx nm it) := by
  obtain ⟨⟨y0, f0⟩, ⟨y1, f1⟩, ⟨y2, f2⟩, ⟨y3, f3⟩, ⟨y4, f4⟩⟩ := h
  intro j u hj
  rw [Nat.zero_add]
  rcases j with _ | _ | _ | _ | _ | j
  · cases hj; exact y0
  · cases hj; exact y1
  · cases hj; exact y2
  · cases hj; exact y3
  · cases hj; exact y4
  · simp [five] at hj
/-- What W has in the blocks of S, in cells, W' has too. -/
def Agree (S : Nat → Prop) (W W' : World) : Prop := W.heap.size ≤ W'.heap.size ∧ ∀ p u, S p.block → W.cell? p = some u → W'.cell? p = some u
/-- t is read off these cells, whatever the other blocks hold. -/
def Seen (W : World) (S : Nat → Prop) (t : Tr) (cs : List Value) : Prop := ∀ W', Agree S W W' → VRep W' t cs
theorem cell_lt {W : World} {p : Addr} {v : Value} (h : W.cell? p = some v) : p.block < W.heap.size := by
  rcases Nat.lt_or_ge p.block W.heap.size with h' | h'
  · exact h'
  · simp [World.cell?, Array.getElem?_eq_none h'] at h
theorem Reads.mono {W W' : World} {v : Value} {l : List ByteArray} (hk : ∀ p u, W.cell? p = some u → W'.cell? p = some u) (hs : W.heap.size ≤ W'.heap.size) (h : Reads W v l) : Reads W' v l := by
  obtain ⟨a, c, rfl, hc, h | ⟨b, o, rfl, hlt, h⟩⟩ := h
  · exact ⟨a, c, rfl, hc, .inl h⟩
  · exact ⟨_, c, rfl, hc, .inr ⟨b, o, rfl, Nat.lt_of_lt_of_le hlt hs, fun j s hj => hk _ _ (h j s hj)⟩⟩
mutual
theorem VRep.mono {W W' : World} (hk : ∀ p u, W.cell? p = some u → W'.cell? p = some u) (hs : W.heap.size ≤ W'.heap.size) : (t : Tr) → (cs : List Value) → VRep W t cs → VRep W' t cs
  | .node k x s ns its, cs, h => by
    unfold VRep at *
    obtain ⟨nm, a, c, h1, h2, h3, h4⟩ := h
    refine ⟨nm, a, c, h1, h2.mono hk hs, h3, ?_⟩
    rcases h4 with h4 | ⟨b, o, h5, h6, h7⟩
    · exact .inl h4
    · exact .inr ⟨b, o, h5, Nat.lt_of_lt_of_le h6 hs, VRepL.mono hk hs _ its h7⟩
theorem VRepL.mono {W W' : World} (hk : ∀ p u, W.cell? p = some u → W'.cell? p = some u) (hs : W.heap.size ≤ W'.heap.size) {b : Nat} : (o : Nat) → (its : List Tr) → VRepL W b o its → VRepL W' b o its
  | _, [], _ => by unfold VRepL; trivial
  | _, t :: ts, h => by
    unfold VRepL at *
    obtain ⟨cs, h1, h2, h3⟩ := h
    exact ⟨cs, fun j u hj => hk _ _ (h1 j u hj), VRep.mono hk hs t cs h2, VRepL.mono hk hs _ ts h3⟩
end
theorem seen_rep {w : World} {t : Tr} {cs : List Value} (h : VRep w t cs) : Seen w (· < w.heap.size) t cs := fun _ a => VRep.mono (fun p u hp => a.2 p u (cell_lt hp) hp) a.1 t cs h
theorem Seen.rep {W : World} {S : Nat → Prop} {t : Tr} {cs : List Value} (h : Seen W S t cs) : VRep W t cs := h W ⟨Nat.le_refl _, fun _ _ _ h => h⟩
theorem seen_next {w w' W' : World} {S S' : Nat → Prop} {t : Tr} {cs : List Value} (hV : Seen w S t cs) (hB : Below w.heap.size w w') (hS : ∀ k, S k → S' k) (h : Agree S' w' W') : VRep W' t cs :=
  hV W' ⟨Nat.le_trans hB.size h.1, fun p u hp hc => h.2 p u (hS _ hp) ((hB.cell (cell_lt hc)).trans hc)⟩
theorem Seen.keep {w w' : World} {S : Nat → Prop} {t : Tr} {cs : List Value} (hV : Seen w S t cs) (hB : Below w.heap.size w w') : Seen w' S t cs := fun _ h => seen_next hV hB (fun _ h => h) h
/-- An object of one member. -/
theorem one_object {W : World} {g1 g2 : Nat} {s : ByteArray} {t : Tr} {cs : List Value} (hc : W.cell? ⟨g1, 0, none⟩ = some (.string s)) (hl : g2 < W.heap.size) (hcl : CellsAt W g2 0 cs) (hV : VRep W t cs) : VRep W (.node 6 0 ⟨#[]⟩ [s] [t]) (five 6 0 ⟨#[]⟩ (.slice (some ⟨g1, 0, none⟩) 1 1) (.slice (some ⟨g2, 0, none⟩) 1 1)) := by
  have hgl : g1 < W.heap.size := by
    rcases Nat.lt_or_ge g1 W.heap.size with h' | h'
    · exact h'
    · simp [World.cell?, Array.getElem?_eq_none h'] at hc
  unfold VRep
  refine ⟨_, _, 1, rfl, ⟨_, 1, rfl, ⟨Nat.le_refl _, by omega⟩, .inr ⟨g1, 0, rfl, hgl, fun j u hj => ?_⟩⟩, ⟨Nat.le_refl _, by omega⟩, .inr ⟨g2, 0, rfl, hl, ?_⟩⟩
  · rcases j with _ | j
    · cases hj; exact hc
    · simp at hj
  · unfold VRepL
    exact ⟨cs, hcl, hV, by unfold VRepL; trivial⟩
theorem row5_of {W : World} {B : Nat} {c0 c1 c2 c3 c4 : Value} {t : TypeId} (h : W.heap[B]? = some (.cells #[c0, c1, c2, c3, c4] t (0, 0))) : Row5 W B c0 c1 c2 c3 c4 := by
  obtain ⟨y0, y1, y2, y3, y4, f⟩ := row_cells h
  exact ⟨⟨y0, f 0⟩, ⟨y1, f 1⟩, ⟨y2, f 2⟩, ⟨y3, f 3⟩, ⟨y4, f 4⟩⟩

set_option maxRecDepth 100000 in
set_option maxHeartbeats 2000000 in
theorem within_one (s : ByteArray) (k x : Int) (tx : ByteArray) (an : Option Addr) (ln cn : Nat) (ai : Option Addr) (li ci : Nat) (t : Tr) (S : Nat → Prop) (b o c : Nat) (w : World) (hb : b < w.heap.size) (hs : w.cell? ⟨b, o, none⟩ = some (.string s))
    (hV : Seen w S t (five k x tx (.slice an ln cn) (.slice ai li ci))) :
    Calls Try.prog 25 #[.slice (some ⟨b, o, none⟩) 1 c, .agg #[.int .i64 k, .int .i64 x, .string tx, .slice an ln cn, .slice ai li ci]] w fun e w' =>
      Below w.heap.size w w' ∧ ∃ cs, e = .returned (.agg cs.toArray) ∧ Seen w' (fun k => S k ∨ w.heap.size + 1 < k) (.node 6 0 ⟨#[]⟩ [s] [t]) cs := by
  refine (callsIn_wide (n := 5)).1 ?_
  have hro : Fence.wide.round = none := rfl
  refine callsIn_of_wp_marks Try.func25 rfl trivial ?_ hro
  simp only [Try.ntmps25, List.size_toArray, List.length_cons, List.length_nil, Nat.reduceAdd, Nat.reduceSub, Array.replicate_succ, Array.replicate_zero, List.push_toArray, List.append_toArray, List.nil_append, List.cons_append]
  gi_wp2_with (refine ⟨trivial, ?_⟩; gi_at_call 40; refine (back_s_in Fence.wide _ trivial hro _ _ _ _).mono ?_; rintro e w' ⟨rfl, rfl⟩)
  have hB0 : ∀ o1 o2 o3, Below w.heap.size w (((w.alloc o1).alloc o2).alloc o3) := fun o1 o2 o3 => (((Below.refl _ w).alloc (Nat.le_refl _) o1).alloc (by simp) o2).alloc (by simp; omega) o3
  have hn1 : ∀ o1 o2 o3, (((w.alloc o1).alloc o2).alloc o3).heap[w.heap.size]? = some o1 := fun o1 o2 o3 => by
    rw [Below.heap_alloc _ _ _ (by simp; omega)]; exact new1 w o1 o2
  have hn2 : ∀ o1 o2 o3, (((w.alloc o1).alloc o2).alloc o3).heap[w.heap.size + 1]? = some o2 := fun o1 o2 o3 => by
    rw [Below.heap_alloc _ _ _ (by simp)]; exact new2 w o1 o2
  have hn3 : ∀ o1 o2 o3, (((w.alloc o1).alloc o2).alloc o3).heap[w.heap.size + 1 + 1]? = some o3 := fun o1 o2 o3 => by
    have := heap_alloc_new ((w.alloc o1).alloc o2) o3
    rw [World.size_alloc, World.size_alloc] at this
    exact this
  obtain ⟨W0, hW0⟩ : ∃ W0, (((w.alloc (.cells #[.int .i64 k, .int .i64 x, .string tx, .slice an ln cn, .slice ai li ci] 25)).alloc (.cells #[.int .i64 0, .int .i64 0, .string ⟨#[]⟩, .slice none 0 0, .slice none 0 0] 25)).alloc (.cells #[.slice (some ⟨b, o, none⟩) 1 c] 22)) = W0 := ⟨_, rfl⟩
  have r0 := hn1 (.cells #[.int .i64 k, .int .i64 x, .string tx, .slice an ln cn, .slice ai li ci] 25) (.cells #[.int .i64 0, .int .i64 0, .string ⟨#[]⟩, .slice none 0 0, .slice none 0 0] 25) (.cells #[.slice (some ⟨b, o, none⟩) 1 c] 22)
  have r1 := hn2 (.cells #[.int .i64 k, .int .i64 x, .string tx, .slice an ln cn, .slice ai li ci] 25) (.cells #[.int .i64 0, .int .i64 0, .string ⟨#[]⟩, .slice none 0 0, .slice none 0 0] 25) (.cells #[.slice (some ⟨b, o, none⟩) 1 c] 22)
  have r2 := hn3 (.cells #[.int .i64 k, .int .i64 x, .string tx, .slice an ln cn, .slice ai li ci] 25) (.cells #[.int .i64 0, .int .i64 0, .string ⟨#[]⟩, .slice none 0 0, .slice none 0 0] 25) (.cells #[.slice (some ⟨b, o, none⟩) 1 c] 22)
  have hb0 := hB0 (.cells #[.int .i64 k, .int .i64 x, .string tx, .slice an ln cn, .slice ai li ci] 25) (.cells #[.int .i64 0, .int .i64 0, .string ⟨#[]⟩, .slice none 0 0, .slice none 0 0] 25) (.cells #[.slice (some ⟨b, o, none⟩) 1 c] 22)
  have hsz : W0.heap.size = w.heap.size + 3 := by rw [← hW0]; simp
  clear hB0 hn1 hn2 hn3
  rw [hW0] at r0 r1 r2 hb0
  rw [hW0]
  have s0 : W0.cell? ⟨b, o, none⟩ = some (.string s) := (hb0.cell (p := ⟨b, o, none⟩) hb).trans hs
  have sB : W0.cell? ⟨w.heap.size + 1 + 1, 0, none⟩ = some (.slice (some ⟨b, o, none⟩) 1 c) := by simp [World.cell?, r2]
  refine wpIn_rangeFunc_ownG hro (by decide) (gf := 52) (lb := #[.pointer (some ⟨w.heap.size + 1 + 1, 0, none⟩)]) rfl trivial (enters_of Try.func52 (by kernel_rfl) rfl)
    (back_s_stops Fence.wide _ trivial hro (by decide) (w.heap.size + 1 + 1) b o c s W0 (by omega) (by omega) sB s0) (fun _ _ => trivial) (fun _ _ _ _ _ _ _ _ => trivial) (Below.refl _ _) (fun _ => rfl)
    (fun pre W => (∃ c0 c1 c2 c3 c4, Row5 W w.heap.size c0 c1 c2 c3 c4 ∧ Row5 W (w.heap.size + 1) (.int .i64 0) (.int .i64 0) (.string ⟨#[]⟩) (.slice none 0 0) (.slice none 0 0) ∧
      ((pre = [] ∧ c0 = .int .i64 k ∧ c1 = .int .i64 x ∧ c2 = .string tx ∧ c3 = .slice an ln cn ∧ c4 = .slice ai li ci) ∨
       (pre = [()] ∧ ∃ g1 g2, c0 = .int .i64 6 ∧ c1 = .int .i64 0 ∧ c2 = .string ⟨#[]⟩ ∧ c3 = .slice (some ⟨g1, 0, none⟩) 1 1 ∧ c4 = .slice (some ⟨g2, 0, none⟩) 1 1 ∧ (w.heap.size + 1 < g1 ∧ w.heap.size + 1 < g2) ∧ W.cell? ⟨g1, 0, none⟩ = some (.string s) ∧ Row5 W g2 (.int .i64 k) (.int .i64 x) (.string tx) (.slice an ln cn) (.slice ai li ci)))) ∧ Below w.heap.size w W)
    (fun _ _ _ => False) ?own (fun _ _ _ _ _ hs _ _ => hs) ?start
    (fun _ => { tmps := #[.slice (some ⟨b, o, none⟩) 1 c, .agg #[.int .i64 k, .int .i64 x, .string tx, .slice an ln cn, .slice ai li ci], undef, .pointer (some ⟨w.heap.size, 0, none⟩), .pointer (some ⟨w.heap.size + 1, 0, none⟩), undef, .string s, .slice (some ⟨b, o, none⟩) 1 c, .func (.func 52) #[] #[.pointer (some ⟨w.heap.size + 1 + 1, 0, none⟩)], .int .i64 0, .string s, undef, undef, undef, undef, undef, undef], defers := [] }) ?assign ?body ?done ?stop
  case own =>
    refine OwnFrom.and (Own.from (fun pre A B row hs hg hr => ?_) _) (ownFrom_below (Nat.le_refl _) (by omega))
    obtain ⟨c0, c1, c2, c3, c4, h1, h2, h3⟩ := hs
    refine ⟨c0, c1, c2, c3, c4, h1.own hg hr, h2.own hg hr, ?_⟩
    rcases h3 with h3 | ⟨e, g1, g2, e0, e1, e2, e3, e4, e7, e5, e6⟩
    · exact .inl h3
    · exact .inr ⟨e, g1, g2, e0, e1, e2, e3, e4, e7, cell_kept e5 hg hr, e6.own hg hr⟩
  case start => exact ⟨⟨_, _, _, _, _, row5_of r0, row5_of r1, .inl ⟨rfl, rfl, rfl, rfl, rfl, rfl⟩⟩, hb0⟩
  case assign =>
    intro l x W K hK
    gi_wp2
    exact hK
  case body =>
    rintro l pre ⟨⟩ W ⟨⟨c0, c1, c2, c3, c4, h1, h2, ⟨rfl, rfl, rfl, rfl, rfl, rfl⟩ | ⟨rfl, _⟩⟩, hB⟩ hlt
    · have y0 := fun o => (h1.alloc o).1.1; have y1 := fun o => (h1.alloc o).2.1.1; have y2 := fun o => (h1.alloc o).2.2.1.1; have y3 := fun o => (h1.alloc o).2.2.2.1.1; have y4 := fun o => (h1.alloc o).2.2.2.2.1
      have z0 := fun o o' => ((h1.alloc o).alloc o').1.1; have z1 := fun o o' => ((h1.alloc o).alloc o').2.1.1; have z2 := fun o o' => ((h1.alloc o).alloc o').2.2.1.1; have z3 := fun o o' => ((h1.alloc o).alloc o').2.2.2.1.1; have z4 := fun o o' => ((h1.alloc o).alloc o').2.2.2.2.1
      have f0 := fun o o' => ((h1.alloc o).alloc o').1.2; have f1 := fun o o' => ((h1.alloc o).alloc o').2.1.2; have f2 := fun o o' => ((h1.alloc o).alloc o').2.2.1.2; have f3 := fun o o' => ((h1.alloc o).alloc o').2.2.2.1.2; have f4 := fun o o' => ((h1.alloc o).alloc o').2.2.2.2.2
      gi_wp2
      clear y0 y1 y2 y3 y4 z0 z1 z2 z3 z4 f0 f1 f2 f3 f4
      have hlt1 := h1.lt
      have hlt2 := h2.lt
      refine ⟨((KeepsOthers.alloc _ _).trans ((KeepsOthers.alloc _ _).trans (KeepsOthers.put5 _ _ _ _ _ _ _))).from _, trivial, ⟨_, _, _, _, _, ((h1.alloc _).alloc _).put _ _ _ _ _, ((h2.alloc _).alloc _).far (put5_far _ _ _ _ _ (by omega)), .inr ⟨rfl, W.heap.size, W.heap.size + 1, rfl, rfl, rfl, rfl, rfl, ⟨by omega, by omega⟩, ?_, ?_⟩⟩, ?_⟩
      · exact cell_of_heap ((put5_far _ _ _ _ _ (by omega)).trans (new1 W _ _))
      · exact (row5_of (new2 W _ _)).far (put5_far _ _ _ _ _ (by omega))
      · exact ((hB.alloc (by omega) _).alloc (by simp; omega) _).trans (put5_below (Nat.le_refl _) _ _ _ _ _)
    · simp at hlt
  case done =>
    rintro D ys W hD rfl ⟨⟨c0, c1, c2, c3, c4, h1, h2, ⟨h, _⟩ | ⟨_, g1, g2, rfl, rfl, rfl, rfl, rfl, ⟨hl1, hl2⟩, e5, e6⟩⟩, hB⟩ hK
    · cases h
    obtain ⟨⟨y0, f0⟩, ⟨y1, f1⟩, ⟨y2, f2⟩, ⟨y3, f3⟩, ⟨y4, f4⟩⟩ := h1
    obtain ⟨⟨z0, k0⟩, ⟨z1, k1⟩, ⟨z2, k2⟩, ⟨z3, k3⟩, ⟨z4, k4⟩⟩ := h2
    gi_wp2
    obtain ⟨Wp, hWp⟩ : ∃ Wp, put5 W (w.heap.size + 1) (.int .i64 6) (.int .i64 0) (.string ⟨#[]⟩) (.slice (some ⟨g1, 0, none⟩) 1 1) (.slice (some ⟨g2, 0, none⟩) 1 1) = Wp := ⟨_, rfl⟩
    have hWc := hWp
    unfold put5 at hWc
    rw [hWc]
    clear hWc
    have h2 : Row5 W (w.heap.size + 1) (.int .i64 0) (.int .i64 0) (.string ⟨#[]⟩) (.slice none 0 0) (.slice none 0 0) := ⟨⟨z0, k0⟩, ⟨z1, k1⟩, ⟨z2, k2⟩, ⟨z3, k3⟩, ⟨z4, k4⟩⟩
    have hK' : Wp.heap[D]? = some (.deferred (some [])) := by rw [← hWp]; exact (KeepsOthers.put5 _ _ _ _ _ _ _).same D _ hK rfl
    have hBp : Below w.heap.size w Wp := by rw [← hWp]; exact hB.trans (put5_below (by omega) _ _ _ _ _)
    have hr2 : Row5 Wp (w.heap.size + 1) (.int .i64 6) (.int .i64 0) (.string ⟨#[]⟩) (.slice (some ⟨g1, 0, none⟩) 1 1) (.slice (some ⟨g2, 0, none⟩) 1 1) := by rw [← hWp]; exact h2.put _ _ _ _ _
    have hc1 : Wp.cell? ⟨g1, 0, none⟩ = some (.string s) := by rw [← hWp, World.cell?_of_block (w := W) (put5_far _ _ _ _ _ (show g1 ≠ w.heap.size + 1 by omega))]; exact e5
    have hr6 : Row5 Wp g2 (.int .i64 k) (.int .i64 x) (.string tx) (.slice an ln cn) (.slice ai li ci) := by rw [← hWp]; exact e6.far (put5_far _ _ _ _ _ (by omega))
    clear hWp h2 z0 z1 z2 z3 z4 k0 k1 k2 k3 k4 y0 y1 y2 y3 y4 f0 f1 f2 f3 f4 e5 e6 hB hK
    have hkp : ∀ r, some D = some r → ∃ o, Wp.heap[r]? = some o ∧ o.isCells = false := fun r e => by cases e; exact ⟨_, hK', rfl⟩
    refine ⟨by simp, .inl ⟨_, _, rfl, run_takeDeferred hK', ?_⟩⟩
    replace hr2 := hr2.own (grownBy_putObj' _ D (.deferred none)) hkp
    replace hc1 := cell_kept hc1 (grownBy_putObj' _ D (.deferred none)) hkp
    replace hr6 := hr6.own (grownBy_putObj' _ D (.deferred none)) hkp
    have hBf := hBp.trans (belowK_b (w := w) (Nat.le_refl _) _ D _ (.deferred none) (by omega) hK' rfl rfl)
    clear hK' hkp hBp
    generalize Wp.putObj D (.deferred none) = Wf at *
    obtain ⟨⟨r0, -⟩, ⟨r1, -⟩, ⟨r2, -⟩, ⟨r3, -⟩, ⟨r4, -⟩⟩ := hr2
    refine ⟨.agg #[.int .i64 6, .int .i64 0, .string ⟨#[]⟩, .slice (some ⟨g1, 0, none⟩) 1 1, .slice (some ⟨g2, 0, none⟩) 1 1], by simp [results, Try.results25, go_sem, r0, r1, r2, r3, r4], hBf, five 6 0 ⟨#[]⟩ (.slice (some ⟨g1, 0, none⟩) 1 1) (.slice (some ⟨g2, 0, none⟩) 1 1), rfl, ?_⟩
    exact fun W' h => one_object (h.2 ⟨g1, 0, none⟩ _ (.inr hl1) hc1) (Nat.lt_of_lt_of_le hr6.lt h.1) (fun j u hj => h.2 ⟨g2, 0 + j, none⟩ _ (.inr hl2) (hr6.cells j u hj)) (seen_next hV hBf (fun k hk => .inl hk) h)
  case stop =>
    rintro D c pre W _ _ h _
    exact h.elim
end Go.Proofs.Ytbhjbicbgmeboaa
