import Derived.Below
import Derived.BigQuiet
import Derived.Deep.AppendLies
import Derived.Deep.AppendSrc
import Derived.Deep.DeepCutAuto
import Derived.Deep.DeepFit
import Derived.Deep.QuietTactic
import Derived.Deep.RegionHeld3
import Derived.Deep.RegionWith
import Derived.Deep.Upon
import Derived.Deep.WholeRow
import Derived.Handy
import Derived.Laws.CopyOwn
import Derived.Lib.ConvBytes
import Derived.Lib.IndexLaws
import Derived.LoopIn
import Derived.LoopNIn
import Derived.Maps.AppendAt
import Derived.OrdersHeld
import Derived.Outline
import Derived.OwnWalk
import Derived.OwnWalkIn
import Derived.RangeFuncBound
import Derived.RangeFuncCalls
import Derived.RangeFuncLeaves
import Derived.RangeFuncNested
import Derived.Shelf.Abstract
import Derived.Shelf.RegionOpen
import Derived.SizedLaws
import Derived.SliceStrings
import Derived.TacticsInMore
import Derived.WalkKit
import Derived.WalkLawsBesides
import Derived.WalkMore
import Derived.Test.YthgnkhpomhcdkaaGreatDoorUI
import Derived.Test.YthgnkhpomhcdkaaGreatDoorUL
/-! Taken over from r4b/A7. -/
namespace Go.Proofs.YthgnkhpomhcdkaaGreatDoor
open Go Go.RowKit Dp

/-- The same texts. -/
def same (a b : List ByteArray) : Bool := decide (a = b)
end Go.Proofs.YthgnkhpomhcdkaaGreatDoor
/-! Taken over from r4b/A8. -/
namespace Go.Proofs.YthgnkhpomhcdkaaGreatDoor
open Go Go.RowKit Dp

def xyz : List ByteArray := [⟨#[120]⟩, ⟨#[121]⟩, ⟨#[122]⟩]
/-- A path in memory of its own, with three texts behind its end. -/
def Owned (w : World) (l : List ByteArray) (v : Value) (w' : World) : Prop :=
  ∃ g cap, v = .slice (some ⟨g, 0, none⟩) l.length cap ∧ w'.ownsRow w.heap.size 9 1 (.slice (some ⟨g, 0, none⟩) (l.length + 3) cap) (l.length + 3) (strs (l ++ xyz))
/-- What own laid is still there. -/
theorem Owned.keep {w w' w'' : World} {l : List ByteArray} {v : Value} (h : Owned w l v w') (hb : Below w'.heap.size w' w'') : Owned w l v w'' := by
  obtain ⟨g, cap, rfl, h⟩ := h
  exact ⟨g, cap, rfl, ownsRow_below h hb⟩
end Go.Proofs.YthgnkhpomhcdkaaGreatDoor
/-! Taken over from r4b/C1. -/
namespace Go.Proofs.YthgnkhpomhcdkaaGreatDoor
open Go Go.RowKit Dp
attribute [local go_sem] Oper.semAt_some

set_option maxHeartbeats 1000000 in
theorem back_s_in (F : Fence) (n : Nat) (hf : F.fn 204) (hro : F.round = none) (a : Option Addr) (len cap : Nat) (w : World) :
    CallsIn F n Tryz.prog 204 #[.slice a len cap] w fun e w' => e = .returned (.func (.func 253) #[] #[.pointer (some ⟨w.heap.size, 0, none⟩)]) ∧ w' = w.alloc (.cells #[.slice a len cap] 25) := by
  refine callsIn_of_wp Tryz.func204 rfl hf ?_ hro
  simp only [Tryz.ntmps204, List.size_toArray, List.length_cons, List.length_nil, Nat.reduceAdd, Nat.reduceSub, Array.replicate_succ, Array.replicate_zero, List.push_toArray, List.append_toArray, List.nil_append, List.cons_append]
  gi_wp2
  go_ret
  exact ⟨rfl, rfl⟩

/-- Five cells that nobody shares. -/
def Row5 (W : World) (B : Nat) (c0 c1 c2 c3 c4 : Value) : Prop :=
  (W.cell? ⟨B, 0, none⟩ = some c0 ∧ W.frozen? ⟨B, 0, none⟩ = false) ∧ (W.cell? ⟨B, 1, none⟩ = some c1 ∧ W.frozen? ⟨B, 1, none⟩ = false) ∧ (W.cell? ⟨B, 2, none⟩ = some c2 ∧ W.frozen? ⟨B, 2, none⟩ = false) ∧ (W.cell? ⟨B, 3, none⟩ = some c3 ∧ W.frozen? ⟨B, 3, none⟩ = false) ∧ (W.cell? ⟨B, 4, none⟩ = some c4 ∧ W.frozen? ⟨B, 4, none⟩ = false)
theorem Row5.own {A B : World} {row : Option Nat} {g : Nat} {c0 c1 c2 c3 c4 : Value} (h : Row5 A g c0 c1 c2 c3 c4) (hg : A.grownBy B row) (hr : ∀ r, row = some r → ∃ o, A.heap[r]? = some o ∧ o.isCells = false) : Row5 B g c0 c1 c2 c3 c4 := by
  obtain ⟨⟨y0, f0⟩, ⟨y1, f1⟩, ⟨y2, f2⟩, ⟨y3, f3⟩, ⟨y4, f4⟩⟩ := h
  exact ⟨⟨cell_kept y0 hg hr, (frozen_kept y0 hg hr).trans f0⟩, ⟨cell_kept y1 hg hr, (frozen_kept y1 hg hr).trans f1⟩, ⟨cell_kept y2 hg hr, (frozen_kept y2 hg hr).trans f2⟩, ⟨cell_kept y3 hg hr, (frozen_kept y3 hg hr).trans f3⟩, ⟨cell_kept y4 hg hr, (frozen_kept y4 hg hr).trans f4⟩⟩
theorem frozen_alloc' {W : World} {p : Addr} {v : Value} (h : W.cell? p = some v) (hf : W.frozen? p = false) (o : Obj) : (W.alloc o).frozen? p = false := by
  have hlt : p.block < W.heap.size := by
    rcases Nat.lt_or_ge p.block W.heap.size with h' | h'
    · exact h'
    · simp [World.cell?, Array.getElem?_eq_none h'] at h
  unfold World.frozen? at *
  rw [Below.heap_alloc _ _ _ hlt]; exact hf
theorem Row5.alloc {W : World} {g : Nat} {c0 c1 c2 c3 c4 : Value} (h : Row5 W g c0 c1 c2 c3 c4) (o : Obj) : Row5 (W.alloc o) g c0 c1 c2 c3 c4 := by
  obtain ⟨⟨y0, f0⟩, ⟨y1, f1⟩, ⟨y2, f2⟩, ⟨y3, f3⟩, ⟨y4, f4⟩⟩ := h
  exact ⟨⟨cell_alloc' y0 o, frozen_alloc' y0 f0 o⟩, ⟨cell_alloc' y1 o, frozen_alloc' y1 f1 o⟩, ⟨cell_alloc' y2 o, frozen_alloc' y2 f2 o⟩, ⟨cell_alloc' y3 o, frozen_alloc' y3 f3 o⟩, ⟨cell_alloc' y4 o, frozen_alloc' y4 f4 o⟩⟩
theorem Row5.put {W : World} {g : Nat} {c0 c1 c2 c3 c4 : Value} (h : Row5 W g c0 c1 c2 c3 c4) (a0 a1 a2 a3 a4 : Value) : Row5 (put5 W g a0 a1 a2 a3 a4) g a0 a1 a2 a3 a4 := by
  obtain ⟨⟨y0, f0⟩, ⟨y1, f1⟩, ⟨y2, f2⟩, ⟨y3, f3⟩, ⟨y4, f4⟩⟩ := h
  cases hh : W.heap[g]? with
  | none => simp [World.cell?, hh] at y4
  | some o =>
    cases o with
    | cells cur t fz =>
      obtain ⟨lo, hi⟩ := fz
      have hp : (put5 W g a0 a1 a2 a3 a4).heap[g]? = some (.cells (((((cur.setIfInBounds 0 a0).setIfInBounds 1 a1).setIfInBounds 2 a2).setIfInBounds 3 a3).setIfInBounds 4 a4) t (lo, hi)) := by
        simp [put5, World.setCell, Array.getElem?_modify, hh]
      have h5 : 4 < cur.size := by
        simp [World.cell?, hh] at y4
        exact (Array.getElem?_eq_some_iff.1 y4).1
      simp only [World.frozen?, hh] at f0 f1 f2 f3 f4
      refine ⟨⟨?_, ?_⟩, ⟨?_, ?_⟩, ⟨?_, ?_⟩, ⟨?_, ?_⟩, ⟨?_, ?_⟩⟩
      all_goals first
        | (simp only [World.frozen?, hp]; assumption)
        | (have l0 : 0 < cur.size := by omega
           have l1 : 1 < cur.size := by omega
           have l2 : 2 < cur.size := by omega
           have l3 : 3 < cur.size := by omega
           simp [World.cell?, *])
    | _ => simp [World.cell?, hh] at y4
theorem Row5.far {W W' : World} {g : Nat} {c0 c1 c2 c3 c4 : Value} (h : Row5 W g c0 c1 c2 c3 c4) (hk : W'.heap[g]? = W.heap[g]?) : Row5 W' g c0 c1 c2 c3 c4 := by
  unfold Row5 at *
  unfold World.cell? World.frozen? at *
  rw [hk]; exact h
theorem Row5.lt {W : World} {g : Nat} {c0 c1 c2 c3 c4 : Value} (h : Row5 W g c0 c1 c2 c3 c4) : g < W.heap.size := by
  rcases Nat.lt_or_ge g W.heap.size with h' | h'
  · exact h'
  · have := h.1.1
    simp [World.cell?, Array.getElem?_eq_none h'] at this
theorem KeepsOthers.put5 (W : World) (g : Nat) (a0 a1 a2 a3 a4 : Value) : KeepsOthers W (put5 W g a0 a1 a2 a3 a4) := by
  unfold Go.Proofs.YthgnkhpomhcdkaaGreatDoor.put5
  exact ((((KeepsOthers.setCell _ _ _).trans (KeepsOthers.setCell _ _ _)).trans (KeepsOthers.setCell _ _ _)).trans (KeepsOthers.setCell _ _ _)).trans (KeepsOthers.setCell _ _ _)
theorem Row5.cells {W : World} {g : Nat} {k x : Int} {tx : ByteArray} {nm it : Value} (h : Row5 W g (.int .i64 k) (.int .i64 x) (.string tx) nm it) : CellsAt W g 0 (five k x tx nm it) := by
  obtain ⟨⟨y0, f0⟩, ⟨y1, f1⟩, ⟨y2, f2⟩, ⟨y3, f3⟩, ⟨y4, f4⟩⟩ := h
  intro j u hj
  rw [Nat.zero_add]
  rcases j with _ | _ | _ | _ | _ | j
  · cases hj; exact y0
  · cases hj; exact y1
  · cases hj; exact y2
  · cases hj; exact y3
  · cases hj; exact y4
  · simp [five] at hj
/-- An object of one member. -/
theorem one_object {W : World} {g1 g2 : Nat} {s : ByteArray} {t : Tr} {cs : List Value} (hc : W.cell? ⟨g1, 0, none⟩ = some (.string s)) (hl : g2 < W.heap.size) (hcl : CellsAt W g2 0 cs) (hV : VRep W t cs) : VRep W (.node 6 0 ⟨#[]⟩ [s] [t]) (five 6 0 ⟨#[]⟩ (.slice (some ⟨g1, 0, none⟩) 1 1) (.slice (some ⟨g2, 0, none⟩) 1 1)) := by
  have hgl : g1 < W.heap.size := by
    rcases Nat.lt_or_ge g1 W.heap.size with h' | h'
    · exact h'
    · simp [World.cell?, Array.getElem?_eq_none h'] at hc
  unfold VRep
  refine ⟨_, _, 1, rfl, ⟨_, 1, rfl, ⟨Nat.le_refl _, by omega⟩, .inr ⟨g1, 0, rfl, hgl, fun j u hj => ?_⟩⟩, ⟨Nat.le_refl _, by omega⟩, .inr ⟨g2, 0, rfl, hl, ?_⟩⟩
  · rcases j with _ | j
    · cases hj; exact hc
    · simp at hj
  · unfold VRepL
    exact ⟨cs, hcl, hV, by unfold VRepL; trivial⟩
theorem row5_of {W : World} {B : Nat} {c0 c1 c2 c3 c4 : Value} {t : TypeId} (h : W.heap[B]? = some (.cells #[c0, c1, c2, c3, c4] t (0, 0))) : Row5 W B c0 c1 c2 c3 c4 := by
  obtain ⟨y0, y1, y2, y3, y4, f⟩ := row_cells h
  exact ⟨⟨y0, f 0⟩, ⟨y1, f 1⟩, ⟨y2, f 2⟩, ⟨y3, f 3⟩, ⟨y4, f 4⟩⟩

end Go.Proofs.YthgnkhpomhcdkaaGreatDoor
/-! Taken over from r4b/C2. -/
namespace Go.Proofs.YthgnkhpomhcdkaaGreatDoor
open Go Go.RowKit Dp

theorem A25 : (Tryz.prog.info? 28).map (fun i => (i.zero, i.size, i.bytes)) = some (some (.agg #[.int .i64 0, .int .i64 0, .string ⟨#[]⟩, .slice none 0 0, .slice none 0 0]), 5, 80) := by kernel_rfl
theorem make_s (l c : Int) (h0 : 0 ≤ l) (hlc : l ≤ c) (hc : c ≤ 100) (w : World) : (Instr.makeSlice 25 (.int .i64 l) (.int .i64 c)).run Tryz.prog w = .ok (.slice (some ⟨w.heap.size, 0, none⟩) l.toNat c.toNat) (w.alloc (.cells (madeCells #[.string ⟨#[]⟩] c.toNat) 9)) := by
  obtain ⟨i9, hi9, hz90, hz91, hz92⟩ := info_parts A9
  have := run_make (P := Tryz.prog) w 25 9 i9 _ Tryz.underlying25 hi9 hz90 .i64 .i64 l c h0 hlc (by rw [hz92]; omega) (by omega)
  rw [this, hz91, Nat.mul_one]
  rfl
theorem make_v (l c : Int) (h0 : 0 ≤ l) (hlc : l ≤ c) (hc : c ≤ 100) (w : World) : (Instr.makeSlice 26 (.int .i64 l) (.int .i64 c)).run Tryz.prog w = .ok (.slice (some ⟨w.heap.size, 0, none⟩) l.toNat c.toNat) (w.alloc (.cells (madeCells #[.int .i64 0, .int .i64 0, .string ⟨#[]⟩, .slice none 0 0, .slice none 0 0] (c.toNat * 5)) 28)) := by
  obtain ⟨i, hi, hz0, hz1, hz2⟩ := info_parts A25
  have := run_make (P := Tryz.prog) w 26 28 i _ Tryz.underlying26 hi hz0 .i64 .i64 l c h0 hlc (by rw [hz2]; omega) (by omega)
  rw [this, hz1]
  rfl
theorem add_lit (b o j : Nat) : (⟨b, o, none⟩ : Addr).add j = ⟨b, o + j, none⟩ := by unfold Addr.add; split <;> simp_all
theorem copy_zero {P : Program} (w : World) (t ty elem : TypeId) (i : TypeInfo) (d a : Option Addr) (dCap sCap : Nat) (hu : P.underlying t = some (.slice elem)) (hi : P.info? elem = some i) :
    (Builtin.copy_ #[t, t] ty #[.slice d 0 dCap, .slice a 0 sCap]).run P w = .ok (goInt 0) w := by
  cases a with
  | none => cases d <;> simp [Builtin.copy_, run_underlying hu, Builtin.lenOf, Builtin.firstCells, sizeOf, typeInfo, hi, storeCells]
  | some a =>
    have hl := run_loadCells_list (P := P) w a [] (fun j v h => by simp at h)
    simp only [List.length_nil] at hl
    cases d <;> simp [Builtin.copy_, run_underlying hu, Builtin.lenOf, Builtin.firstCells, sizeOf, typeInfo, hi, storeCells, hl]
theorem made_s1 : madeCells #[Value.string ⟨#[]⟩] 1 = #[.string ⟨#[]⟩] := by kernel_rfl
theorem made_v1 : madeCells #[Value.int .i64 0, .int .i64 0, .string ⟨#[]⟩, .slice none 0 0, .slice none 0 0] 5 = #[.int .i64 0, .int .i64 0, .string ⟨#[]⟩, .slice none 0 0, .slice none 0 0] := by kernel_rfl
set_option maxHeartbeats 1000000 in
set_option maxRecDepth 100000 in
theorem copied_s0 (a : Option Addr) (c : Nat) (w : World) : Calls Tryz.prog 207 #[.slice a 0 c] w fun e w' => e = .returned (.slice (some ⟨w.heap.size, 0, none⟩) 0 1) ∧ w' = w.alloc (.cells #[.string ⟨#[]⟩] 9) := by
  have hmk := fun w => make_s 0 1 (by decide) (by decide) (by decide) w
  simp only [Int.toNat_zero, show (1 : Int).toNat = 1 from rfl, made_s1] at hmk
  obtain ⟨i9, hi9, -, -, -⟩ := info_parts A9
  have hcp := fun w d a dCap sCap => copy_zero (P := Tryz.prog) w 25 3 9 i9 d a dCap sCap Tryz.underlying25 hi9
  cases a
  all_goals
    go_enter Tryz.func207, Tryz.ntmps207
    go_wp2
    go_ret
    exact ⟨rfl, rfl⟩
set_option maxHeartbeats 1000000 in
set_option maxRecDepth 100000 in
theorem copied_v0 (a : Option Addr) (c : Nat) (w : World) : Calls Tryz.prog 206 #[.slice a 0 c] w fun e w' => e = .returned (.slice (some ⟨w.heap.size, 0, none⟩) 0 1) ∧ w' = w.alloc (.cells #[.int .i64 0, .int .i64 0, .string ⟨#[]⟩, .slice none 0 0, .slice none 0 0] 28) := by
  have hmk := fun w => make_v 0 1 (by decide) (by decide) (by decide) w
  simp only [Int.toNat_zero, show (1 : Int).toNat = 1 from rfl, Nat.one_mul, made_v1] at hmk
  obtain ⟨i, hi, -, -, -⟩ := info_parts A25
  have hcp := fun w d a dCap sCap => copy_zero (P := Tryz.prog) w 26 3 28 i d a dCap sCap Tryz.underlying26 hi
  cases a
  all_goals
    go_enter Tryz.func206, Tryz.ntmps206
    go_wp2
    go_ret
    exact ⟨rfl, rfl⟩
end Go.Proofs.YthgnkhpomhcdkaaGreatDoor
/-! Taken over from r4b/C4. -/
namespace Go.Proofs.YthgnkhpomhcdkaaGreatDoor
open Go Go.RowKit Dp
attribute [local go_sem] Oper.semAt_some

theorem keepsOthers_below {W W' : World} (h : Below W.heap.size W W') : KeepsOthers W W' := ⟨h.size, fun k _ hk _ => (h.block k (Array.getElem?_eq_some_iff.1 hk).1).trans hk⟩

set_option maxHeartbeats 1000000 in
theorem back_t_in (F : Fence) (n : Nat) (hf : F.fn 170) (hro : F.round = none) (a : Option Addr) (len cap : Nat) (w : World) :
    CallsIn F n Tryz.prog 170 #[.slice a len cap] w fun e w' => e = .returned (.func (.func 205) #[] #[.pointer (some ⟨w.heap.size, 0, none⟩)]) ∧ w' = w.alloc (.cells #[.slice a len cap] 164) := by
  refine callsIn_of_wp Tryz.func170 rfl hf ?_ hro
  simp only [Tryz.ntmps170, List.size_toArray, List.length_cons, List.length_nil, Nat.reduceAdd, Nat.reduceSub, Array.replicate_succ, Array.replicate_zero, List.push_toArray, List.append_toArray, List.nil_append, List.cons_append]
  gi_wp2
  go_ret
  exact ⟨rfl, rfl⟩

end Go.Proofs.YthgnkhpomhcdkaaGreatDoor
/-! Taken over from r4b/D1. -/
namespace Go.Proofs.YthgnkhpomhcdkaaGreatDoor
open Go Go.RowKit Dp

theorem field4 (c0 c1 c2 c3 c4 : Value) (w : World) : (Instr.field 28 (.agg #[c0, c1, c2, c3, c4]) 4).run Tryz.prog w = .ok c4 w := by kernel_rfl
theorem A64 : (Tryz.prog.info? 169).map (fun i => (i.zero, i.size, i.bytes)) = some (some (.agg #[.int .i64 0, .int .i64 0, .string ⟨#[]⟩, .slice none 0 0, .slice none 0 0, .string ⟨#[]⟩, .int .i64 0]), 7, 104) := by kernel_rfl
theorem Row5.below {W W' : World} {g : Nat} {c0 c1 c2 c3 c4 : Value} (h : Row5 W g c0 c1 c2 c3 c4) (hb : Below W.heap.size W W') : Row5 W' g c0 c1 c2 c3 c4 := h.far (hb.block _ h.lt)

end Go.Proofs.YthgnkhpomhcdkaaGreatDoor
/-! Taken over from r4b/D2. -/
namespace Go.Proofs.YthgnkhpomhcdkaaGreatDoor
open Go Go.RowKit Dp

theorem Row5.drew {W : World} {g : Nat} {c0 c1 c2 c3 c4 : Value} (h : Row5 W g c0 c1 c2 c3 c4) : Row5 W.drew g c0 c1 c2 c3 c4 := h
theorem grown_far {W W' : World} {row : Option Nat} {g : Nat} (h : W.grownBy W' row) (hl : g < W.heap.size) (hn : some g ≠ row) : W'.heap[g]? = W.heap[g]? := h.block g hl hn

end Go.Proofs.YthgnkhpomhcdkaaGreatDoor
/-! Taken over from r4b/D5. -/
namespace Go.Proofs.YthgnkhpomhcdkaaGreatDoor
open Go Go.RowKit Dp

theorem owns_cells {w : World} {lo : Nat} {e : TypeId} {size g cap n : Nat} {xs : List Value} (h : w.ownsRow lo e size (.slice (some ⟨g, 0, none⟩) n cap) n xs) : CellsAt w g 0 xs ∧ g < w.heap.size ∧ lo ≤ g ∧ n ≤ cap := by
  obtain ⟨h1, h2⟩ := h
  rcases h2 with ⟨hv, _⟩ | ⟨g', cap', cur, hv, hg, hh, hc, hm, hs, hr⟩
  · cases hv
  · cases hv
    refine ⟨fun j u hj => ?_, (Array.getElem?_eq_some_iff.1 hh).1, hg, hc⟩
    have hlt := (List.getElem?_eq_some_iff.1 hj).1
    rw [← hr, List.getElem?_take_of_lt (by omega), Array.getElem?_toList] at hj
    rw [Nat.zero_add]
    simp [World.cell?, hh, hj]


end Go.Proofs.YthgnkhpomhcdkaaGreatDoor
/-! Taken over from r4b/D6. -/
namespace Go.Proofs.YthgnkhpomhcdkaaGreatDoor
open Go Go.RowKit Dp

theorem seen_in {W : World} {n m : Nat} {t : Tr} {cs : List Value} (h : Seen W (fun k => k < n ∨ m < k) t cs) : Seen W (fun k => k < n ∨ (m < k ∧ k < W.heap.size)) t cs := fun W' a => h W' ⟨a.1, fun p u hp hc => a.2 p u (hp.imp id (fun h => ⟨h, cell_lt hc⟩)) hc⟩
theorem drew_below {w w' : World} (h : Below w.drew.heap.size w.drew w') : Below w.heap.size w w' := ⟨h.os, h.tape, h.output, h.size, h.block⟩
end Go.Proofs.YthgnkhpomhcdkaaGreatDoor
