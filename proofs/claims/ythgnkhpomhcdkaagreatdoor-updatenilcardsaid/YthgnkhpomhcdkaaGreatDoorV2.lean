import Derived.Test.YthgnkhpomhcdkaaGreatDoorProg
import Derived.WalkKit
import Derived.WalkLawsBesides
import Derived.Outline
import Derived.Below
import Derived.Deep.QuietTactic
import Derived.BigQuiet
import Derived.Deep.AppendLies
import Derived.Deep.AppendSrc
import Derived.Maps.AppendAt
import Derived.OwnWalk
import Derived.Handy
import Derived.Deep.DeepFit
import Derived.SliceStrings
import Derived.SizedLaws
import Derived.Lib.Bytealg
/-! Values in memory, read only, as plain trees. -/
namespace Go.Proofs.YthgnkhpomhcdkaaGreatDoor
open Go Go.RowKit

theorem ret_bool {a b : Bool} (h : a = b) : Ending.returned (.bool a) = .returned (.bool b) := by rw [h]
theorem ret_int {k : IntKind} {a b : Int} (h : a = b) : Ending.returned (.int k a) = .returned (.int k b) := by rw [h]

def strs (l : List ByteArray) : List Value := l.map Value.string
theorem below_drewN {B : Nat} {x w : World} (h : Below B x w) (n : Nat) : Below B x (w.drewN n) := ⟨h.os, h.tape, h.output, h.size, h.block⟩
theorem hid_e {p : Prop} (h : p) : Hid p := h
theorem hid_of {p : Prop} (h : p) : Hid p := h
/-- The slice v reads as the texts l. -/
def Reads (w : World) (v : Value) (l : List ByteArray) : Prop :=
  ∃ a c, v = .slice a l.length c ∧ (l.length ≤ c ∧ c ≤ 9223372036854775807) ∧ (l = [] ∨ ∃ b o, a = some ⟨b, o, none⟩ ∧ b < w.heap.size ∧ ∀ j s, l[j]? = some s → w.cell? ⟨b, o + j, none⟩ = some (.string s))
theorem Reads.keep {w w' : World} {v : Value} {l : List ByteArray} (h : Reads w v l) (hb : Below w.heap.size w w') : Reads w' v l := by
  obtain ⟨a, c, rfl, hc, h | ⟨b, o, rfl, hlt, h⟩⟩ := h
  · exact ⟨a, c, rfl, hc, .inl h⟩
  · exact ⟨_, c, rfl, hc, .inr ⟨b, o, rfl, Nat.lt_of_lt_of_le hlt hb.size, fun j s hj => (hb.cell (p := ⟨b, o + j, none⟩) hlt).trans (h j s hj)⟩⟩
theorem Reads.len {w : World} {v : Value} {l : List ByteArray} (h : Reads w v l) : l.length ≤ 9223372036854775807 := by
  obtain ⟨_, _, _, hc, _⟩ := h
  omega
theorem Reads.drewN {w : World} {v : Value} {l : List ByteArray} (h : Reads w v l) (q : Nat) : Reads (w.drewN q) v l := h
theorem reads_row {w : World} {g cap : Nat} {cur : Array Value} {t : TypeId} {f : Nat × Nat} {l r : List ByteArray} (hh : w.heap[g]? = some (.cells cur t f)) (hl : l.length ≤ cap ∧ cap ≤ 9223372036854775807) (hr : cur.toList.take (l ++ r).length = strs (l ++ r)) : Reads w (.slice (some ⟨g, 0, none⟩) l.length cap) l := by
  refine ⟨_, cap, rfl, hl, .inr ⟨g, 0, rfl, (Array.getElem?_eq_some_iff.1 hh).1, fun j s hj => ?_⟩⟩
  have hlt : j < l.length := (List.getElem?_eq_some_iff.1 hj).1
  have : (strs (l ++ r))[j]? = some (.string s) := by
    unfold strs; rw [List.getElem?_map, List.getElem?_append_left hlt, hj]; rfl
  rw [← hr, List.getElem?_take_of_lt (by simp; omega), Array.getElem?_toList] at this
  simp [World.cell?, hh, this]
theorem reads_own {w : World} {lo : Nat} {v : Value} {l : List ByteArray} (h : w.ownsRow lo 9 1 v l.length (strs l)) : Reads w v l := by
  obtain ⟨h1, h2⟩ := h
  rcases h2 with ⟨hv, h0⟩ | ⟨g, cap, cur, rfl, hg, hh, hc, hm, hs, hr⟩
  · have : l = [] := List.eq_nil_of_length_eq_zero h0
    subst this
    subst hv
    exact ⟨none, 0, rfl, ⟨Nat.le_refl _, by omega⟩, .inl rfl⟩
  · exact reads_row (r := []) hh ⟨hc, by unfold maxLen at hm; omega⟩ (by simpa using hr)

inductive Tr where
  | node (k x : Int) (s : ByteArray) (ns : List ByteArray) (its : List Tr)
namespace Tr
def kind : Tr → Int | .node k _ _ _ _ => k
def int : Tr → Int | .node _ x _ _ _ => x
def text : Tr → ByteArray | .node _ _ s _ _ => s
def names : Tr → List ByteArray | .node _ _ _ ns _ => ns
def items : Tr → List Tr | .node _ _ _ _ its => its
end Tr
def five (k x : Int) (s : ByteArray) (nm it : Value) : List Value := [.int .i64 k, .int .i64 x, .string s, nm, it]
/-- These cells lie in block b from o on. -/
def CellsAt (w : World) (b o : Nat) (cs : List Value) : Prop := ∀ j u, cs[j]? = some u → w.cell? ⟨b, o + j, none⟩ = some u
mutual
/-- The five cells read as the value t. -/
def VRep (w : World) : Tr → List Value → Prop
  | .node k x s ns its, cs => ∃ nm a c, cs = five k x s nm (.slice a its.length c) ∧ Reads w nm ns ∧ (its.length ≤ c ∧ c ≤ 9223372036854775807) ∧ (its = [] ∨ ∃ b o, a = some ⟨b, o, none⟩ ∧ b < w.heap.size ∧ VRepL w b o its)
/-- The items lie one behind the other. -/
def VRepL (w : World) (b : Nat) : Nat → List Tr → Prop
  | _, [] => True
  | o, t :: ts => ∃ cs, CellsAt w b o cs ∧ VRep w t cs ∧ VRepL w b (o + 5) ts
end
theorem CellsAt.keep {w w' : World} {b o : Nat} {cs : List Value} (h : CellsAt w b o cs) (hb : Below w.heap.size w w') (hlt : b < w.heap.size) : CellsAt w' b o cs :=
  fun j u hj => (hb.cell (p := ⟨b, o + j, none⟩) hlt).trans (h j u hj)
mutual
theorem VRep.keep {w w' : World} (hb : Below w.heap.size w w') : (t : Tr) → (cs : List Value) → VRep w t cs → VRep w' t cs
  | .node k x s ns its, cs, h => by
    unfold VRep at *
    obtain ⟨nm, a, c, h1, h2, h3, h4⟩ := h
    refine ⟨nm, a, c, h1, h2.keep hb, h3, ?_⟩
    rcases h4 with h4 | ⟨b, o, h5, h6, h7⟩
    · exact .inl h4
    · exact .inr ⟨b, o, h5, Nat.lt_of_lt_of_le h6 hb.size, VRepL.keep hb h6 o its h7⟩
theorem VRepL.keep {w w' : World} (hb : Below w.heap.size w w') {b : Nat} (hlt : b < w.heap.size) : (o : Nat) → (its : List Tr) → VRepL w b o its → VRepL w' b o its
  | _, [], _ => by unfold VRepL; trivial
  | o, t :: ts, h => by
    unfold VRepL at *
    obtain ⟨cs, h1, h2, h3⟩ := h
    exact ⟨cs, h1.keep hb hlt, VRep.keep hb t cs h2, VRepL.keep hb hlt (o + 5) ts h3⟩
end
theorem VRepL.at {w : World} {b : Nat} : (its : List Tr) → (o j : Nat) → (t : Tr) → VRepL w b o its → its[j]? = some t → ∃ cs, CellsAt w b (o + j * 5) cs ∧ VRep w t cs
  | [], _, _, _, _, hj => by simp at hj
  | u :: ts, o, 0, t, h, hj => by
    unfold VRepL at h
    obtain ⟨cs, h1, h2, _⟩ := h
    have : u = t := by simpa using hj
    subst this
    exact ⟨cs, by simpa using h1, h2⟩
  | u :: ts, o, j + 1, t, h, hj => by
    unfold VRepL at h
    obtain ⟨_, _, _, h3⟩ := h
    obtain ⟨cs, h4, h5⟩ := VRepL.at ts (o + 5) j t h3 (by simpa using hj)
    exact ⟨cs, by rw [show o + (j + 1) * 5 = o + 5 + j * 5 by omega]; exact h4, h5⟩

theorem box_cells {w w1 : World} {cs : Array Value} {t : TypeId} (hb : Below (w.alloc (.cells cs t)).heap.size (w.alloc (.cells cs t)) w1) (j : Nat) : w1.cell? ⟨w.heap.size, j, none⟩ = cs[j]? := by
  rw [hb.cell (p := ⟨w.heap.size, j, none⟩) (by show w.heap.size < (w.alloc _).heap.size; rw [World.size_alloc]; omega)]
  unfold World.cell?
  rw [heap_alloc_new w]
  rfl
theorem below_box {w w1 : World} {o : Obj} (hb : Below (w.alloc o).heap.size (w.alloc o) w1) : Below w.heap.size w w1 := ((Below.refl _ w).alloc (Nat.le_refl _) o).trans (hb.mono (by rw [World.size_alloc]; omega))
theorem below_drew {B : Nat} {x w : World} (h : Below B x w) : Below B x w.drew := ⟨h.os, h.tape, h.output, h.size, h.block⟩
theorem new1 (w : World) (o o' : Obj) : ((w.alloc o).alloc o').heap[w.heap.size]? = some o := by
  rw [Below.heap_alloc _ _ _ (by simp)]
  exact heap_alloc_new w o
theorem new2 (w : World) (o o' : Obj) : ((w.alloc o).alloc o').heap[w.heap.size + 1]? = some o' := by
  have := heap_alloc_new (w.alloc o) o'
  rw [World.size_alloc] at this
  exact this
theorem vrep_five {w : World} {t : Tr} {cs : List Value} (h : VRep w t cs) : ∃ k x s an ln cn ai li ci, cs = five k x s (.slice an ln cn) (.slice ai li ci) := by
  cases t; unfold VRep at h; obtain ⟨nm, a, c, h1, ⟨an, cn, rfl, _⟩, _⟩ := h; exact ⟨_, _, _, _, _, _, _, _, _, h1⟩
theorem row_cells {w : World} {B : Nat} {c0 c1 c2 c3 c4 : Value} {t : TypeId} (h : w.heap[B]? = some (.cells #[c0, c1, c2, c3, c4] t (0, 0))) : w.cell? ⟨B, 0, none⟩ = some c0 ∧ w.cell? ⟨B, 1, none⟩ = some c1 ∧ w.cell? ⟨B, 2, none⟩ = some c2 ∧ w.cell? ⟨B, 3, none⟩ = some c3 ∧ w.cell? ⟨B, 4, none⟩ = some c4 ∧ ∀ j, w.frozen? ⟨B, j, none⟩ = false := by
  refine ⟨?_, ?_, ?_, ?_, ?_, fun j => ?_⟩
  all_goals simp [World.cell?, World.frozen?, h]

theorem add_off (b o j : Nat) : (⟨b, o, none⟩ : Addr).add j = ⟨b, o + j, none⟩ := by unfold Addr.add; split <;> simp_all
theorem lt_of_cell {W : World} {p : Addr} {v : Value} (h : W.cell? p = some v) : p.block < W.heap.size := by
  rcases Nat.lt_or_ge p.block W.heap.size with h' | h'
  · exact h'
  · simp [World.cell?, Array.getElem?_eq_none h'] at h

theorem cell_alloc' {W : World} {p : Addr} {v : Value} (h : W.cell? p = some v) (o : Obj) : (W.alloc o).cell? p = some v := (World.cell?_of_block (w := W) (a := p) (Below.heap_alloc _ _ _ (lt_of_cell h))).trans h
theorem stay {w w' : World} (h : Below w.heap.size w w') {p : Addr} {v : Value} (hc : w.cell? p = some v) : w'.cell? p = some v := (h.cell (lt_of_cell hc)).trans hc

theorem tr_lt {its : List Tr} {i : Nat} {t : Tr} (h : its[i]? = some t) : SizeOf.sizeOf t < SizeOf.sizeOf its := by
  have := List.mem_of_getElem? h
  exact List.sizeOf_lt_of_mem this

def put5 (w : World) (g : Nat) (a0 a1 a2 a3 a4 : Value) : World := ((((w.setCell ⟨g, 0, none⟩ a0).setCell ⟨g, 1, none⟩ a1).setCell ⟨g, 2, none⟩ a2).setCell ⟨g, 3, none⟩ a3).setCell ⟨g, 4, none⟩ a4
theorem put5_at {w : World} {g : Nat} {c0 c1 c2 c3 c4 : Value} {t : TypeId} (h : w.heap[g]? = some (.cells #[c0, c1, c2, c3, c4] t (0, 0))) (a0 a1 a2 a3 a4 : Value) : (put5 w g a0 a1 a2 a3 a4).heap[g]? = some (.cells #[a0, a1, a2, a3, a4] t (0, 0)) := by
  simp [put5, World.setCell, Array.getElem?_modify, h]
theorem put5_far {w : World} {g : Nat} (a0 a1 a2 a3 a4 : Value) {k : Nat} (hk : k ≠ g) : (put5 w g a0 a1 a2 a3 a4).heap[k]? = w.heap[k]? := by
  unfold put5
  rw [Below.heap_setCell _ _ _ _ hk, Below.heap_setCell _ _ _ _ hk, Below.heap_setCell _ _ _ _ hk, Below.heap_setCell _ _ _ _ hk, Below.heap_setCell _ _ _ _ hk]
theorem put5_size (w : World) (g : Nat) (a0 a1 a2 a3 a4 : Value) : (put5 w g a0 a1 a2 a3 a4).heap.size = w.heap.size := by simp [put5, World.setCell]
theorem set_os (w : World) (p : Addr) (u : Value) : (w.setCell p u).os = w.os := rfl
theorem set_tape (w : World) (p : Addr) (u : Value) : (w.setCell p u).tape = w.tape := rfl
theorem set_out (w : World) (p : Addr) (u : Value) : (w.setCell p u).output = w.output := rfl
theorem put5_below {w : World} {g B : Nat} (h : B ≤ g) (a0 a1 a2 a3 a4 : Value) : Below B w (put5 w g a0 a1 a2 a3 a4) :=
  ⟨by unfold put5; rw [set_os, set_os, set_os, set_os, set_os], by unfold put5; rw [set_tape, set_tape, set_tape, set_tape, set_tape], by unfold put5; rw [set_out, set_out, set_out, set_out, set_out], by rw [put5_size]; exact Nat.le_refl _, fun k hk => put5_far _ _ _ _ _ (by omega)⟩
theorem put5_cells {w : World} {g : Nat} {c0 c1 c2 c3 c4 : Value} {t : TypeId} (h : w.heap[g]? = some (.cells #[c0, c1, c2, c3, c4] t (0, 0))) (a0 a1 a2 a3 a4 : Value) :
    ∀ j, (((((w.setCell ⟨g, 0, none⟩ a0).setCell ⟨g, 1, none⟩ a1).setCell ⟨g, 2, none⟩ a2).setCell ⟨g, 3, none⟩ a3).setCell ⟨g, 4, none⟩ a4).cell? ⟨g, j, none⟩ = #[a0, a1, a2, a3, a4][j]? := fun j => by
  have := put5_at h a0 a1 a2 a3 a4
  unfold put5 at this
  unfold World.cell?
  rw [this]
  rfl

def zeroV : Value := .agg #[.int .i64 0, .int .i64 0, .string ⟨#[]⟩, .slice none 0 0, .slice none 0 0]
end Go.Proofs.YthgnkhpomhcdkaaGreatDoor
/-! Parts, Equal. -/
namespace Go.Proofs.YthgnkhpomhcdkaaGreatDoor
open Go Go.RowKit

set_option maxHeartbeats 2000000 in
set_option maxRecDepth 100000 in
theorem parts_one (k x : Int) (s : ByteArray) (an : Option Addr) (ln cn : Nat) (ai : Option Addr) (M ci : Nat) (m : Int) (w : World) (hM : M ≤ 9223372036854775807)
    (hI : Hid (∀ i, i < M → ∃ (b o : Nat) (k2 x2 : Int) (s2 : ByteArray) (an2 : Option Addr) (ln2 cn2 : Nat) (ai2 : Option Addr) (li2 ci2 : Nat), ai = some ⟨b, o, none⟩ ∧ b < w.heap.size ∧ CellsAt w b (o + i * 5) [.int .i64 k2, .int .i64 x2, .string s2, .slice an2 ln2 cn2, .slice ai2 li2 ci2] ∧
      ∀ m' w', Below w.heap.size w w' → Calls Tryz.prog 17 #[.agg #[.int .i64 k2, .int .i64 x2, .string s2, .slice an2 ln2 cn2, .slice ai2 li2 ci2], .int .i64 m'] w' fun e w'' => (∃ n, e = .returned (.int .i64 n)) ∧ Below w'.heap.size w' w'')) :
    Calls Tryz.prog 17 #[.agg #[.int .i64 k, .int .i64 x, .string s, .slice an ln cn, .slice ai M ci], .int .i64 m] w fun e w' => (∃ n, e = .returned (.int .i64 n)) ∧ Below w.heap.size w w' := by
  go_enter Tryz.func17, Tryz.ntmps17
  go_wp2_with fail
  go_loopw [5, 6] (fun n i wr => ∃ (z : Int) (q : Nat), q ≤ M ∧ n = .int .i64 z ∧ i = .int .i64 q ∧ Below w.heap.size w wr ∧ wr.heap[w.heap.size]? = some (.cells #[.int .i64 k, .int .i64 x, .string s, .slice an ln cn, .slice ai M ci] 28 (0, 0))) (fun _ i _ => M - (intOf i).toNat)
  case atStart => exact ⟨_, 0, Nat.zero_le _, rfl, rfl, (Below.refl _ w).alloc (Nat.le_refl _) _, heap_alloc_new w _⟩
  case round =>
    obtain ⟨z, q, hq, rfl, rfl, hbel, hb0⟩ := hrel
    obtain ⟨y0, y1, y2, y3, y4, yf⟩ := row_cells hb0
    clear y0 y1 y2 y3 yf
    by_cases hlt : q < M
    · have hd : decide ((q : Int) < (M : Int)) = true := by simp; omega
      by_cases hz : z ≤ m
      · have hd2 : decide (z ≤ m) = true := by simpa using hz
        obtain ⟨b, o, k2, x2, s2, an2, ln2, cn2, ai2, li2, ci2, rfl, hbl, hC, hcall⟩ := hI.out q hlt
        have g0 : wr.cell? ⟨b, o + q * 5, none⟩ = some (.int .i64 k2) := (hbel.cell (p := ⟨b, o + q * 5, none⟩) hbl).trans (hC 0 _ rfl)
        have g1 : wr.cell? ⟨b, o + q * 5 + 1, none⟩ = some (.int .i64 x2) := (hbel.cell (p := ⟨b, o + q * 5 + 1, none⟩) hbl).trans (hC 1 _ rfl)
        have g2 : wr.cell? ⟨b, o + q * 5 + 2, none⟩ = some (.string s2) := (hbel.cell (p := ⟨b, o + q * 5 + 2, none⟩) hbl).trans (hC 2 _ rfl)
        have g3 : wr.cell? ⟨b, o + q * 5 + 3, none⟩ = some (.slice an2 ln2 cn2) := (hbel.cell (p := ⟨b, o + q * 5 + 3, none⟩) hbl).trans (hC 3 _ rfl)
        have g4 : wr.cell? ⟨b, o + q * 5 + 4, none⟩ = some (.slice ai2 li2 ci2) := (hbel.cell (p := ⟨b, o + q * 5 + 4, none⟩) hbl).trans (hC 4 _ rfl)
        have hcall' : ∀ m', Hid _ := fun m' => hid_e (hcall m' wr hbel)
        clear hC hcall
        go_wp2_with fail
        go_at_call 17
        refine (hcall' _).out.mono ?_
        rintro e w1 ⟨⟨n, rfl⟩, hb1⟩
        clear g0 g1 g2 g3 g4 hcall' y4
        have hbel1 : Below w.heap.size w w1 := hbel.trans (hb1.mono hbel.size)
        replace hb0 := (hb1.block _ (Array.getElem?_eq_some_iff.1 hb0).1).trans hb0
        go_wp2_with fail
        go_roundw
        case rel => exact ⟨_, q + 1, by omega, rfl, by simp, hbel1, hb0⟩
        case measure => simp [intOf]; omega
      · have hd2 : decide (z ≤ m) = false := by simpa using hz
        go_wp2_with fail
        go_ret
        exact ⟨⟨_, rfl⟩, hbel⟩
    · have hd : decide ((q : Int) < (M : Int)) = false := by simp; omega
      go_wp2_with fail
      go_ret
      exact ⟨⟨_, rfl⟩, hbel⟩

theorem parts_any (t : Tr) (cs : List Value) (m : Int) (w : World) (hV : VRep w t cs) :
    Calls Tryz.prog 17 #[.agg cs.toArray, .int .i64 m] w fun e w' => (∃ n, e = .returned (.int .i64 n)) ∧ Below w.heap.size w w' := by
  match t, hV with
  | .node k x s ns its, hV =>
    unfold VRep at hV
    obtain ⟨nm, a, c, rfl, ⟨an, cn, rfl, _⟩, hc, hI⟩ := hV
    refine parts_one k x s an ns.length cn a its.length c m w (by omega) (hid_e (fun i hi => ?_))
    obtain ⟨b, o, rfl, hb, hL⟩ := hI.resolve_left (by intro e; subst e; simp at hi)
    obtain ⟨cs', h1, h2⟩ := VRepL.at its o i its[i] hL (List.getElem?_eq_getElem hi)
    obtain ⟨k2, x2, s2, an2, ln2, cn2, ai2, li2, ci2, rfl⟩ := vrep_five h2
    refine ⟨b, o, k2, x2, s2, an2, ln2, cn2, ai2, li2, ci2, rfl, hb, h1, fun m' w' hb' => ?_⟩
    have hlt : SizeOf.sizeOf its[i] < SizeOf.sizeOf its := tr_lt (List.getElem?_eq_getElem hi)
    exact parts_any its[i] _ m' w' (VRep.keep hb' _ _ h2)
termination_by SizeOf.sizeOf t
decreasing_by simp only [Tr.node.sizeOf_spec]; omega
set_option maxHeartbeats 2000000 in
set_option maxRecDepth 100000 in
theorem eq_one (k x : Int) (s : ByteArray) (a1 : Option Addr) (N c1 : Nat) (a2 : Option Addr) (M c2 : Nat) (b1 : Option Addr) (d1 : Nat) (b2 : Option Addr) (d2 : Nat) (w : World) (hNm : N ≤ 9223372036854775807) (hMm : M ≤ 9223372036854775807)
    (hN : Hid (∀ i, i < N → ∃ (g o g' o' : Nat) (nm : ByteArray), a1 = some ⟨g, o, none⟩ ∧ b1 = some ⟨g', o', none⟩ ∧ w.cell? ⟨g, o + i, none⟩ = some (.string nm) ∧ w.cell? ⟨g', o' + i, none⟩ = some (.string nm)))
    (hI : Hid (∀ i, i < M → ∃ (g o g' o' : Nat) (k2 x2 : Int) (s2 : ByteArray) (p1 : Option Addr) (l1 e1 : Nat) (p2 : Option Addr) (l2 e2 : Nat) (q1 : Option Addr) (f1 : Nat) (q2 : Option Addr) (f2 : Nat), a2 = some ⟨g, o, none⟩ ∧ b2 = some ⟨g', o', none⟩ ∧
      CellsAt w g (o + i * 5) [.int .i64 k2, .int .i64 x2, .string s2, .slice p1 l1 e1, .slice p2 l2 e2] ∧ CellsAt w g' (o' + i * 5) [.int .i64 k2, .int .i64 x2, .string s2, .slice q1 l1 f1, .slice q2 l2 f2] ∧
      ∀ w', Below w.heap.size w w' → Calls Tryz.prog 10 #[.agg #[.int .i64 k2, .int .i64 x2, .string s2, .slice p1 l1 e1, .slice p2 l2 e2], .agg #[.int .i64 k2, .int .i64 x2, .string s2, .slice q1 l1 f1, .slice q2 l2 f2]] w' fun e w'' => e = .returned (.bool true) ∧ Below w'.heap.size w' w'')) :
    Calls Tryz.prog 10 #[.agg #[.int .i64 k, .int .i64 x, .string s, .slice a1 N c1, .slice a2 M c2], .agg #[.int .i64 k, .int .i64 x, .string s, .slice b1 N d1, .slice b2 M d2]] w fun e w' => e = .returned (.bool true) ∧ Below w.heap.size w w' := by
  have hB2 : ∀ p q, Below w.heap.size w ((w.alloc p).alloc q) := fun p q => ((Below.refl _ w).alloc (Nat.le_refl _) p).alloc (by simp) q
  go_enter Tryz.func10, Tryz.ntmps10
  go_wp2_with fail
  go_loopw [5] (fun i wr => ∃ q : Nat, q ≤ N ∧ i = .int .i64 q ∧ Below w.heap.size w wr ∧ wr.heap[w.heap.size]? = some (.cells #[.int .i64 k, .int .i64 x, .string s, .slice a1 N c1, .slice a2 M c2] 28 (0, 0)) ∧ wr.heap[w.heap.size + 1]? = some (.cells #[.int .i64 k, .int .i64 x, .string s, .slice b1 N d1, .slice b2 M d2] 28 (0, 0))) (fun i _ => N - (intOf i).toNat)
  case atStart => exact ⟨0, Nat.zero_le _, rfl, hB2 _ _, new1 w _ _, new2 w _ _⟩
  case round =>
    obtain ⟨q, hq, rfl, HB, h0, h1⟩ := hrel
    clear hB2
    obtain ⟨-, -, -, y3, y4, -⟩ := row_cells h0
    obtain ⟨-, -, -, y3', -, -⟩ := row_cells h1
    by_cases hlt : q < N
    · obtain ⟨g, o, g', o', nm, rfl, rfl, hc, hc'⟩ := hN.out q hlt
      have n1 := stay HB hc
      have n2 := stay HB hc'
      have i1 : (q : Int) < (N : Int) := by omega
      have i2 : (0 : Int) ≤ (q : Int) := by omega
      have hd : decide ((q : Int) < (N : Int)) = true := by simp; omega
      clear hc hc' y4
      go_wp2_with fail
      go_quiet (fail)
      go_wp2_with fail
      go_roundw
      case rel => exact ⟨q + 1, by omega, by simp, below_drewN HB nq, h0, h1⟩
      case measure => simp [intOf]; omega
    · have hd : decide ((q : Int) < (N : Int)) = false := by simp; omega
      clear y3' y4
      go_wp2_with fail
      clear y3
      go_loopw [6] (fun i wr => ∃ p : Nat, p ≤ M ∧ i = .int .i64 p ∧ Below w.heap.size w wr ∧ wr.heap[w.heap.size]? = some (.cells #[.int .i64 k, .int .i64 x, .string s, .slice a1 N c1, .slice a2 M c2] 28 (0, 0)) ∧ wr.heap[w.heap.size + 1]? = some (.cells #[.int .i64 k, .int .i64 x, .string s, .slice b1 N d1, .slice b2 M d2] 28 (0, 0))) (fun i _ => M - (intOf i).toNat)
      case atStart => exact ⟨0, Nat.zero_le _, rfl, HB, h0, h1⟩
      case round =>
        clear HB h0 h1
        obtain ⟨p, hp, rfl, HB, h0, h1⟩ := hrel
        obtain ⟨-, -, -, -, y4, -⟩ := row_cells h0
        obtain ⟨-, -, -, -, y4', -⟩ := row_cells h1
        by_cases hlt2 : p < M
        · obtain ⟨g, o, g', o', k2, x2, s2, p1, l1, e1, p2, l2, e2, q1, f1, q2, f2, rfl, rfl, hia, hia', hcall⟩ := hI.out p hlt2
          have HC := hid_e hcall
          have i1 : (p : Int) < (M : Int) := by omega
          have i2 : (0 : Int) ≤ (p : Int) := by omega
          have hd2 : decide ((p : Int) < (M : Int)) = true := by simp; omega
          have z0 := stay HB (hia 0 _ rfl)
          have z1 := stay HB (hia 1 _ rfl)
          have z2 := stay HB (hia 2 _ rfl)
          have z3 := stay HB (hia 3 _ rfl)
          have z4 := stay HB (hia 4 _ rfl)
          have v0 := stay HB (hia' 0 _ rfl)
          have v1 := stay HB (hia' 1 _ rfl)
          have v2 := stay HB (hia' 2 _ rfl)
          have v3 := stay HB (hia' 3 _ rfl)
          have v4 := stay HB (hia' 4 _ rfl)
          simp only [Nat.add_zero] at z0 v0
          clear hia hia' hcall
          go_wp2_with fail
          refine wp_region_quiet (C := fun w' => Below wr.heap.size wr w') (by kernel_rfl) (by kernel_rfl) (below_drewN (Below.refl _ _) 1) ?_
          refine wpQuiet_step (fun K hK => ?_)
          go_simp
          refine ⟨_, fun _ _ => rfl, hK _ ?_⟩
          clear hK K
          refine wpQuiet_step (fun K hK => ?_)
          refine ⟨.slice (some ⟨g, o, none⟩) M c2, fun w' hw' => ?_, hK _ ?_⟩
          · have := stay hw' y4
            go_simp
          clear hK K
          refine wpQuiet_step (fun K hK => ?_)
          go_simp
          refine ⟨_, fun _ _ => rfl, hK _ ?_⟩
          clear hK K
          refine wpQuiet_step (fun K hK => ?_)
          go_simp
          refine ⟨_, fun _ _ => rfl, hK _ ?_⟩
          clear hK K
          refine wpQuiet_step (fun K hK => ?_)
          refine ⟨.agg #[.int .i64 k2, .int .i64 x2, .string s2, .slice p1 l1 e1, .slice p2 l2 e2], fun w' hw' => ?_, hK _ ?_⟩
          · have t0 := stay hw' z0
            have t1 := stay hw' z1
            have t2 := stay hw' z2
            have t3 := stay hw' z3
            have t4 := stay hw' z4
            go_simp
          clear hK K
          refine wpQuiet_step (fun K hK => ?_)
          go_simp
          refine ⟨_, fun _ _ => rfl, hK _ ?_⟩
          clear hK K
          refine wpQuiet_step (fun K hK => ?_)
          refine ⟨.slice (some ⟨g', o', none⟩) M d2, fun w' hw' => ?_, hK _ ?_⟩
          · have := stay hw' y4'
            go_simp
          clear hK K
          refine wpQuiet_step (fun K hK => ?_)
          go_simp
          refine ⟨_, fun _ _ => rfl, hK _ ?_⟩
          clear hK K
          refine wpQuiet_step (fun K hK => ?_)
          go_simp
          refine ⟨_, fun _ _ => rfl, hK _ ?_⟩
          clear hK K
          refine wpQuiet_step (fun K hK => ?_)
          refine ⟨.agg #[.int .i64 k2, .int .i64 x2, .string s2, .slice q1 l1 f1, .slice q2 l2 f2], fun w' hw' => ?_, hK _ ?_⟩
          · have t0 := stay hw' v0
            have t1 := stay hw' v1
            have t2 := stay hw' v2
            have t3 := stay hw' v3
            have t4 := stay hw' v4
            go_simp
          clear hK K
          refine wpQuiet_step (fun K hK => ?_)
          refine ⟨.bool true, fun w' hw' => ?_, hK _ ?_⟩
          · go_simp
            refine (HC.out w' (HB.trans (hw'.mono HB.size))).mono ?_
            rintro e w'' ⟨rfl, hb⟩
            exact ⟨rfl, hw'.trans (hb.mono hw'.size)⟩
          clear hK K
          refine wpQuiet_step (fun K hK => ?_)
          go_simp
          refine ⟨_, fun _ _ => rfl, hK _ ?_⟩
          clear hK K
          refine wpQuiet_nil ?_
          intro w' hw'
          have HB' : Below w.heap.size w w' := HB.trans (hw'.mono HB.size)
          have h0' := (hw'.block _ (Array.getElem?_eq_some_iff.1 h0).1).trans h0
          have h1' := (hw'.block _ (Array.getElem?_eq_some_iff.1 h1).1).trans h1
          clear hw' y4 y4' z0 z1 z2 z3 z4 v0 v1 v2 v3 v4
          go_wp2_with fail
          go_roundw
          case rel => exact ⟨p + 1, by omega, by simp, HB', h0', h1'⟩
          case measure => simp [intOf]; omega
        · have hd2 : decide ((p : Int) < (M : Int)) = false := by simp; omega
          go_wp2_with fail
          go_ret
          exact ⟨rfl, HB⟩

theorem reads_two {w : World} {a b : Option Addr} {N c d : Nat} {l : List ByteArray} (h : Reads w (.slice a N c) l) (h' : Reads w (.slice b N d) l) : ∀ i, i < N → ∃ (g o g' o' : Nat) (nm : ByteArray), a = some ⟨g, o, none⟩ ∧ b = some ⟨g', o', none⟩ ∧ w.cell? ⟨g, o + i, none⟩ = some (.string nm) ∧ w.cell? ⟨g', o' + i, none⟩ = some (.string nm) := by
  intro i hi
  obtain ⟨a0, c0, e, _, h⟩ := h
  obtain ⟨b0, d0, e', _, h'⟩ := h'
  cases e
  cases e'
  obtain ⟨g, o, rfl, _, h⟩ := h.resolve_left (by intro e; subst e; simp at hi)
  obtain ⟨g', o', rfl, _, h'⟩ := h'.resolve_left (by intro e; subst e; simp at hi)
  exact ⟨g, o, g', o', l[i], rfl, rfl, h i _ (List.getElem?_eq_getElem hi), h' i _ (List.getElem?_eq_getElem hi)⟩

theorem equal_same (t : Tr) (cs cs' : List Value) (w : World) (hV : VRep w t cs) (hV' : VRep w t cs') :
    Calls Tryz.prog 10 #[.agg cs.toArray, .agg cs'.toArray] w fun e w' => e = .returned (.bool true) ∧ Below w.heap.size w w' := by
  match t, hV, hV' with
  | .node k x s ns its, hV, hV' =>
    unfold VRep at hV hV'
    obtain ⟨nm, a, c, rfl, hn, hc, hI⟩ := hV
    obtain ⟨nm', a', c', rfl, hn', hc', hI'⟩ := hV'
    obtain ⟨an, cn, rfl, hcn, -⟩ := id hn
    obtain ⟨an', cn', rfl, -, -⟩ := id hn'
    refine eq_one k x s an ns.length cn a its.length c an' cn' a' c' w (by omega) (by omega) (hid_e (reads_two hn hn')) (hid_e (fun i hi => ?_))
    obtain ⟨b, o, rfl, hb, hL⟩ := hI.resolve_left (by intro e; subst e; simp at hi)
    obtain ⟨b', o', rfl, hb', hL'⟩ := hI'.resolve_left (by intro e; subst e; simp at hi)
    obtain ⟨u, hu⟩ : ∃ u, its[i]? = some u := ⟨_, List.getElem?_eq_getElem hi⟩
    obtain ⟨ds, h1, h2⟩ := VRepL.at its o i u hL hu
    obtain ⟨ds', h1', h2'⟩ := VRepL.at its o' i u hL' hu
    have hlt : SizeOf.sizeOf u < SizeOf.sizeOf its := tr_lt hu
    have hrec := fun w' (hw : Below w.heap.size w w') => equal_same u ds ds' w' (VRep.keep hw _ _ h2) (VRep.keep hw _ _ h2')
    cases u with
    | node k2 x2 s2 ns2 its2 =>
      unfold VRep at h2 h2'
      obtain ⟨n2, a2, c2, rfl, ⟨p2, e2, rfl, _⟩, _⟩ := h2
      obtain ⟨n2', a2', c2', rfl, ⟨p2', e2', rfl, _⟩, _⟩ := h2'
      exact ⟨b, o, b', o', k2, x2, s2, p2, ns2.length, e2, a2, its2.length, c2, p2', e2', a2', c2', rfl, rfl, h1, h1', hrec⟩
termination_by SizeOf.sizeOf t
decreasing_by simp only [Tr.node.sizeOf_spec]; omega
end Go.Proofs.YthgnkhpomhcdkaaGreatDoor
