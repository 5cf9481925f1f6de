import Derived.Test.YtnlljodmkacmlaaGreatDoorProg
import Derived.WalkKit
import Derived.WalkLawsBesides
import Derived.Outline
import Derived.Below
import Derived.Deep.QuietTactic
import Derived.BigQuiet
import Derived.Deep.AppendLies
import Derived.Deep.AppendSrc
import Derived.Maps.AppendAt
import Derived.OwnWalk
import Derived.Handy
import Derived.Deep.DeepFit
import Derived.SliceStrings
import Derived.SizedLaws
import Derived.Lib.Bytealg
import Derived.OrdersHeld
/-! Values in memory, read only, as plain trees. -/
namespace Go.Proofs.YtnlljodmkacmlaaGreatDoor.Chk
open Go Go.RowKit

theorem ret_bool {a b : Bool} (h : a = b) : Ending.returned (.bool a) = .returned (.bool b) := by rw [h]
theorem ret_int {k : IntKind} {a b : Int} (h : a = b) : Ending.returned (.int k a) = .returned (.int k b) := by rw [h]

def strs (l : List ByteArray) : List Value := l.map Value.string
theorem below_drewN {B : Nat} {x w : World} (h : Below B x w) (n : Nat) : Below B x (w.drewN n) := ⟨h.os, h.tape, h.output, h.size, h.block⟩
theorem hid_e {p : Prop} (h : p) : Hid p := h
theorem hid_of {p : Prop} (h : p) : Hid p := h
/-- The slice v reads as the texts l. -/
def Reads (w : World) (v : Value) (l : List ByteArray) : Prop :=
  ∃ a c, v = .slice a l.length c ∧ (l.length ≤ c ∧ c ≤ 9223372036854775807) ∧ (l = [] ∨ ∃ b o, a = some ⟨b, o, none⟩ ∧ b < w.heap.size ∧ ∀ j s, l[j]? = some s → w.cell? ⟨b, o + j, none⟩ = some (.string s))
theorem Reads.keep {w w' : World} {v : Value} {l : List ByteArray} (h : Reads w v l) (hb : Below w.heap.size w w') : Reads w' v l := by
  obtain ⟨a, c, rfl, hc, h | ⟨b, o, rfl, hlt, h⟩⟩ := h
  · exact ⟨a, c, rfl, hc, .inl h⟩
  · exact ⟨_, c, rfl, hc, .inr ⟨b, o, rfl, Nat.lt_of_lt_of_le hlt hb.size, fun j s hj => (hb.cell (p := ⟨b, o + j, none⟩) hlt).trans (h j s hj)⟩⟩
theorem Reads.len {w : World} {v : Value} {l : List ByteArray} (h : Reads w v l) : l.length ≤ 9223372036854775807 := by
  obtain ⟨_, _, _, hc, _⟩ := h
  omega
theorem Reads.drewN {w : World} {v : Value} {l : List ByteArray} (h : Reads w v l) (q : Nat) : Reads (w.drewN q) v l := h
theorem reads_row {w : World} {g cap : Nat} {cur : Array Value} {t : TypeId} {f : Nat × Nat} {l r : List ByteArray} (hh : w.heap[g]? = some (.cells cur t f)) (hl : l.length ≤ cap ∧ cap ≤ 9223372036854775807) (hr : cur.toList.take (l ++ r).length = strs (l ++ r)) : Reads w (.slice (some ⟨g, 0, none⟩) l.length cap) l := by
  refine ⟨_, cap, rfl, hl, .inr ⟨g, 0, rfl, (Array.getElem?_eq_some_iff.1 hh).1, fun j s hj => ?_⟩⟩
  have hlt : j < l.length := (List.getElem?_eq_some_iff.1 hj).1
  have : (strs (l ++ r))[j]? = some (.string s) := by
    unfold strs; rw [List.getElem?_map, List.getElem?_append_left hlt, hj]; rfl
  rw [← hr, List.getElem?_take_of_lt (by simp; omega), Array.getElem?_toList] at this
  simp [World.cell?, hh, this]
theorem reads_own {w : World} {lo : Nat} {v : Value} {l : List ByteArray} (h : w.ownsRow lo 9 1 v l.length (strs l)) : Reads w v l := by
  obtain ⟨h1, h2⟩ := h
  rcases h2 with ⟨hv, h0⟩ | ⟨g, cap, cur, rfl, hg, hh, hc, hm, hs, hr⟩
  · have : l = [] := List.eq_nil_of_length_eq_zero h0
    subst this
    subst hv
    exact ⟨none, 0, rfl, ⟨Nat.le_refl _, by omega⟩, .inl rfl⟩
  · exact reads_row (r := []) hh ⟨hc, by unfold maxLen at hm; omega⟩ (by simpa using hr)

inductive Tr where
  | node (k x : Int) (s : ByteArray) (ns : List ByteArray) (its : List Tr)
namespace Tr
def kind : Tr → Int | .node k _ _ _ _ => k
def int : Tr → Int | .node _ x _ _ _ => x
def text : Tr → ByteArray | .node _ _ s _ _ => s
def names : Tr → List ByteArray | .node _ _ _ ns _ => ns
def items : Tr → List Tr | .node _ _ _ _ its => its
end Tr
def five (k x : Int) (s : ByteArray) (nm it : Value) : List Value := [.int .i64 k, .int .i64 x, .string s, nm, it]
/-- These cells lie in block b from o on. -/
def CellsAt (w : World) (b o : Nat) (cs : List Value) : Prop := ∀ j u, cs[j]? = some u → w.cell? ⟨b, o + j, none⟩ = some u
mutual
/-- The five cells read as the value t. -/
def VRep (w : World) : Tr → List Value → Prop
  | .node k x s ns its, cs => ∃ nm a c, cs = five k x s nm (.slice a its.length c) ∧ Reads w nm ns ∧ (its.length ≤ c ∧ c ≤ 9223372036854775807) ∧ (its = [] ∨ ∃ b o, a = some ⟨b, o, none⟩ ∧ b < w.heap.size ∧ VRepL w b o its)
/-- The items lie one behind the other. -/
def VRepL (w : World) (b : Nat) : Nat → List Tr → Prop
  | _, [] => True
  | o, t :: ts => ∃ cs, CellsAt w b o cs ∧ VRep w t cs ∧ VRepL w b (o + 5) ts
end
theorem CellsAt.keep {w w' : World} {b o : Nat} {cs : List Value} (h : CellsAt w b o cs) (hb : Below w.heap.size w w') (hlt : b < w.heap.size) : CellsAt w' b o cs :=
  fun j u hj => (hb.cell (p := ⟨b, o + j, none⟩) hlt).trans (h j u hj)
mutual
theorem VRep.keep {w w' : World} (hb : Below w.heap.size w w') : (t : Tr) → (cs : List Value) → VRep w t cs → VRep w' t cs
  | .node k x s ns its, cs, h => by
    unfold VRep at *
    obtain ⟨nm, a, c, h1, h2, h3, h4⟩ := h
    refine ⟨nm, a, c, h1, h2.keep hb, h3, ?_⟩
    rcases h4 with h4 | ⟨b, o, h5, h6, h7⟩
    · exact .inl h4
    · exact .inr ⟨b, o, h5, Nat.lt_of_lt_of_le h6 hb.size, VRepL.keep hb h6 o its h7⟩
theorem VRepL.keep {w w' : World} (hb : Below w.heap.size w w') {b : Nat} (hlt : b < w.heap.size) : (o : Nat) → (its : List Tr) → VRepL w b o its → VRepL w' b o its
  | _, [], _ => by unfold VRepL; trivial
  | o, t :: ts, h => by
    unfold VRepL at *
    obtain ⟨cs, h1, h2, h3⟩ := h
    exact ⟨cs, h1.keep hb hlt, VRep.keep hb t cs h2, VRepL.keep hb hlt (o + 5) ts h3⟩
end
theorem VRepL.at {w : World} {b : Nat} : (its : List Tr) → (o j : Nat) → (t : Tr) → VRepL w b o its → its[j]? = some t → ∃ cs, CellsAt w b (o + j * 5) cs ∧ VRep w t cs
  | [], _, _, _, _, hj => by simp at hj
  | u :: ts, o, 0, t, h, hj => by
    unfold VRepL at h
    obtain ⟨cs, h1, h2, _⟩ := h
    have : u = t := by simpa using hj
    subst this
    exact ⟨cs, by simpa using h1, h2⟩
  | u :: ts, o, j + 1, t, h, hj => by
    unfold VRepL at h
    obtain ⟨_, _, _, h3⟩ := h
    obtain ⟨cs, h4, h5⟩ := VRepL.at ts (o + 5) j t h3 (by simpa using hj)
    exact ⟨cs, by rw [show o + (j + 1) * 5 = o + 5 + j * 5 by omega]; exact h4, h5⟩

theorem box_cells {w w1 : World} {cs : Array Value} {t : TypeId} (hb : Below (w.alloc (.cells cs t)).heap.size (w.alloc (.cells cs t)) w1) (j : Nat) : w1.cell? ⟨w.heap.size, j, none⟩ = cs[j]? := by
  rw [hb.cell (p := ⟨w.heap.size, j, none⟩) (by show w.heap.size < (w.alloc _).heap.size; rw [World.size_alloc]; omega)]
  unfold World.cell?
  rw [heap_alloc_new w]
  rfl
theorem below_box {w w1 : World} {o : Obj} (hb : Below (w.alloc o).heap.size (w.alloc o) w1) : Below w.heap.size w w1 := ((Below.refl _ w).alloc (Nat.le_refl _) o).trans (hb.mono (by rw [World.size_alloc]; omega))
theorem below_drew {B : Nat} {x w : World} (h : Below B x w) : Below B x w.drew := ⟨h.os, h.tape, h.output, h.size, h.block⟩
theorem new1 (w : World) (o o' : Obj) : ((w.alloc o).alloc o').heap[w.heap.size]? = some o := by
  rw [Below.heap_alloc _ _ _ (by simp)]
  exact heap_alloc_new w o
theorem new2 (w : World) (o o' : Obj) : ((w.alloc o).alloc o').heap[w.heap.size + 1]? = some o' := by
  have := heap_alloc_new (w.alloc o) o'
  rw [World.size_alloc] at this
  exact this
theorem vrep_five {w : World} {t : Tr} {cs : List Value} (h : VRep w t cs) : ∃ k x s an ln cn ai li ci, cs = five k x s (.slice an ln cn) (.slice ai li ci) := by
  cases t; unfold VRep at h; obtain ⟨nm, a, c, h1, ⟨an, cn, rfl, _⟩, _⟩ := h; exact ⟨_, _, _, _, _, _, _, _, _, h1⟩
theorem row_cells {w : World} {B : Nat} {c0 c1 c2 c3 c4 : Value} {t : TypeId} (h : w.heap[B]? = some (.cells #[c0, c1, c2, c3, c4] t (0, 0))) : w.cell? ⟨B, 0, none⟩ = some c0 ∧ w.cell? ⟨B, 1, none⟩ = some c1 ∧ w.cell? ⟨B, 2, none⟩ = some c2 ∧ w.cell? ⟨B, 3, none⟩ = some c3 ∧ w.cell? ⟨B, 4, none⟩ = some c4 ∧ ∀ j, w.frozen? ⟨B, j, none⟩ = false := by
  refine ⟨?_, ?_, ?_, ?_, ?_, fun j => ?_⟩
  all_goals simp [World.cell?, World.frozen?, h]

theorem add_off (b o j : Nat) : (⟨b, o, none⟩ : Addr).add j = ⟨b, o + j, none⟩ := by unfold Addr.add; split <;> simp_all
theorem lt_of_cell {W : World} {p : Addr} {v : Value} (h : W.cell? p = some v) : p.block < W.heap.size := by
  rcases Nat.lt_or_ge p.block W.heap.size with h' | h'
  · exact h'
  · simp [World.cell?, Array.getElem?_eq_none h'] at h

theorem cell_alloc' {W : World} {p : Addr} {v : Value} (h : W.cell? p = some v) (o : Obj) : (W.alloc o).cell? p = some v := (World.cell?_of_block (w := W) (a := p) (Below.heap_alloc _ _ _ (lt_of_cell h))).trans h
theorem stay {w w' : World} (h : Below w.heap.size w w') {p : Addr} {v : Value} (hc : w.cell? p = some v) : w'.cell? p = some v := (h.cell (lt_of_cell hc)).trans hc

theorem tr_lt {its : List Tr} {i : Nat} {t : Tr} (h : its[i]? = some t) : SizeOf.sizeOf t < SizeOf.sizeOf its := by
  have := List.mem_of_getElem? h
  exact List.sizeOf_lt_of_mem this

def put5 (w : World) (g : Nat) (a0 a1 a2 a3 a4 : Value) : World := ((((w.setCell ⟨g, 0, none⟩ a0).setCell ⟨g, 1, none⟩ a1).setCell ⟨g, 2, none⟩ a2).setCell ⟨g, 3, none⟩ a3).setCell ⟨g, 4, none⟩ a4
theorem put5_at {w : World} {g : Nat} {c0 c1 c2 c3 c4 : Value} {t : TypeId} (h : w.heap[g]? = some (.cells #[c0, c1, c2, c3, c4] t (0, 0))) (a0 a1 a2 a3 a4 : Value) : (put5 w g a0 a1 a2 a3 a4).heap[g]? = some (.cells #[a0, a1, a2, a3, a4] t (0, 0)) := by
  simp [put5, World.setCell, Array.getElem?_modify, h]
theorem put5_far {w : World} {g : Nat} (a0 a1 a2 a3 a4 : Value) {k : Nat} (hk : k ≠ g) : (put5 w g a0 a1 a2 a3 a4).heap[k]? = w.heap[k]? := by
  unfold put5
  rw [Below.heap_setCell _ _ _ _ hk, Below.heap_setCell _ _ _ _ hk, Below.heap_setCell _ _ _ _ hk, Below.heap_setCell _ _ _ _ hk, Below.heap_setCell _ _ _ _ hk]
theorem put5_size (w : World) (g : Nat) (a0 a1 a2 a3 a4 : Value) : (put5 w g a0 a1 a2 a3 a4).heap.size = w.heap.size := by simp [put5, World.setCell]
theorem set_os (w : World) (p : Addr) (u : Value) : (w.setCell p u).os = w.os := rfl
theorem set_tape (w : World) (p : Addr) (u : Value) : (w.setCell p u).tape = w.tape := rfl
theorem set_out (w : World) (p : Addr) (u : Value) : (w.setCell p u).output = w.output := rfl
theorem put5_below {w : World} {g B : Nat} (h : B ≤ g) (a0 a1 a2 a3 a4 : Value) : Below B w (put5 w g a0 a1 a2 a3 a4) :=
  ⟨by unfold put5; rw [set_os, set_os, set_os, set_os, set_os], by unfold put5; rw [set_tape, set_tape, set_tape, set_tape, set_tape], by unfold put5; rw [set_out, set_out, set_out, set_out, set_out], by rw [put5_size]; exact Nat.le_refl _, fun k hk => put5_far _ _ _ _ _ (by omega)⟩
theorem put5_cells {w : World} {g : Nat} {c0 c1 c2 c3 c4 : Value} {t : TypeId} (h : w.heap[g]? = some (.cells #[c0, c1, c2, c3, c4] t (0, 0))) (a0 a1 a2 a3 a4 : Value) :
    ∀ j, (((((w.setCell ⟨g, 0, none⟩ a0).setCell ⟨g, 1, none⟩ a1).setCell ⟨g, 2, none⟩ a2).setCell ⟨g, 3, none⟩ a3).setCell ⟨g, 4, none⟩ a4).cell? ⟨g, j, none⟩ = #[a0, a1, a2, a3, a4][j]? := fun j => by
  have := put5_at h a0 a1 a2 a3 a4
  unfold put5 at this
  unfold World.cell?
  rw [this]
  rfl

def zeroV : Value := .agg #[.int .i64 0, .int .i64 0, .string ⟨#[]⟩, .slice none 0 0, .slice none 0 0]
end Go.Proofs.YtnlljodmkacmlaaGreatDoor.Chk
/-! Parts, Equal. -/
namespace Go.Proofs.YtnlljodmkacmlaaGreatDoor.Chk
open Go Go.RowKit

set_option maxHeartbeats 2000000 in
set_option maxRecDepth 100000 in
theorem parts_one (k x : Int) (s : ByteArray) (an : Option Addr) (ln cn : Nat) (ai : Option Addr) (M ci : Nat) (m : Int) (w : World) (hM : M ≤ 9223372036854775807)
    (hI : Hid (∀ i, i < M → ∃ (b o : Nat) (k2 x2 : Int) (s2 : ByteArray) (an2 : Option Addr) (ln2 cn2 : Nat) (ai2 : Option Addr) (li2 ci2 : Nat), ai = some ⟨b, o, none⟩ ∧ b < w.heap.size ∧ CellsAt w b (o + i * 5) [.int .i64 k2, .int .i64 x2, .string s2, .slice an2 ln2 cn2, .slice ai2 li2 ci2] ∧
      ∀ m' w', Below w.heap.size w w' → Calls Tryz.prog 17 #[.agg #[.int .i64 k2, .int .i64 x2, .string s2, .slice an2 ln2 cn2, .slice ai2 li2 ci2], .int .i64 m'] w' fun e w'' => (∃ n, e = .returned (.int .i64 n)) ∧ Below w'.heap.size w' w'')) :
    Calls Tryz.prog 17 #[.agg #[.int .i64 k, .int .i64 x, .string s, .slice an ln cn, .slice ai M ci], .int .i64 m] w fun e w' => (∃ n, e = .returned (.int .i64 n)) ∧ Below w.heap.size w w' := by
  go_enter Tryz.func17, Tryz.ntmps17
  go_wp2_with fail
  go_loopw [5, 6] (fun n i wr => ∃ (z : Int) (q : Nat), q ≤ M ∧ n = .int .i64 z ∧ i = .int .i64 q ∧ Below w.heap.size w wr ∧ wr.heap[w.heap.size]? = some (.cells #[.int .i64 k, .int .i64 x, .string s, .slice an ln cn, .slice ai M ci] 28 (0, 0))) (fun _ i _ => M - (intOf i).toNat)
  case atStart => exact ⟨_, 0, Nat.zero_le _, rfl, rfl, (Below.refl _ w).alloc (Nat.le_refl _) _, heap_alloc_new w _⟩
  case round =>
    obtain ⟨z, q, hq, rfl, rfl, hbel, hb0⟩ := hrel
    obtain ⟨y0, y1, y2, y3, y4, yf⟩ := row_cells hb0
    clear y0 y1 y2 y3 yf
    by_cases hlt : q < M
    · have hd : decide ((q : Int) < (M : Int)) = true := by simp; omega
      by_cases hz : z ≤ m
      · have hd2 : decide (z ≤ m) = true := by simpa using hz
        obtain ⟨b, o, k2, x2, s2, an2, ln2, cn2, ai2, li2, ci2, rfl, hbl, hC, hcall⟩ := hI.out q hlt
        have g0 : wr.cell? ⟨b, o + q * 5, none⟩ = some (.int .i64 k2) := (hbel.cell (p := ⟨b, o + q * 5, none⟩) hbl).trans (hC 0 _ rfl)
        have g1 : wr.cell? ⟨b, o + q * 5 + 1, none⟩ = some (.int .i64 x2) := (hbel.cell (p := ⟨b, o + q * 5 + 1, none⟩) hbl).trans (hC 1 _ rfl)
        have g2 : wr.cell? ⟨b, o + q * 5 + 2, none⟩ = some (.string s2) := (hbel.cell (p := ⟨b, o + q * 5 + 2, none⟩) hbl).trans (hC 2 _ rfl)
        have g3 : wr.cell? ⟨b, o + q * 5 + 3, none⟩ = some (.slice an2 ln2 cn2) := (hbel.cell (p := ⟨b, o + q * 5 + 3, none⟩) hbl).trans (hC 3 _ rfl)
        have g4 : wr.cell? ⟨b, o + q * 5 + 4, none⟩ = some (.slice ai2 li2 ci2) := (hbel.cell (p := ⟨b, o + q * 5 + 4, none⟩) hbl).trans (hC 4 _ rfl)
        have hcall' : ∀ m', Hid _ := fun m' => hid_e (hcall m' wr hbel)
        clear hC hcall
        go_wp2_with fail
        go_at_call 17
        refine (hcall' _).out.mono ?_
        rintro e w1 ⟨⟨n, rfl⟩, hb1⟩
        clear g0 g1 g2 g3 g4 hcall' y4
        have hbel1 : Below w.heap.size w w1 := hbel.trans (hb1.mono hbel.size)
        replace hb0 := (hb1.block _ (Array.getElem?_eq_some_iff.1 hb0).1).trans hb0
        go_wp2_with fail
        go_roundw
        case rel => exact ⟨_, q + 1, by omega, rfl, by simp, hbel1, hb0⟩
        case measure => simp [intOf]; omega
      · have hd2 : decide (z ≤ m) = false := by simpa using hz
        go_wp2_with fail
        go_ret
        exact ⟨⟨_, rfl⟩, hbel⟩
    · have hd : decide ((q : Int) < (M : Int)) = false := by simp; omega
      go_wp2_with fail
      go_ret
      exact ⟨⟨_, rfl⟩, hbel⟩

theorem parts_any (t : Tr) (cs : List Value) (m : Int) (w : World) (hV : VRep w t cs) :
    Calls Tryz.prog 17 #[.agg cs.toArray, .int .i64 m] w fun e w' => (∃ n, e = .returned (.int .i64 n)) ∧ Below w.heap.size w w' := by
  match t, hV with
  | .node k x s ns its, hV =>
    unfold VRep at hV
    obtain ⟨nm, a, c, rfl, ⟨an, cn, rfl, _⟩, hc, hI⟩ := hV
    refine parts_one k x s an ns.length cn a its.length c m w (by omega) (hid_e (fun i hi => ?_))
    obtain ⟨b, o, rfl, hb, hL⟩ := hI.resolve_left (by intro e; subst e; simp at hi)
    obtain ⟨cs', h1, h2⟩ := VRepL.at its o i its[i] hL (List.getElem?_eq_getElem hi)
    obtain ⟨k2, x2, s2, an2, ln2, cn2, ai2, li2, ci2, rfl⟩ := vrep_five h2
    refine ⟨b, o, k2, x2, s2, an2, ln2, cn2, ai2, li2, ci2, rfl, hb, h1, fun m' w' hb' => ?_⟩
    have hlt : SizeOf.sizeOf its[i] < SizeOf.sizeOf its := tr_lt (List.getElem?_eq_getElem hi)
    exact parts_any its[i] _ m' w' (VRep.keep hb' _ _ h2)
termination_by SizeOf.sizeOf t
decreasing_by simp only [Tr.node.sizeOf_spec]; omega
set_option maxHeartbeats 2000000 in
set_option maxRecDepth 100000 in
theorem eq_one (k x : Int) (s : ByteArray) (a1 : Option Addr) (N c1 : Nat) (a2 : Option Addr) (M c2 : Nat) (b1 : Option Addr) (d1 : Nat) (b2 : Option Addr) (d2 : Nat) (w : World) (hNm : N ≤ 9223372036854775807) (hMm : M ≤ 9223372036854775807)
    (hN : Hid (∀ i, i < N → ∃ (g o g' o' : Nat) (nm : ByteArray), a1 = some ⟨g, o, none⟩ ∧ b1 = some ⟨g', o', none⟩ ∧ w.cell? ⟨g, o + i, none⟩ = some (.string nm) ∧ w.cell? ⟨g', o' + i, none⟩ = some (.string nm)))
    (hI : Hid (∀ i, i < M → ∃ (g o g' o' : Nat) (k2 x2 : Int) (s2 : ByteArray) (p1 : Option Addr) (l1 e1 : Nat) (p2 : Option Addr) (l2 e2 : Nat) (q1 : Option Addr) (f1 : Nat) (q2 : Option Addr) (f2 : Nat), a2 = some ⟨g, o, none⟩ ∧ b2 = some ⟨g', o', none⟩ ∧
      CellsAt w g (o + i * 5) [.int .i64 k2, .int .i64 x2, .string s2, .slice p1 l1 e1, .slice p2 l2 e2] ∧ CellsAt w g' (o' + i * 5) [.int .i64 k2, .int .i64 x2, .string s2, .slice q1 l1 f1, .slice q2 l2 f2] ∧
      ∀ w', Below w.heap.size w w' → Calls Tryz.prog 104 #[.agg #[.int .i64 k2, .int .i64 x2, .string s2, .slice p1 l1 e1, .slice p2 l2 e2], .agg #[.int .i64 k2, .int .i64 x2, .string s2, .slice q1 l1 f1, .slice q2 l2 f2]] w' fun e w'' => e = .returned (.bool true) ∧ Below w'.heap.size w' w'')) :
    Calls Tryz.prog 104 #[.agg #[.int .i64 k, .int .i64 x, .string s, .slice a1 N c1, .slice a2 M c2], .agg #[.int .i64 k, .int .i64 x, .string s, .slice b1 N d1, .slice b2 M d2]] w fun e w' => e = .returned (.bool true) ∧ Below w.heap.size w w' := by
  have hB2 : ∀ p q, Below w.heap.size w ((w.alloc p).alloc q) := fun p q => ((Below.refl _ w).alloc (Nat.le_refl _) p).alloc (by simp) q
  go_enter Tryz.func104, Tryz.ntmps104
  go_wp2_with fail
  go_loopw [5] (fun i wr => ∃ q : Nat, q ≤ N ∧ i = .int .i64 q ∧ Below w.heap.size w wr ∧ wr.heap[w.heap.size]? = some (.cells #[.int .i64 k, .int .i64 x, .string s, .slice a1 N c1, .slice a2 M c2] 28 (0, 0)) ∧ wr.heap[w.heap.size + 1]? = some (.cells #[.int .i64 k, .int .i64 x, .string s, .slice b1 N d1, .slice b2 M d2] 28 (0, 0))) (fun i _ => N - (intOf i).toNat)
  case atStart => exact ⟨0, Nat.zero_le _, rfl, hB2 _ _, new1 w _ _, new2 w _ _⟩
  case round =>
    obtain ⟨q, hq, rfl, HB, h0, h1⟩ := hrel
    clear hB2
    obtain ⟨-, -, -, y3, y4, -⟩ := row_cells h0
    obtain ⟨-, -, -, y3', -, -⟩ := row_cells h1
    by_cases hlt : q < N
    · obtain ⟨g, o, g', o', nm, rfl, rfl, hc, hc'⟩ := hN.out q hlt
      have n1 := stay HB hc
      have n2 := stay HB hc'
      have i1 : (q : Int) < (N : Int) := by omega
      have i2 : (0 : Int) ≤ (q : Int) := by omega
      have hd : decide ((q : Int) < (N : Int)) = true := by simp; omega
      clear hc hc' y4
      go_wp2_with fail
      go_quiet (fail)
      go_wp2_with fail
      go_roundw
      case rel => exact ⟨q + 1, by omega, by simp, below_drewN HB nq, h0, h1⟩
      case measure => simp [intOf]; omega
    · have hd : decide ((q : Int) < (N : Int)) = false := by simp; omega
      clear y3' y4
      go_wp2_with fail
      clear y3
      go_loopw [6] (fun i wr => ∃ p : Nat, p ≤ M ∧ i = .int .i64 p ∧ Below w.heap.size w wr ∧ wr.heap[w.heap.size]? = some (.cells #[.int .i64 k, .int .i64 x, .string s, .slice a1 N c1, .slice a2 M c2] 28 (0, 0)) ∧ wr.heap[w.heap.size + 1]? = some (.cells #[.int .i64 k, .int .i64 x, .string s, .slice b1 N d1, .slice b2 M d2] 28 (0, 0))) (fun i _ => M - (intOf i).toNat)
      case atStart => exact ⟨0, Nat.zero_le _, rfl, HB, h0, h1⟩
      case round =>
        clear HB h0 h1
        obtain ⟨p, hp, rfl, HB, h0, h1⟩ := hrel
        obtain ⟨-, -, -, -, y4, -⟩ := row_cells h0
        obtain ⟨-, -, -, -, y4', -⟩ := row_cells h1
        by_cases hlt2 : p < M
        · obtain ⟨g, o, g', o', k2, x2, s2, p1, l1, e1, p2, l2, e2, q1, f1, q2, f2, rfl, rfl, hia, hia', hcall⟩ := hI.out p hlt2
          have HC := hid_e hcall
          have i1 : (p : Int) < (M : Int) := by omega
          have i2 : (0 : Int) ≤ (p : Int) := by omega
          have hd2 : decide ((p : Int) < (M : Int)) = true := by simp; omega
          have z0 := stay HB (hia 0 _ rfl)
          have z1 := stay HB (hia 1 _ rfl)
          have z2 := stay HB (hia 2 _ rfl)
          have z3 := stay HB (hia 3 _ rfl)
          have z4 := stay HB (hia 4 _ rfl)
          have v0 := stay HB (hia' 0 _ rfl)
          have v1 := stay HB (hia' 1 _ rfl)
          have v2 := stay HB (hia' 2 _ rfl)
          have v3 := stay HB (hia' 3 _ rfl)
          have v4 := stay HB (hia' 4 _ rfl)
          simp only [Nat.add_zero] at z0 v0
          clear hia hia' hcall
          go_wp2_with fail
          refine wp_region_quiet (C := fun w' => Below wr.heap.size wr w') (by kernel_rfl) (by kernel_rfl) (below_drewN (Below.refl _ _) 1) ?_
          refine wpQuiet_step (fun K hK => ?_)
          go_simp
          refine ⟨_, fun _ _ => rfl, hK _ ?_⟩
          clear hK K
          refine wpQuiet_step (fun K hK => ?_)
          refine ⟨.slice (some ⟨g, o, none⟩) M c2, fun w' hw' => ?_, hK _ ?_⟩
          · have := stay hw' y4
            go_simp
          clear hK K
          refine wpQuiet_step (fun K hK => ?_)
          go_simp
          refine ⟨_, fun _ _ => rfl, hK _ ?_⟩
          clear hK K
          refine wpQuiet_step (fun K hK => ?_)
          go_simp
          refine ⟨_, fun _ _ => rfl, hK _ ?_⟩
          clear hK K
          refine wpQuiet_step (fun K hK => ?_)
          refine ⟨.agg #[.int .i64 k2, .int .i64 x2, .string s2, .slice p1 l1 e1, .slice p2 l2 e2], fun w' hw' => ?_, hK _ ?_⟩
          · have t0 := stay hw' z0
            have t1 := stay hw' z1
            have t2 := stay hw' z2
            have t3 := stay hw' z3
            have t4 := stay hw' z4
            go_simp
          clear hK K
          refine wpQuiet_step (fun K hK => ?_)
          go_simp
          refine ⟨_, fun _ _ => rfl, hK _ ?_⟩
          clear hK K
          refine wpQuiet_step (fun K hK => ?_)
          refine ⟨.slice (some ⟨g', o', none⟩) M d2, fun w' hw' => ?_, hK _ ?_⟩
          · have := stay hw' y4'
            go_simp
          clear hK K
          refine wpQuiet_step (fun K hK => ?_)
          go_simp
          refine ⟨_, fun _ _ => rfl, hK _ ?_⟩
          clear hK K
          refine wpQuiet_step (fun K hK => ?_)
          go_simp
          refine ⟨_, fun _ _ => rfl, hK _ ?_⟩
          clear hK K
          refine wpQuiet_step (fun K hK => ?_)
          refine ⟨.agg #[.int .i64 k2, .int .i64 x2, .string s2, .slice q1 l1 f1, .slice q2 l2 f2], fun w' hw' => ?_, hK _ ?_⟩
          · have t0 := stay hw' v0
            have t1 := stay hw' v1
            have t2 := stay hw' v2
            have t3 := stay hw' v3
            have t4 := stay hw' v4
            go_simp
          clear hK K
          refine wpQuiet_step (fun K hK => ?_)
          refine ⟨.bool true, fun w' hw' => ?_, hK _ ?_⟩
          · go_simp
            refine (HC.out w' (HB.trans (hw'.mono HB.size))).mono ?_
            rintro e w'' ⟨rfl, hb⟩
            exact ⟨rfl, hw'.trans (hb.mono hw'.size)⟩
          clear hK K
          refine wpQuiet_step (fun K hK => ?_)
          go_simp
          refine ⟨_, fun _ _ => rfl, hK _ ?_⟩
          clear hK K
          refine wpQuiet_nil ?_
          intro w' hw'
          have HB' : Below w.heap.size w w' := HB.trans (hw'.mono HB.size)
          have h0' := (hw'.block _ (Array.getElem?_eq_some_iff.1 h0).1).trans h0
          have h1' := (hw'.block _ (Array.getElem?_eq_some_iff.1 h1).1).trans h1
          clear hw' y4 y4' z0 z1 z2 z3 z4 v0 v1 v2 v3 v4
          go_wp2_with fail
          go_roundw
          case rel => exact ⟨p + 1, by omega, by simp, HB', h0', h1'⟩
          case measure => simp [intOf]; omega
        · have hd2 : decide ((p : Int) < (M : Int)) = false := by simp; omega
          go_wp2_with fail
          go_ret
          exact ⟨rfl, HB⟩

theorem reads_two {w : World} {a b : Option Addr} {N c d : Nat} {l : List ByteArray} (h : Reads w (.slice a N c) l) (h' : Reads w (.slice b N d) l) : ∀ i, i < N → ∃ (g o g' o' : Nat) (nm : ByteArray), a = some ⟨g, o, none⟩ ∧ b = some ⟨g', o', none⟩ ∧ w.cell? ⟨g, o + i, none⟩ = some (.string nm) ∧ w.cell? ⟨g', o' + i, none⟩ = some (.string nm) := by
  intro i hi
  obtain ⟨a0, c0, e, _, h⟩ := h
  obtain ⟨b0, d0, e', _, h'⟩ := h'
  cases e
  cases e'
  obtain ⟨g, o, rfl, _, h⟩ := h.resolve_left (by intro e; subst e; simp at hi)
  obtain ⟨g', o', rfl, _, h'⟩ := h'.resolve_left (by intro e; subst e; simp at hi)
  exact ⟨g, o, g', o', l[i], rfl, rfl, h i _ (List.getElem?_eq_getElem hi), h' i _ (List.getElem?_eq_getElem hi)⟩

theorem equal_same (t : Tr) (cs cs' : List Value) (w : World) (hV : VRep w t cs) (hV' : VRep w t cs') :
    Calls Tryz.prog 104 #[.agg cs.toArray, .agg cs'.toArray] w fun e w' => e = .returned (.bool true) ∧ Below w.heap.size w w' := by
  match t, hV, hV' with
  | .node k x s ns its, hV, hV' =>
    unfold VRep at hV hV'
    obtain ⟨nm, a, c, rfl, hn, hc, hI⟩ := hV
    obtain ⟨nm', a', c', rfl, hn', hc', hI'⟩ := hV'
    obtain ⟨an, cn, rfl, hcn, -⟩ := id hn
    obtain ⟨an', cn', rfl, -, -⟩ := id hn'
    refine eq_one k x s an ns.length cn a its.length c an' cn' a' c' w (by omega) (by omega) (hid_e (reads_two hn hn')) (hid_e (fun i hi => ?_))
    obtain ⟨b, o, rfl, hb, hL⟩ := hI.resolve_left (by intro e; subst e; simp at hi)
    obtain ⟨b', o', rfl, hb', hL'⟩ := hI'.resolve_left (by intro e; subst e; simp at hi)
    obtain ⟨u, hu⟩ : ∃ u, its[i]? = some u := ⟨_, List.getElem?_eq_getElem hi⟩
    obtain ⟨ds, h1, h2⟩ := VRepL.at its o i u hL hu
    obtain ⟨ds', h1', h2'⟩ := VRepL.at its o' i u hL' hu
    have hlt : SizeOf.sizeOf u < SizeOf.sizeOf its := tr_lt hu
    have hrec := fun w' (hw : Below w.heap.size w w') => equal_same u ds ds' w' (VRep.keep hw _ _ h2) (VRep.keep hw _ _ h2')
    cases u with
    | node k2 x2 s2 ns2 its2 =>
      unfold VRep at h2 h2'
      obtain ⟨n2, a2, c2, rfl, ⟨p2, e2, rfl, _⟩, _⟩ := h2
      obtain ⟨n2', a2', c2', rfl, ⟨p2', e2', rfl, _⟩, _⟩ := h2'
      exact ⟨b, o, b', o', k2, x2, s2, p2, ns2.length, e2, a2, its2.length, c2, p2', e2', a2', c2', rfl, rfl, h1, h1', hrec⟩
termination_by SizeOf.sizeOf t
decreasing_by simp only [Tr.node.sizeOf_spec]; omega
end Go.Proofs.YtnlljodmkacmlaaGreatDoor.Chk
/-! The order of values, plainly: it is total. -/
namespace Go.Proofs.YtnlljodmkacmlaaGreatDoor.Chk
open Go Go.RowKit

def cmpI (a b : Int) : Int := if a < b then -1 else if b < a then 1 else 0
def cmpS (a b : ByteArray) : Int := Lib.compareBytes a.data.toList b.data.toList
def rankZ (k : Int) : Int := if k = 0 then 0 else if k = 3 then 1 else if k = 4 then 2 else if k = 6 then 3 else if k = 5 then 4 else if k = 1 then 5 else if k = 2 then 6 else -1
mutual
/-- The order of two values. -/
def cmpT : Tr → Tr → Int
  | .node k x s ns its, .node k' x' s' ns' its' =>
    if cmpI (rankZ k) (rankZ k') ≠ 0 then cmpI (rankZ k) (rankZ k')
    else if k = 3 then cmpI x x' else if k = 4 then cmpS s s' else if k = 6 then cmpM ns its ns' its' else if k = 5 then cmpL its its' else 0
def cmpL : List Tr → List Tr → Int
  | [], [] => 0
  | [], _ :: _ => -1
  | _ :: _, [] => 1
  | t :: ts, u :: us => if cmpT t u ≠ 0 then cmpT t u else cmpL ts us
def cmpM : List ByteArray → List Tr → List ByteArray → List Tr → Int
  | n :: ns, t :: ts, m :: ms, u :: us => if cmpS n m ≠ 0 then cmpS n m else if cmpT t u ≠ 0 then cmpT t u else cmpM ns ts ms us
  | ns, its, ns', its' => cmpI (min ns.length its.length : Nat) (min ns'.length its'.length : Nat)
end
def lex : List Int → List Int → Int
  | [], [] => 0
  | [], _ :: _ => -1
  | _ :: _, [] => 1
  | x :: l, y :: m => if x < y then -1 else if y < x then 1 else lex l m
def encS (s : List UInt8) : List Int := s.map (fun b => (b.toNat : Int) + 1) ++ [0]
mutual
def enc : Tr → List Int
  | .node k x s ns its => rankZ k :: (if k = 3 then [x] else if k = 4 then encS s.data.toList else if k = 6 then encM ns its else if k = 5 then encL its else [])
def encL : List Tr → List Int
  | [] => [0]
  | t :: ts => 1 :: (enc t ++ encL ts)
def encM : List ByteArray → List Tr → List Int
  | n :: ns, t :: ts => 1 :: (encS n.data.toList ++ (enc t ++ encM ns ts))
  | _, _ => [0]
end
/-- First by one, then by the other. -/
def both (c d : Int) : Int := if c ≠ 0 then c else d
theorem both_zero (d : Int) : both 0 d = d := by simp [both]
theorem both_assoc (a b c : Int) : both (both a b) c = both a (both b c) := by
  unfold both
  by_cases h : a = 0
  · simp [h]
  · simp [h]
theorem lex_cons (x y : Int) (l m : List Int) : lex (x :: l) (y :: m) = both (cmpI x y) (lex l m) := by
  unfold cmpI both; rw [lex]; split <;> (try split) <;> simp_all
theorem lex_S : ∀ (a b : List UInt8) (r q : List Int), lex (encS a ++ r) (encS b ++ q) = both (Lib.compareBytes a b) (lex r q)
  | [], [], r, q => by simp [encS, Lib.compareBytes, lex_cons, both_zero, cmpI]
  | [], b :: bs, r, q => by
    have : (0 : Int) < (b.toNat : Int) + 1 := by omega
    simp [encS, Lib.compareBytes, lex_cons, cmpI, this, both]
  | a :: al, [], r, q => by
    have h1 : ¬ (a.toNat : Int) + 1 < 0 := by omega
    have h2 : (0 : Int) < (a.toNat : Int) + 1 := by omega
    simp [encS, Lib.compareBytes, lex_cons, cmpI, h1, h2, both]
  | a :: al, b :: bs, r, q => by
    have ih := lex_S al bs r q
    unfold encS at ih ⊢
    rw [List.map_cons, List.map_cons, List.cons_append, List.cons_append, List.cons_append, List.cons_append, lex_cons, ih, Lib.compareBytes]
    have e1 : (a < b) ↔ ((a.toNat : Int) + 1 < (b.toNat : Int) + 1) := by rw [UInt8.lt_iff_toNat_lt]; omega
    have e2 : (b < a) ↔ ((b.toNat : Int) + 1 < (a.toNat : Int) + 1) := by rw [UInt8.lt_iff_toNat_lt]; omega
    unfold cmpI
    by_cases h1 : a < b
    · rw [if_pos h1, if_pos (e1.1 h1)]; simp [both]
    · rw [if_neg h1, if_neg (fun h => h1 (e1.2 h))]
      by_cases h2 : b < a
      · rw [if_pos h2, if_pos (e2.1 h2)]; simp [both]
      · rw [if_neg h2, if_neg (fun h => h2 (e2.2 h)), both_zero]
theorem cmpI_zero {a b : Int} (h : cmpI a b = 0) : a = b := by
  unfold cmpI at h; split at h <;> (try split at h) <;> (try omega)
theorem rank_is (k : Int) : (rankZ k = 1 → k = 3) ∧ (rankZ k = 2 → k = 4) ∧ (rankZ k = 3 → k = 6) ∧ (rankZ k = 4 → k = 5) := by
  unfold rankZ
  split
  · refine ⟨?_, ?_, ?_, ?_⟩ <;> intro h <;> omega
  split
  · refine ⟨?_, ?_, ?_, ?_⟩ <;> intro h <;> omega
  split
  · refine ⟨?_, ?_, ?_, ?_⟩ <;> intro h <;> omega
  split
  · refine ⟨?_, ?_, ?_, ?_⟩ <;> intro h <;> omega
  split
  · refine ⟨?_, ?_, ?_, ?_⟩ <;> intro h <;> omega
  split
  · refine ⟨?_, ?_, ?_, ?_⟩ <;> intro h <;> omega
  split
  · refine ⟨?_, ?_, ?_, ?_⟩ <;> intro h <;> omega
  refine ⟨?_, ?_, ?_, ?_⟩ <;> intro h <;> omega
theorem rank_inj {k k' : Int} (h : rankZ k = rankZ k') (h0 : k = 3 ∨ k = 4 ∨ k = 5 ∨ k = 6) : k' = k := by
  obtain ⟨r3, r4, r6, r5⟩ := rank_is k'
  rcases h0 with rfl | rfl | rfl | rfl
  · exact r3 (h.symm.trans (by decide))
  · exact r4 (h.symm.trans (by decide))
  · exact r5 (h.symm.trans (by decide))
  · exact r6 (h.symm.trans (by decide))
theorem rank_other {k k' : Int} (h : rankZ k = rankZ k') (h3 : k ≠ 3) (h4 : k ≠ 4) (h5 : k ≠ 5) (h6 : k ≠ 6) : k' ≠ 3 ∧ k' ≠ 4 ∧ k' ≠ 5 ∧ k' ≠ 6 := by
  refine ⟨?_, ?_, ?_, ?_⟩ <;> intro e <;> have := rank_inj h.symm (by simp [e]) <;> omega
mutual
theorem lex_T : (a b : Tr) → (r q : List Int) → lex (enc a ++ r) (enc b ++ q) = both (cmpT a b) (lex r q)
  | .node k x s ns its, .node k' x' s' ns' its', r, q => by
    unfold enc cmpT
    rw [List.cons_append, List.cons_append, lex_cons]
    by_cases h : cmpI (rankZ k) (rankZ k') = 0
    · rw [h, both_zero, if_neg (c := (0 : Int) ≠ 0) (fun e => e rfl)]
      have hr := cmpI_zero h
      by_cases h3 : k = 3
      · have := rank_inj hr (.inl h3); subst h3; subst this
        rw [if_pos rfl, if_pos rfl, if_pos rfl]
        exact lex_cons x x' r q
      by_cases h4 : k = 4
      · have := rank_inj hr (.inr (.inl h4)); subst h4; subst this
        simp only [if_neg h3, if_pos]
        exact lex_S _ _ r q
      by_cases h6 : k = 6
      · have := rank_inj hr (.inr (.inr (.inr h6))); subst h6; subst this
        simp only [if_neg h3, if_neg h4, if_pos]
        exact lex_M ns its ns' its' r q
      by_cases h5 : k = 5
      · have := rank_inj hr (.inr (.inr (.inl h5))); subst h5; subst this
        simp only [if_neg h3, if_neg h4, if_neg h6, if_pos]
        exact lex_L its its' r q
      · obtain ⟨g3, g4, g5, g6⟩ := rank_other hr h3 h4 h5 h6
        simp only [if_neg h3, if_neg h4, if_neg h6, if_neg h5, if_neg g3, if_neg g4, if_neg g6, if_neg g5]
        simp [both_zero]
    · rw [if_pos h]
      simp [both, h]
theorem lex_L : (a b : List Tr) → (r q : List Int) → lex (encL a ++ r) (encL b ++ q) = both (cmpL a b) (lex r q)
  | [], [], r, q => by simp [encL, cmpL, lex_cons, both_zero, cmpI]
  | [], b :: bs, r, q => by simp [encL, cmpL, lex_cons, both, cmpI]
  | a :: al, [], r, q => by simp [encL, cmpL, lex_cons, both, cmpI]
  | a :: al, b :: bs, r, q => by
    unfold encL cmpL
    rw [List.cons_append, List.cons_append, lex_cons, List.append_assoc, List.append_assoc, lex_T a b, lex_L al bs]
    rw [show cmpI 1 1 = 0 by decide, both_zero, ← both_assoc]
    rfl
theorem lex_M : (ns : List ByteArray) → (a : List Tr) → (ms : List ByteArray) → (b : List Tr) → (r q : List Int) → lex (encM ns a ++ r) (encM ms b ++ q) = both (cmpM ns a ms b) (lex r q)
  | [], a, ms, b, r, q => by
    cases ms <;> cases b <;> simp [encM, cmpM, lex_cons, both, cmpI] <;> omega
  | n :: ns, [], ms, b, r, q => by
    cases ms <;> cases b <;> simp [encM, cmpM, lex_cons, both, cmpI] <;> omega
  | n :: ns, a :: al, [], b, r, q => by
    cases b <;> simp [encM, cmpM, lex_cons, both, cmpI] <;> omega
  | n :: ns, a :: al, m :: ms, [], r, q => by
    simp [encM, cmpM, lex_cons, both, cmpI] <;> omega
  | n :: ns, a :: al, m :: ms, b :: bs, r, q => by
    unfold encM cmpM
    simp only [List.cons_append, List.append_assoc]
    rw [lex_cons, lex_S, lex_T a b, lex_M ns al ms bs]
    rw [show cmpI 1 1 = 0 by decide, both_zero, ← both_assoc, ← both_assoc]
    unfold both cmpS
    split <;> simp_all
end
theorem cmpT_lex (a b : Tr) : cmpT a b = lex (enc a) (enc b) := by
  have := lex_T a b [] []
  simp only [List.append_nil, lex] at this
  rw [this]; unfold both; split <;> simp_all
theorem lex_range : ∀ (a b : List Int), lex a b = -1 ∨ lex a b = 0 ∨ lex a b = 1
  | [], [] => by simp [lex]
  | [], _ :: _ => by simp [lex]
  | _ :: _, [] => by simp [lex]
  | x :: l, y :: m => by
    have := lex_range l m
    rw [lex]; split <;> (try split) <;> simp_all
theorem lex_anti : ∀ (a b : List Int), lex a b = - lex b a
  | [], [] => by simp [lex]
  | [], _ :: _ => by simp [lex]
  | _ :: _, [] => by simp [lex]
  | x :: l, y :: m => by
    have := lex_anti l m
    rw [lex, lex]
    by_cases h : x < y
    · rw [if_pos h, if_neg (by omega), if_pos h]
    · rw [if_neg h]
      by_cases h2 : y < x
      · rw [if_pos h2, if_pos h2]; rfl
      · rw [if_neg h2, if_neg h2, if_neg h, this]
theorem lex_trans : ∀ (a b c : List Int), lex a b ≤ 0 → lex b c ≤ 0 → lex a c ≤ 0
  | [], _, [], _, _ => by simp [lex]
  | [], _, _ :: _, _, _ => by simp [lex]
  | _ :: _, [], _, h, _ => by simp [lex] at h
  | _ :: _, _ :: _, [], _, h => by simp [lex] at h
  | x :: l, y :: m, z :: n, h1, h2 => by
    have ih := lex_trans l m n
    rw [lex] at h1 h2 ⊢
    repeat' split at h1
    all_goals repeat' split at h2
    all_goals repeat' split
    all_goals first | omega | (exfalso; omega) | exact ih h1 h2 | skip
/-- The order is total. -/
theorem cmpT_range (a b : Tr) : cmpT a b = -1 ∨ cmpT a b = 0 ∨ cmpT a b = 1 := by rw [cmpT_lex]; exact lex_range _ _
theorem cmpT_anti (a b : Tr) : cmpT a b = - cmpT b a := by rw [cmpT_lex, cmpT_lex]; exact lex_anti _ _
theorem cmpT_self (a : Tr) : cmpT a a = 0 := by have := cmpT_anti a a; omega
theorem cmpT_trans (a b c : Tr) (h1 : cmpT a b ≤ 0) (h2 : cmpT b c ≤ 0) : cmpT a c ≤ 0 := by rw [cmpT_lex] at *; exact lex_trans _ _ _ h1 h2
theorem cmpT_goes (a b c : Tr) (h1 : 0 ≤ cmpT a b) (h2 : 0 ≤ cmpT b c) : 0 ≤ cmpT a c := by
  have e1 := cmpT_anti a b
  have e2 := cmpT_anti b c
  have e3 := cmpT_anti a c
  have := cmpT_trans c b a (by omega) (by omega)
  omega
end Go.Proofs.YtnlljodmkacmlaaGreatDoor.Chk
/-! Rows of one's own. -/
namespace Go.Proofs.YtnlljodmkacmlaaGreatDoor.Chk
open Go Go.RowKit

theorem strs_length (l : List ByteArray) : (strs l).length = l.length := by simp [strs]
theorem strs_snoc (l : List ByteArray) (s : ByteArray) : strs (l ++ [s]) = strs l ++ [.string s] := by simp [strs]
theorem ownsRow_keep {w w' : World} {lo : Nat} {e : TypeId} {size : Nat} {v : Value} {n : Nat} {xs : List Value} (h : w.ownsRow lo e size v n xs) (hk : ∀ g, v.ownBlock = some g → w'.heap[g]? = w.heap[g]?) : w'.ownsRow lo e size v n xs := by
  obtain ⟨h1, h2⟩ := h
  refine ⟨h1, ?_⟩
  rcases h2 with h2 | ⟨g, cap, cur, rfl, hg, hh, r⟩
  · exact Or.inl h2
  · exact Or.inr ⟨g, cap, cur, rfl, hg, by rw [hk g rfl]; exact hh, r⟩
theorem ownsRow_ge {w : World} {lo : Nat} {e : TypeId} {size : Nat} {v : Value} {n : Nat} {xs : List Value} (h : w.ownsRow lo e size v n xs) {g : Nat} (hg : v.ownBlock = some g) : lo ≤ g ∧ g < w.heap.size := by
  rcases h.2 with ⟨rfl, _⟩ | ⟨g', cap, cur, rfl, hg', hh, r⟩
  · cases hg
  · cases hg; exact ⟨hg', (Array.getElem?_eq_some_iff.1 hh).1⟩
theorem ownsRow_below {w w' : World} {lo : Nat} {e : TypeId} {size : Nat} {v : Value} {n : Nat} {xs : List Value} (h : w.ownsRow lo e size v n xs) (hb : Below w.heap.size w w') : w'.ownsRow lo e size v n xs :=
  ownsRow_keep h fun _ hg => hb.block _ (ownsRow_ge h hg).2

theorem ownsRow_slice {w : World} {lo : Nat} {e : TypeId} {size : Nat} {v : Value} {n : Nat} {xs : List Value} (h : w.ownsRow lo e size v n xs) : ∃ a c, v = .slice a n c := by
  rcases h.2 with ⟨rfl, rfl, _⟩ | ⟨g, cap, cur, rfl, _⟩
  · exact ⟨none, 0, rfl⟩
  · exact ⟨_, _, rfl⟩
theorem one_string (s : ByteArray) : ∀ u ∈ [Value.string s], u.oneCell' = true := by intro u hu; rw [List.mem_singleton.1 hu]; rfl
theorem grown_below {w w' : World} {b : Option Nat} {B : Nat} (h : w.grownBy w' b) (hB : B ≤ w.heap.size) (hb : ∀ g, b = some g → B ≤ g) : Below B w w' :=
  ⟨h.os, h.tape, h.output, h.size, fun k hk => h.block k (by omega) (fun e => by have := hb k e.symm; omega)⟩
theorem ownsRow_drewN {w : World} {lo : Nat} {e : TypeId} {size : Nat} {v : Value} {n : Nat} {xs : List Value} (h : w.ownsRow lo e size v n xs) (q : Nat) : (w.drewN q).ownsRow lo e size v n xs := h

theorem strs1 (l : List ByteArray) : ∀ u ∈ strs l, u.oneCell' = true := by
  intro u hu
  obtain ⟨s, _, rfl⟩ := List.mem_map.1 hu
  rfl
theorem ownsRow_lo {w : World} {lo lo' : Nat} {e : TypeId} {size : Nat} {v : Value} {n : Nat} {xs : List Value} (h : w.ownsRow lo e size v n xs) (hl : lo' ≤ lo) : w.ownsRow lo' e size v n xs := by
  obtain ⟨h1, h2⟩ := h
  refine ⟨h1, ?_⟩
  rcases h2 with h2 | ⟨g, cap, cur, rfl, hg, r⟩
  · exact Or.inl h2
  · exact Or.inr ⟨g, cap, cur, rfl, Nat.le_trans hl hg, r⟩
theorem A9 : (Tryz.prog.info? 9).map (fun i => (i.zero, i.size, i.bytes)) = some (some (.string { data := #[] }), 1, 16) := by kernel_rfl
theorem A5 : (Tryz.prog.info? 5).map (fun i => (i.zero, i.size, i.bytes)) = some (some (.int .u8 0), 1, 1) := by kernel_rfl
theorem AV : (Tryz.prog.info? 28).map (fun i => (i.zero, i.size, i.bytes)) = some (some (.agg #[.int .i64 0, .int .i64 0, .string ⟨#[]⟩, .slice none 0 0, .slice none 0 0]), 5, 80) := by kernel_rfl
end Go.Proofs.YtnlljodmkacmlaaGreatDoor.Chk
/-! A Value that is handed in: a plain tree, and no part of it is too great. -/
namespace Go.Proofs.YtnlljodmkacmlaaGreatDoor.Chk
open Go Go.RowKit

theorem e_cells9 : Tryz.prog.cellsOf 9 = 1 := by kernel_rfl
theorem e_cells25 : Tryz.prog.cellsOf 28 = 5 := by kernel_rfl
theorem e_cells3 : Tryz.prog.cellsOf 3 = 1 := by kernel_rfl
theorem e_cells2 : Tryz.prog.cellsOf 2 = 1 := by kernel_rfl
theorem e_cells22 : Tryz.prog.cellsOf 25 = 1 := by kernel_rfl
theorem e_cells23 : Tryz.prog.cellsOf 26 = 1 := by kernel_rfl
theorem five_of {α : Type} {l : List α} (h : l.length = 5) : ∃ a b c d e, l = [a, b, c, d, e] := by
  rcases l with _ | ⟨a, _ | ⟨b, _ | ⟨c, _ | ⟨d, _ | ⟨e, _ | ⟨f, r⟩⟩⟩⟩⟩⟩
  all_goals first | exact ⟨_, _, _, _, _, rfl⟩ | (simp at h)

theorem cellsAt_of {W : World} {base b o n : Nat} {cs : List Value} (h : W.cells? base ⟨b, o, none⟩ n = some cs) : CellsAt W b o cs ∧ cs.length = n := by
  unfold World.cells? at h
  split at h
  · have hl : cs.length = n := by simpa using mapM_some_length h
    refine ⟨fun j u hj => ?_, hl⟩
    have hlt := (List.getElem?_eq_some_iff.1 hj).1
    have := mapM_some_get h j j (by rw [List.getElem?_range (by omega)])
    rw [add_off] at this
    rw [this, hj]
  · cases h

theorem spot_of {W : World} {base n : Nat} {a : Addr} {cs : List Value} (h : W.cells? base (a.add (0 * 5)) (n + 1) = some cs) : a.spot = none := by
  unfold World.cells? at h
  split at h
  · have hl : cs.length = n + 1 := by simpa using mapM_some_length h
    have := mapM_some_get h 0 0 (by rw [List.getElem?_range (by omega)])
    rw [List.getElem?_eq_getElem (by omega)] at this
    simpa [Addr.add] using World.cell?_spot this
  · cases h

mutual
def SmallT : Tr → Prop
  | .node _ _ s ns its => s.size ≤ 140737488351232 ∧ ns.length * 16 ≤ 140737488351232 ∧ (∀ n ∈ ns, n.size ≤ 140737488351232) ∧ its.length * 80 ≤ 140737488351232 ∧ SmallL its
def SmallL : List Tr → Prop
  | [] => True
  | t :: ts => SmallT t ∧ SmallL ts
end
theorem e_bytes9 : Tryz.prog.bytesOf 9 = 16 := by kernel_rfl
theorem e_bytes25 : Tryz.prog.bytesOf 28 = 80 := by kernel_rfl
theorem e_weights_strs {H : Type} (P : Program) (e : TypeId) : ∀ (l : List ByteArray) (s : ByteArray), s ∈ l → s.size ∈ DataW.weightsAll (H := H) P e (ChangeShapes.strs l)
  | [], s, hs => by cases hs
  | x :: r, s, hs => by
    rw [show ChangeShapes.strs (H := H) (x :: r) = .lit (.string x.data.toList) :: ChangeShapes.strs r from rfl]
    simp only [DataW.weightsAll, DataW.weights, List.mem_append, List.mem_singleton]
    rcases List.mem_cons.1 hs with rfl | h
    · exact .inl (by simp)
    · exact .inr (e_weights_strs P e r s h)
theorem weights_all {H : Type} (P : Program) (e : TypeId) : ∀ (l : List (DataW H)) (d : DataW H), d ∈ l → ∀ n ∈ d.weights P e, n ∈ DataW.weightsAll P e l
  | [], d, hd => by cases hd
  | x :: r, d, hd => fun n hn => by
    simp only [DataW.weightsAll, List.mem_append]
    rcases List.mem_cons.1 hd with rfl | h
    · exact .inl hn
    · exact .inr (weights_all P e r d h n hn)

theorem items_small {W : World} {b : Nat} : ∀ (len o : Nat), (∀ i, i < len → ∃ cs t, CellsAt W b (o + 5 * i) cs ∧ VRep W t cs ∧ SmallT t) → ∃ its : List Tr, its.length = len ∧ VRepL W b o its ∧ SmallL its
  | 0, o, _ => ⟨[], rfl, by unfold VRepL; trivial, by unfold SmallL; trivial⟩
  | len + 1, o, h => by
    obtain ⟨cs, t, h1, h2, hs⟩ := h 0 (by omega)
    obtain ⟨its, h3, h4, hss⟩ := items_small len (o + 5) (fun i hi => by
      obtain ⟨cs', t', h5, h6, h7⟩ := h (i + 1) (by omega)
      exact ⟨cs', t', by rwa [show o + 5 + 5 * i = o + 5 * (i + 1) by omega], h6, h7⟩)
    refine ⟨t :: its, by simp [h3], ?_, ?_⟩
    · unfold VRepL
      exact ⟨cs, by simpa using h1, h2, h4⟩
    · unfold SmallL
      exact ⟨hs, hss⟩

theorem reads_small {H : Type} {enc : TypeId × Value → H} {W : World} {base : Nat} {spare : Nat → Bool} {held : Bool} {n : Nat} {v : Value} {x : DataW H × List MemPlace} (hf : DataW.trod enc Tryz.prog W base spare held n 25 [v] = some x) (hw : ∀ k ∈ x.1.weights Tryz.prog 25, k ≤ reachBytes) :
    ∃ l, Reads W v l ∧ l.length * 16 ≤ 140737488351232 ∧ ∀ s ∈ l, s.size ≤ 140737488351232 := by
  rcases ChangeShapes.open_strings Tryz.underlying25 Tryz.underlying9 e_cells9 hf with ⟨hcs, hx⟩ | ⟨a, len, cap, ss, hcs, _, hl, hm, hz, hx, hcell, hws⟩
  · cases hcs
    exact ⟨[], ⟨none, 0, rfl, ⟨Nat.le_refl _, by omega⟩, .inl rfl⟩, by simp, fun s hs => by cases hs⟩
  · cases hcs
    subst hx
    have hz' : len ≤ ss.length := by rw [hz]; split <;> omega
    have htk : (ss.take len).length = len := by simp; omega
    have hr := hw ((ChangeShapes.strs (H := H) (ss.take len)).length + (ChangeShapes.strs (H := H) (ss.drop len)).length |> (· * Tryz.prog.bytesOf 9)) (by simp [DataW.weights, Tryz.underlying25])
    simp only [ChangeShapes.strs, List.length_map, htk, e_bytes9, reachBytes] at hr
    refine ⟨ss.take len, ⟨some a, cap, by rw [htk], ⟨by omega, by unfold maxLen at hm; omega⟩, ?_⟩, by omega, fun s hs => ?_⟩
    · by_cases hl0 : len = 0
      · subst hl0; exact .inl (by simp)
      · obtain ⟨xb, xo, spot⟩ := a
        have hspot : spot = none := by simpa [Addr.add] using World.cell?_spot (hcell 0 (by omega))
        subst hspot
        have hc' : ∀ j, j < ss.length → W.cell? ⟨xb, xo + j, none⟩ = some (.string (ss.getD j ByteArray.empty)) := fun j hj => by
          have := hcell j hj
          rwa [add_off] at this
        refine .inr ⟨xb, xo, rfl, lt_of_cell (hc' 0 (by omega)), fun j s hj => ?_⟩
        have hjl := (List.getElem?_eq_some_iff.1 hj).1
        rw [List.getElem?_take_of_lt (by omega)] at hj
        rw [hc' j (by omega), List.getD_eq_getElem?_getD, hj]
        rfl
    · refine hw s.size ?_
      simp only [DataW.weights, Tryz.underlying25, List.mem_cons, List.mem_append]
      exact .inr (.inl (e_weights_strs _ _ _ _ hs))

theorem open_small {H : Type} {enc : TypeId × Value → H} {W : World} {base : Nat} {spare : Nat → Bool} {held : Bool} (n : Nat) : ∀ (cs : List Value) (x : DataW H × List MemPlace), DataW.trod enc Tryz.prog W base spare held n 28 cs = some x → (∀ k ∈ x.1.weights Tryz.prog 28, k ≤ reachBytes) → ∃ t, VRep W t cs ∧ SmallT t := by
  induction n using Nat.strongRecOn with
  | _ n ih =>
    intro cs x h hw
    obtain ⟨xs, m, rfl, hx, hlen, hxl, hf⟩ := DataW.trod_struct Tryz.underlying28 h
    subst hx
    rw [e_cells25] at hlen
    obtain ⟨c0, c1, c2, c3, c4, rfl⟩ := five_of hlen
    obtain ⟨x0, x1, x2, x3, x4, rfl⟩ := five_of hxl
    have f0 : DataW.trod enc Tryz.prog W base spare held m 3 (([c0, c1, c2, c3, c4].drop 0).take (Tryz.prog.cellsOf 3)) = some x0 := hf 0 _ rfl
    have f1 : DataW.trod enc Tryz.prog W base spare held m 2 (([c0, c1, c2, c3, c4].drop 1).take (Tryz.prog.cellsOf 2)) = some x1 := hf 1 _ rfl
    have f2 : DataW.trod enc Tryz.prog W base spare held m 9 (([c0, c1, c2, c3, c4].drop 2).take (Tryz.prog.cellsOf 9)) = some x2 := hf 2 _ rfl
    have f3 : DataW.trod enc Tryz.prog W base spare held m 25 (([c0, c1, c2, c3, c4].drop 3).take (Tryz.prog.cellsOf 25)) = some x3 := hf 3 _ rfl
    have f4 : DataW.trod enc Tryz.prog W base spare held m 26 (([c0, c1, c2, c3, c4].drop 4).take (Tryz.prog.cellsOf 26)) = some x4 := hf 4 _ rfl
    rw [e_cells3] at f0
    rw [e_cells2] at f1
    rw [e_cells9] at f2
    rw [e_cells22] at f3
    rw [e_cells23] at f4
    have hw2 : ∀ k ∈ x2.1.weights Tryz.prog 9, k ≤ reachBytes := fun k hk => hw k (by simp [DataW.weights, Tryz.underlying28, DataW.weightsEach, hk])
    have hw3 : ∀ k ∈ x3.1.weights Tryz.prog 25, k ≤ reachBytes := fun k hk => hw k (by simp [DataW.weights, Tryz.underlying28, DataW.weightsEach, hk])
    have hw4 : ∀ k ∈ x4.1.weights Tryz.prog 26, k ≤ reachBytes := fun k hk => hw k (by simp [DataW.weights, Tryz.underlying28, DataW.weightsEach, hk])
    obtain ⟨k, hk, -, -⟩ := DataW.trod_int Tryz.underlying3 f0
    obtain ⟨i, hi, -, -⟩ := DataW.trod_int Tryz.underlying2 f1
    obtain ⟨s, hs, hx2, -⟩ := DataW.trod_string Tryz.underlying9 f2
    cases hk
    cases hi
    cases hs
    subst hx2
    have hss : s.size ≤ 140737488351232 := hw2 s.size (by simp [DataW.weights])
    obtain ⟨ns, hns, hn1, hn2⟩ := reads_small f3 hw3
    rcases DataW.trod_slice Tryz.underlying26 f4 with ⟨hcs, _⟩ | ⟨a, len, cap, elems, rest, m', rfl, hcs, hx4, hb, hl, hm, hel, he, _, _⟩
    · cases hcs
      refine ⟨.node k i s ns [], ?_, ?_⟩
      · unfold VRep
        exact ⟨_, none, 0, rfl, hns, ⟨Nat.le_refl _, by omega⟩, .inl rfl⟩
      · unfold SmallT SmallL
        exact ⟨hss, hn1, hn2, by simp, trivial⟩
    · cases hcs
      subst hx4
      have hr := hw4 ((elems.map (·.1)).length + (rest.map (·.1)).length |> (· * Tryz.prog.bytesOf 28)) (by simp [DataW.weights, Tryz.underlying26])
      simp only [List.length_map, hel, e_bytes25, reachBytes] at hr
      by_cases hl0 : len = 0
      · subst hl0
        refine ⟨.node k i s ns [], ?_, ?_⟩
        · unfold VRep
          exact ⟨_, some a, cap, rfl, hns, ⟨Nat.zero_le _, by unfold maxLen at hm; omega⟩, .inl rfl⟩
        · unfold SmallT SmallL
          exact ⟨hss, hn1, hn2, by simp, trivial⟩
      · have each : ∀ j, j < len → ∃ cs' y, W.cells? base (a.add (j * 5)) 5 = some cs' ∧ DataW.trod enc Tryz.prog W base spare held m' 28 cs' = some y ∧ y ∈ elems := fun j hj => by
          have := he j hj
          rw [e_cells25, List.getElem?_eq_getElem (by omega)] at this
          obtain ⟨cs', h1, h2⟩ := Option.bind_eq_some_iff.1 this
          exact ⟨cs', _, h1, h2, List.getElem_mem _⟩
        obtain ⟨b, o, spot⟩ := a
        have hspot : spot = none := by
          obtain ⟨cs', y, h1, -⟩ := each 0 (by omega)
          exact spot_of h1
        subst hspot
        obtain ⟨its, h3, h4, hsm⟩ := items_small (W := W) (b := b) len o (fun j hj => by
          obtain ⟨cs', y, h1, h2, hy⟩ := each j hj
          obtain ⟨t, ht, hts⟩ := ih m' (by omega) cs' y h2 (fun k hk => hw4 k (by
            simp only [DataW.weights, Tryz.underlying26, List.mem_cons, List.mem_append]
            exact .inr (.inl (weights_all _ _ _ _ (List.mem_map_of_mem hy) k hk))))
          rw [add_off, Nat.mul_comm] at h1
          exact ⟨cs', t, (cellsAt_of h1).1, ht, hts⟩)
        subst h3
        refine ⟨.node k i s ns its, ?_, ?_⟩
        · unfold VRep
          have hblt : b < W.heap.size := by
            obtain ⟨cs', y, h1, -⟩ := each 0 (by omega)
            rw [add_off] at h1
            obtain ⟨h5, h6⟩ := cellsAt_of h1
            obtain ⟨d0, d1, d2, d3, d4, rfl⟩ := five_of h6
            exact lt_of_cell (h5 0 d0 rfl)
          exact ⟨_, _, cap, rfl, hns, ⟨hl, by unfold maxLen at hm; omega⟩, .inr ⟨b, o, rfl, hblt, h4⟩⟩
        · unfold SmallT
          exact ⟨hss, hn1, hn2, by omega, hsm⟩
end Go.Proofs.YtnlljodmkacmlaaGreatDoor.Chk
/-! A region that draws its order, where a load and a store of ONE cell stand: S0 is held throughout; S1 (what the loads of that cell read) only until operation 'stop' has come up, and 'stop' waits for those loads. -/
namespace Go.Until
open Go Go.RowKit
section
variable {P : Program} {ops : Array Oper} {Q : Exit → Act → World → Prop} {md : Region.Mode} {S0 S1 : World → Prop} {stop : Nat}

def wpU (P : Program) (md : Region.Mode) (ops : Array Oper) (Q : Exit → Act → World → Prop) (S0 S1 : World → Prop) (stop : Nat) : Nat → Array Bool → Act → World → Prop
  | 0, listed, a, w => Region.ready md ops listed = [] ∧ Q .normal a w
  | f + 1, listed, a, w =>
    (Region.ready md ops listed = [] → Q .normal a w) ∧
    ∀ i ∈ Region.ready md ops listed, wpOp P ops Q i (fun a' w' => (S0 w' ∧ ((listed.setIfInBounds i true).getD stop false = false → S1 w')) ∧ wpU P md ops Q S0 S1 stop f (listed.setIfInBounds i true) a' w') a w

theorem wpAny_of_U : ∀ (f : Nat) (listed : Array Bool) (a : Act) (w : World), wpU P md ops Q S0 S1 stop f listed a w → wpAny P md ops Q f listed a w
  | 0, _, _, _, h => h
  | f + 1, _, _, _, h => ⟨h.1, fun i hi => wpOp_mono (fun a' w' h' => wpAny_of_U f _ a' w' h'.2) (h.2 i hi)⟩

/-- 'stop' waits for i. -/
def waits (md : Region.Mode) (ops : Array Oper) (stop i : Nat) : Bool := ((ops[stop]?).map fun o => o.after.toList.any fun e => Region.binds md e && e.on == i).getD false

theorem not_listed {i : Nat} {oj : Oper} {listed : Array Bool} (hi : i ∈ Region.ready md ops listed) (hall : ∀ e ∈ oj.after, Region.binds md e = true → listed.getD e.on false = true) : ∀ e ∈ oj.after, Region.binds md e = true → e.on ≠ i := fun e he hb heq => by
  have h1 := hall e he hb
  have h0 := (mem_ready.1 hi).1
  rw [heq] at h1
  rcases Nat.lt_or_ge i listed.size with h' | h'
  · simp [h'] at h0 h1; rw [h0] at h1; cases h1
  · simp [Array.getElem?_eq_none h'] at h1

theorem ne_stop {i j : Nat} {listed : Array Bool} (hw : waits md ops stop i = true) (hi : i ∈ Region.ready md ops listed) (hj : j ∈ Region.ready md ops listed) : j ≠ stop := by
  intro e
  subst e
  obtain ⟨_, o, ho, hall⟩ := mem_ready.1 hj
  unfold waits at hw
  rw [ho] at hw
  simp only [Option.map_some, Option.getD_some, List.any_eq_true, Bool.and_eq_true, beq_iff_eq] at hw
  obtain ⟨e, he, hb, hei⟩ := hw
  exact not_listed hi hall e (by simpa using he) hb hei

/-- Take number i first: T says what of S0, S1 the operation leans on; 'ok' says that T holds as long as i has not come up. -/
theorem wpU_first {T : World → Prop} {i : Nat} {oi : Oper} {v : Value} (hi : ops[i]? = some oi) (hsel : ∀ (j : Nat) (o : Oper) cs b, ops[j]? = some o → o.op ≠ .select cs b)
    (hQ : ∀ c a w, Q (.panic c) (a.put oi.dst v) w → Q (.panic c) a w) (his : i ≠ stop)
    (ok : (∀ w, S0 w → T w) ∨ (waits md ops stop i = true ∧ ∀ w, S0 w → S1 w → T w)) :
    ∀ (f : Nat) (listed : Array Bool) (a : Act) (w : World),
      (∀ j oj, ops[j]? = some oj → j ≠ i → listed.getD j true = false → (∀ e ∈ oj.after, Region.binds md e = true → e.on ≠ i) → oi.apart ops oj = true) →
      i ∈ Region.ready md ops listed → (waits md ops stop i = true → listed.getD stop false = false) → YieldsIf P ops T oi v a → S0 w → (listed.getD stop false = false → S1 w) →
      wpU P md ops Q S0 S1 stop f (listed.setIfInBounds i true) (a.put oi.dst v) w → wpU P md ops Q S0 S1 stop (f + 1) listed a w := by
  have getT : ∀ (listed : Array Bool) (w : World), (waits md ops stop i = true → listed.getD stop false = false) → S0 w → (listed.getD stop false = false → S1 w) → T w := by
    intro listed w h1 h2 h3
    rcases ok with h | ⟨hw, h⟩
    · exact h w h2
    · exact h w h2 (h3 (h1 hw))
  have setE : ∀ (listed : Array Bool), (listed.setIfInBounds i true).getD stop false = listed.getD stop false := fun listed => getD_set_ne false his
  intro f
  induction f with
  | zero =>
    intro listed a w _ hr hs hy h0 h1 H
    refine ⟨fun h => (by rw [h] at hr; cases hr), fun j hj => ?_⟩
    by_cases hji : j = i
    · subst hji; exact hy.wpOp hi (getT listed w hs h0 h1) ⟨⟨h0, fun h => h1 (by rw [← setE]; exact h)⟩, H⟩
    · have := ready_mono hj hji
      rw [H.1] at this
      cases this
  | succ f ih =>
    intro listed a w hfree hr hs hy h0 h1 H
    refine ⟨fun h => (by rw [h] at hr; cases hr), fun j hj => ?_⟩
    by_cases hji : j = i
    · subst hji; exact hy.wpOp hi (getT listed w hs h0 h1) ⟨⟨h0, fun h => h1 (by rw [← setE]; exact h)⟩, H⟩
    · have hun := (mem_ready.1 hj).1
      obtain ⟨oj, hoj, hall⟩ := (mem_ready.1 hj).2
      have h2 := wpOp_putIf hoj (hfree j oj hoj hji hun (not_listed hr hall)) (fun cs b => hsel i oi cs b hi) (fun cs b => hsel j oj cs b hoj) hQ hy (H.2 j (ready_mono hj hji))
      have hs' : waits md ops stop i = true → (listed.setIfInBounds j true).getD stop false = false := fun hw => by
        rw [getD_set_ne false (ne_stop hw hr hj)]; exact hs hw
      refine wpOp_mono (fun a' w' h3 => ?_) h2
      obtain ⟨hy', ⟨hS0, hS1⟩, hU'⟩ := h3
      rw [Array.setIfInBounds_comm _ _ (Ne.symm hji)] at hS1 hU'
      rw [setE] at hS1
      refine ⟨⟨hS0, hS1⟩, ih (listed.setIfInBounds j true) a' w' (fun k ok hk hki hku hno => ?_) (ready_mono hr (Ne.symm hji)) hs' hy' hS0 hS1 hU'⟩
      refine hfree k ok hk hki ?_ hno
      by_cases hjk : j = k
      · subst hjk; exact hun
      · rw [getD_set_ne true hjk] at hku; exact hku

/-- A pure operation. -/
theorem wpU_pure {i : Nat} {oi : Oper} {v : Value} {f : Nat} {listed : Array Bool} {a : Act} {w : World} (hi : ops[i]? = some oi)
    (hs : Region.noSelect ops = true) (hf : Region.free md ops listed i = true) (hr : (Region.ready md ops listed).contains i = true) (his : (i != stop) = true) (hl : (!waits md ops stop i || !listed.getD stop false) = true)
    (hQ : ∀ c a w, Q (.panic c) (a.put oi.dst v) w → Q (.panic c) a w) (h0 : S0 w) (h1 : listed.getD stop false = false → S1 w)
    (hw : Region.wanted oi (yielded ops a.tmps) = true) (hy : ∀ w, (execOp a.eval oi).run P w = .ok (.value v) w)
    (h : wpU P md ops Q S0 S1 stop f (listed.setIfInBounds i true) (a.put oi.dst v) w) : wpU P md ops Q S0 S1 stop (f + 1) listed a w :=
  wpU_first (T := fun _ => True) hi (Region.noSelect_spec hs) hQ (by simpa using his) (Or.inl fun _ _ => trivial) f listed a w (Region.free_spec hi hf) (by simpa using hr) (fun hw => by simpa [hw] using hl) (Or.inl ⟨hw, fun w _ => hy w⟩) h0 h1 h
/-- A load that leans on S0. -/
theorem wpU_load0 {i : Nat} {oi : Oper} {v : Value} {f : Nat} {listed : Array Bool} {a : Act} {w : World} (hi : ops[i]? = some oi)
    (hs : Region.noSelect ops = true) (hf : Region.free md ops listed i = true) (hr : (Region.ready md ops listed).contains i = true) (his : (i != stop) = true) (hl : (!waits md ops stop i || !listed.getD stop false) = true)
    (hQ : ∀ c a w, Q (.panic c) (a.put oi.dst v) w → Q (.panic c) a w) (h0 : S0 w) (h1 : listed.getD stop false = false → S1 w)
    (hw : Region.wanted oi (yielded ops a.tmps) = true) (hy : ∀ w, S0 w → (execOp a.eval oi).run P w = .ok (.value v) w)
    (h : wpU P md ops Q S0 S1 stop f (listed.setIfInBounds i true) (a.put oi.dst v) w) : wpU P md ops Q S0 S1 stop (f + 1) listed a w :=
  wpU_first (T := S0) hi (Region.noSelect_spec hs) hQ (by simpa using his) (Or.inl fun _ h => h) f listed a w (Region.free_spec hi hf) (by simpa using hr) (fun hw => by simpa [hw] using hl) (Or.inl ⟨hw, hy⟩) h0 h1 h
/-- A load that leans on S1. -/
theorem wpU_load1 {i : Nat} {oi : Oper} {v : Value} {f : Nat} {listed : Array Bool} {a : Act} {w : World} (hi : ops[i]? = some oi)
    (hs : Region.noSelect ops = true) (hf : Region.free md ops listed i = true) (hr : (Region.ready md ops listed).contains i = true) (his : (i != stop) = true) (hwt : waits md ops stop i = true) (hl : listed.getD stop false = false)
    (hQ : ∀ c a w, Q (.panic c) (a.put oi.dst v) w → Q (.panic c) a w) (h0 : S0 w) (h1 : S1 w)
    (hw : Region.wanted oi (yielded ops a.tmps) = true) (hy : ∀ w, S1 w → (execOp a.eval oi).run P w = .ok (.value v) w)
    (h : wpU P md ops Q S0 S1 stop f (listed.setIfInBounds i true) (a.put oi.dst v) w) : wpU P md ops Q S0 S1 stop (f + 1) listed a w :=
  wpU_first (T := S1) hi (Region.noSelect_spec hs) hQ (by simpa using his) (Or.inr ⟨hwt, fun _ _ h => h⟩) f listed a w (Region.free_spec hi hf) (by simpa using hr) (fun _ => hl) (Or.inl ⟨hw, hy⟩) h0 (fun _ => h1) h

def AllU (P : Program) (md : Region.Mode) (ops : Array Oper) (Q : Exit → Act → World → Prop) (S0 S1 : World → Prop) (stop f : Nat) (listed : Array Bool) (a : Act) (w : World) (rs : List Nat) : Prop :=
  ∀ i ∈ rs, wpOp P ops Q i (fun a' w' => (S0 w' ∧ ((listed.setIfInBounds i true).getD stop false = false → S1 w')) ∧ wpU P md ops Q S0 S1 stop f (listed.setIfInBounds i true) a' w') a w
theorem AllU.nil {f : Nat} {listed : Array Bool} {a : Act} {w : World} : AllU P md ops Q S0 S1 stop f listed a w [] := fun _ h => by cases h
theorem AllU.cons {f : Nat} {listed : Array Bool} {a : Act} {w : World} {i : Nat} {o : Oper} {rs : List Nat} (ho : ops[i]? = some o)
    (h : ∀ K : Act → World → Prop, Hid (∀ a' w', S0 w' → ((listed.setIfInBounds i true).getD stop false = false → S1 w') → wpU P md ops Q S0 S1 stop f (listed.setIfInBounds i true) a' w' → K a' w') → if Region.wanted o (yielded ops a.tmps) = true then Oper.wp P o a w K Q else K (a.put o.dst undef) w)
    (hs : AllU P md ops Q S0 S1 stop f listed a w rs) : AllU P md ops Q S0 S1 stop f listed a w (i :: rs) := fun j hj => by
  rcases List.mem_cons.1 hj with rfl | hj
  · have := h (fun a' w' => (S0 w' ∧ ((listed.setIfInBounds j true).getD stop false = false → S1 w')) ∧ wpU P md ops Q S0 S1 stop f (listed.setIfInBounds j true) a' w') (fun a' w' h0 h1 hU => ⟨⟨h0, h1⟩, hU⟩)
    unfold wpOp
    simp only [ho]
    split at this
    · next hw => rw [if_pos hw]; exact Or.inl this
    · next hw => rw [if_neg hw]; exact this
  · exact hs j hj
theorem wpU_ready {rs : List Nat} {f : Nat} {listed : Array Bool} {a : Act} {w : World} (hr : Region.ready md ops listed = rs) (hne : rs ≠ [])
    (h : AllU P md ops Q S0 S1 stop f listed a w rs) : wpU P md ops Q S0 S1 stop (f + 1) listed a w := ⟨fun h0 => absurd (hr ▸ h0) hne, hr ▸ h⟩
theorem wpU_done {listed : Array Bool} {a : Act} {w : World} (hr : Region.ready md ops listed = []) (h : Q .normal a w) : ∀ f, wpU P md ops Q S0 S1 stop f listed a w
  | 0 => ⟨hr, h⟩
  | _ + 1 => ⟨fun _ => h, by rw [hr]; simp⟩
theorem wp_region_U (S0 S1 : World → Prop) (stop : Nat) {id : Nat} {a : Act} {w : World} (hm : P.follows .mixedOrders = true)
    (h : wpU P .any ops Q S0 S1 stop ops.size (Array.replicate ops.size false) a w.drew) : (Code.region id ops true).wp P Q a w :=
  wp_region_any hm (wpAny_of_U _ _ _ _ h)
end
end Go.Until
