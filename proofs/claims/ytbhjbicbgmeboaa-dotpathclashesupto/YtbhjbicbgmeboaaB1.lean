import Derived.Test.YtbhjbicbgmeboaaA8
import Derived.Handy
/-! Values in memory, read only; the place that a segment names. -/
namespace Go.Proofs.Ytbhjbicbgmeboaa
open Go Go.RowKit
inductive Tr where
  | node (k x : Int) (s : ByteArray) (ns : List ByteArray) (its : List Tr)
namespace Tr
def kind : Tr → Int | .node k _ _ _ _ => k
def int : Tr → Int | .node _ x _ _ _ => x
def text : Tr → ByteArray | .node _ _ s _ _ => s
def names : Tr → List ByteArray | .node _ _ _ ns _ => ns
def items : Tr → List Tr | .node _ _ _ _ its => its
end Tr
def five (k x : Int) (s : ByteArray) (nm it : Value) : List Value := [.int .i64 k, .int .i64 x, .string s, nm, it]
/-- These cells lie in block b from o on. -/
def CellsAt (w : World) (b o : Nat) (cs : List Value) : Prop := ∀ j u, cs[j]? = some u → w.cell? ⟨b, o + j, none⟩ = some u
mutual
/-- The five cells read as the value t. -/
def VRep (w : World) : Tr → List Value → Prop
  | .node k x s ns its, cs => ∃ nm a c, cs = five k x s nm (.slice a its.length c) ∧ Reads w nm ns ∧ (its.length ≤ c ∧ c ≤ 9223372036854775807) ∧ (its = [] ∨ ∃ b o, a = some ⟨b, o, none⟩ ∧ b < w.heap.size ∧ VRepL w b o its)
/-- The items lie one behind the other. -/
def VRepL (w : World) (b : Nat) : Nat → List Tr → Prop
  | _, [] => True
  | o, t :: ts => ∃ cs, CellsAt w b o cs ∧ VRep w t cs ∧ VRepL w b (o + 5) ts
end
theorem CellsAt.keep {w w' : World} {b o : Nat} {cs : List Value} (h : CellsAt w b o cs) (hb : Below w.heap.size w w') (hlt : b < w.heap.size) : CellsAt w' b o cs :=
  fun j u hj => (hb.cell (p := ⟨b, o + j, none⟩) hlt).trans (h j u hj)
mutual
theorem VRep.keep {w w' : World} (hb : Below w.heap.size w w') : (t : Tr) → (cs : List Value) → VRep w t cs → VRep w' t cs
  | .node k x s ns its, cs, h => by
    unfold VRep at *
    obtain ⟨nm, a, c, h1, h2, h3, h4⟩ := h
    refine ⟨nm, a, c, h1, h2.keep hb, h3, ?_⟩
    rcases h4 with h4 | ⟨b, o, h5, h6, h7⟩
    · exact .inl h4
    · exact .inr ⟨b, o, h5, Nat.lt_of_lt_of_le h6 hb.size, VRepL.keep hb h6 o its h7⟩
theorem VRepL.keep {w w' : World} (hb : Below w.heap.size w w') {b : Nat} (hlt : b < w.heap.size) : (o : Nat) → (its : List Tr) → VRepL w b o its → VRepL w' b o its
  | _, [], _ => by unfold VRepL; trivial
  | o, t :: ts, h => by
    unfold VRepL at *
    obtain ⟨cs, h1, h2, h3⟩ := h
    exact ⟨cs, h1.keep hb hlt, VRep.keep hb t cs h2, VRepL.keep hb hlt (o + 5) ts h3⟩
end
theorem VRepL.at {w : World} {b : Nat} : (its : List Tr) → (o j : Nat) → (t : Tr) → VRepL w b o its → its[j]? = some t → ∃ cs, CellsAt w b (o + j * 5) cs ∧ VRep w t cs
  | [], _, _, _, _, hj => by simp at hj
  | u :: ts, o, 0, t, h, hj => by
    unfold VRepL at h
    obtain ⟨cs, h1, h2, _⟩ := h
    have : u = t := by simpa using hj
    subst this
    exact ⟨cs, by simpa using h1, h2⟩
  | u :: ts, o, j + 1, t, h, hj => by
    unfold VRepL at h
    obtain ⟨_, _, _, h3⟩ := h
    obtain ⟨cs, h4, h5⟩ := VRepL.at ts (o + 5) j t h3 (by simpa using hj)
    exact ⟨cs, by rw [show o + (j + 1) * 5 = o + 5 + j * 5 by omega]; exact h4, h5⟩
theorem box_cells {w w1 : World} {cs : Array Value} {t : TypeId} (hb : Below (w.alloc (.cells cs t)).heap.size (w.alloc (.cells cs t)) w1) (j : Nat) : w1.cell? ⟨w.heap.size, j, none⟩ = cs[j]? := by
  rw [hb.cell (p := ⟨w.heap.size, j, none⟩) (by show w.heap.size < (w.alloc _).heap.size; rw [World.size_alloc]; omega)]
  unfold World.cell?
  rw [heap_alloc_new w]
  rfl
theorem below_box {w w1 : World} {o : Obj} (hb : Below (w.alloc o).heap.size (w.alloc o) w1) : Below w.heap.size w w1 := ((Below.refl _ w).alloc (Nat.le_refl _) o).trans (hb.mono (by rw [World.size_alloc]; omega))
theorem below_drew {B : Nat} {x w : World} (h : Below B x w) : Below B x w.drew := ⟨h.os, h.tape, h.output, h.size, h.block⟩
def placeI (k : Int) (ns : List ByteArray) (s : ByteArray) : Int := if k = 6 then Lib.idxOfS ns s else if k = 5 then (((idx s).getD 0 : Nat) : Int) else 0
def placeB (k : Int) (ns : List ByteArray) (m : Nat) (s : ByteArray) : Bool :=
  if k = 6 then decide (0 ≤ Lib.idxOfS ns s) && decide (Lib.idxOfS ns s < m) else if k = 5 then (idx s).isSome && decide ((((idx s).getD 0 : Nat) : Int) < m) else false
theorem sindex_any (nm : Value) (ns : List ByteArray) (s : ByteArray) (w : World) (hN : Reads w nm ns) : Calls Try.prog 41 #[nm, .string s] w fun e w' => e = .returned (.int .i64 (Lib.idxOfS ns s)) ∧ w' = w := by
  have hl := hN.len
  obtain ⟨a, c, rfl, hc, h | ⟨b, o, rfl, hb, hA⟩⟩ := hN
  · subst h; exact Try.slices_Index_string_empty a c s w
  · have := Try.slices_Index_string b o ns.length c ns s w (Nat.le_refl _) hl (fun j hj => hA j _ (by
      rw [List.getD_eq_getElem?_getD, List.getElem?_eq_getElem hj]; rfl))
    rw [List.take_length] at this
    exact this
set_option maxHeartbeats 2000000 in
set_option maxRecDepth 100000 in
theorem place_any (k x : Int) (tx : ByteArray) (nm : Value) (ns : List ByteArray) (a : Option Addr) (m c : Nat) (s : ByteArray) (w : World) (hN : Reads w nm ns) (hs : s.size ≤ 9223372036854775806) :
    Calls Try.prog 26 #[.agg #[.int .i64 k, .int .i64 x, .string tx, nm, .slice a m c], .string s] w fun e w' => e = .returned (.tuple #[.int .i64 (placeI k ns s), .bool (placeB k ns m s)]) ∧ Below w.heap.size w w' := by
  have hB : ∀ o, Below w.heap.size w (w.alloc o) := fun o => (Below.refl _ _).alloc (Nat.le_refl _) _
  obtain ⟨an, cn, hnm, hcn, hA⟩ := id hN
  by_cases h6 : k = 6
  · subst h6
    have hix : ∀ o, Calls Try.prog 41 #[nm, .string s] (w.alloc o) fun e w' => e = .returned (.int .i64 (Lib.idxOfS ns s)) ∧ w' = w.alloc o := fun o => sindex_any nm ns s _ (hN.keep (hB o))
    clear hA hN
    subst hnm
    unfold placeI placeB
    rw [if_pos rfl, if_pos rfl]
    generalize Lib.idxOfS ns s = z at *
    by_cases h0 : 0 ≤ z
    · by_cases h1 : z < m
      all_goals
        go_enter Try.func26, Try.ntmps26
        go_wp2_with fail
        refine (hix _).mono ?_
        rintro e w1 ⟨rfl, rfl⟩
        clear hix
        go_wp2_with fail
        go_region
        go_wp2_with fail
        go_ret2
        exact ⟨by simp [h0, h1], below_drew (hB _)⟩
    · have hd : decide (0 ≤ z) = false := by simpa using h0
      rw [hd, Bool.false_and]
      go_enter Try.func26, Try.ntmps26
      go_wp2_with fail
      refine (hix _).mono ?_
      rintro e w1 ⟨rfl, rfl⟩
      clear hix
      go_wp2_with fail
      go_region
      go_wp2_with fail
      go_ret2
      exact ⟨rfl, below_drew (hB _)⟩
  · have hk6 : (k == 6) = false := by simpa using h6
    clear hA hN
    subst hnm
    by_cases h5 : k = 5
    · subst h5
      have hix : ∀ o, Calls Try.prog 36 #[.string s] (w.alloc o) fun e w' => e = .returned (idxV s) ∧ Below (w.alloc o).heap.size (w.alloc o) w' := fun o => index_any s hs _
      unfold placeI placeB
      rw [if_neg h6, if_neg h6, if_pos rfl, if_pos rfl]
      unfold idxV at hix
      generalize idx s = z at *
      cases z with
      | none =>
        go_enter Try.func26, Try.ntmps26
        go_wp2_with fail
        refine (hix _).mono ?_
        rintro e w1 ⟨rfl, hb1⟩
        clear hix
        go_wp2_with fail
        go_region
        go_wp2_with fail
        go_ret2
        exact ⟨rfl, below_drew (below_box hb1)⟩
      | some z =>
        by_cases h1 : z < m
        all_goals
          go_enter Try.func26, Try.ntmps26
          go_wp2_with fail
          refine (hix _).mono ?_
          rintro e w1 ⟨rfl, hb1⟩
          clear hix
          have y4 : w1.cell? ⟨w.heap.size, 4, none⟩ = some (.slice a m c) := box_cells hb1 4
          go_wp2_with fail
          go_region
          go_wp2_with fail
          go_ret2
          exact ⟨by simp [h1], below_drew (below_box hb1)⟩
    · have hk5 : (k == 5) = false := by simpa using h5
      unfold placeI placeB
      rw [if_neg h6, if_neg h6, if_neg h5, if_neg h5]
      go_enter Try.func26, Try.ntmps26
      go_wp2_with fail
      go_region
      go_wp2_with fail
      go_ret2
      exact ⟨rfl, below_drew (hB _)⟩
end Go.Proofs.Ytbhjbicbgmeboaa
