import Derived.Test.YtlkomknjgfjnlaaGreatDoorP0
import Derived.Test.YtlkomknjgfjnlaaGreatDoorS2
/-! The reader's values as plain trees. -/
namespace Go.Proofs.YtlkomknjgfjnlaaGreatDoor.Tree
open Go Go.RowKit

mutual
def ofJ : J → Tr
  | .null => .node 0 0 noS [] []
  | .fls => .node 1 0 noS [] []
  | .tru => .node 2 0 noS [] []
  | .int x => .node 3 x noS [] []
  | .text s => .node 4 0 s [] []
  | .list l => .node 5 0 noS [] (ofL l)
  | .obj ns l => .node 6 0 noS ns (ofL l)
def ofL : List J → List Tr
  | [] => []
  | j :: js => ofJ j :: ofL js
end
theorem ofL_len : (l : List J) → (ofL l).length = l.length
  | [] => by rw [ofL]; rfl
  | j :: js => by rw [ofL, List.length_cons, ofL_len js, List.length_cons]
theorem vrep_row {w : World} {lo n : Nat} {it : Value} {xs : List Value} {k x : Int} {s : ByteArray} {nm : Value} {ns : List ByteArray} {its : List Tr} (h2 : w.ownsRow lo 25 5 it n xs) (hn : its.length = n) (hnm : Reads w nm ns) (hI : ItemsRep w its xs) : VRep w (.node k x s ns its) (five k x s nm it) := by
  subst hn
  unfold VRep
  rcases h2.2 with ⟨rfl, h0⟩ | ⟨g, cap, cur, rfl, hg, hh, -⟩
  · have h0' : its = [] := List.eq_nil_of_length_eq_zero h0
    subst h0'
    exact ⟨nm, none, 0, rfl, hnm, ⟨Nat.le_refl _, by omega⟩, .inl rfl⟩
  · exact ⟨nm, _, cap, rfl, hnm, row_cap h2, .inr ⟨g, 0, rfl, (Array.getElem?_eq_some_iff.1 hh).1, ItemsRep.list its xs 0 hI (fun j u hj => by rw [Nat.zero_add]; exact row_cell h2 j u hj)⟩⟩
theorem reads_nil (w : World) : Reads w nilS [] := ⟨none, 0, rfl, ⟨Nat.le_refl _, by omega⟩, .inl rfl⟩
theorem vrep_flat (w : World) (k x : Int) (s : ByteArray) : VRep w (.node k x s [] []) (five k x s nilS nilS) := by
  unfold VRep
  exact ⟨nilS, none, 0, rfl, reads_nil w, ⟨Nat.le_refl _, by omega⟩, .inl rfl⟩
mutual
theorem rep_vrep {w : World} {lo hi : Nat} : (j : J) → (cs : List Value) → Rep w lo hi j cs → VRep w (ofJ j) cs
  | .null, cs, h => by
    have h' : cs = five 0 0 noS nilS nilS := h
    rw [h', ofJ]; exact vrep_flat w _ _ _
  | .fls, cs, h => by
    have h' : cs = five 1 0 noS nilS nilS := h
    rw [h', ofJ]; exact vrep_flat w _ _ _
  | .tru, cs, h => by
    have h' : cs = five 2 0 noS nilS nilS := h
    rw [h', ofJ]; exact vrep_flat w _ _ _
  | .int x, cs, h => by
    have h' : cs = five 3 x noS nilS nilS := h
    rw [h', ofJ]; exact vrep_flat w _ _ _
  | .text s, cs, h => by
    have h' : cs = five 4 0 s nilS nilS := h
    rw [h', ofJ]; exact vrep_flat w _ _ _
  | .list l, cs, h => by
    unfold Rep at h
    obtain ⟨it, xs, h1, h2, h3, h4⟩ := h
    rw [ofJ]
    have h1' : cs = five 5 0 noS nilS it := h1
    rw [h1']
    exact vrep_row h2 (ofL_len l) (reads_nil w) (repL_items l xs h4)
  | .obj ns l, cs, h => by
    unfold Rep at h
    obtain ⟨nm, it, xs, h1, hnm, -, h2, h3, -, h4⟩ := h
    rw [ofJ]
    have h1' : cs = five 6 0 noS nm it := h1
    rw [h1']
    exact vrep_row h2 (ofL_len l) (reads_own hnm) (repL_items l xs h4)
theorem repL_items {w : World} {lo hi : Nat} {obs : List Nat} : (l : List J) → (xs : List Value) → RepL w lo hi obs l xs → ItemsRep w (ofL l) xs
  | [], xs, h => by
    unfold RepL at h
    rw [ofL]; unfold ItemsRep; exact h
  | j :: js, xs, h => by
    unfold RepL at h
    obtain ⟨lo', hi', -, -, -, -, h5, h6, h7⟩ := h
    rw [ofL]
    unfold ItemsRep
    exact ⟨xs.take 5, xs.drop 5, (List.take_append_drop 5 xs).symm, by rw [List.length_take]; omega, rep_vrep j _ h6, repL_items js _ h7⟩
end
end Go.Proofs.YtlkomknjgfjnlaaGreatDoor.Tree
