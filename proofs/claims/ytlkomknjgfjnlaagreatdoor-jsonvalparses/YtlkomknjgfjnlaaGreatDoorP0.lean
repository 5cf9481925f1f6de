import Derived.Test.YtlkomknjgfjnlaaGreatDoorPV
import Derived.Test.YtlkomknjgfjnlaaGreatDoorV4
import Derived.Test.YtlkomknjgfjnlaaGreatDoorV5
import Derived.Test.YtlkomknjgfjnlaaGreatDoorU1
import Derived.Deep.RegionHeld3
import Derived.Deep.DeepCutAuto
/-! What Copy leans on: what is read in certain blocks only; a list of texts appended to an empty one. -/
namespace Go.Proofs.YtlkomknjgfjnlaaGreatDoor.Tree
open Go Go.RowKit

def Agree (S : Nat → Prop) (W W' : World) : Prop := W.heap.size ≤ W'.heap.size ∧ ∀ p u, S p.block → W.cell? p = some u → W'.cell? p = some u
/-- t is read off these cells, whatever the other blocks hold. -/
def Seen (W : World) (S : Nat → Prop) (t : Tr) (cs : List Value) : Prop := ∀ W', Agree S W W' → VRep W' t cs
theorem cell_lt {W : World} {p : Addr} {v : Value} (h : W.cell? p = some v) : p.block < W.heap.size := by
  rcases Nat.lt_or_ge p.block W.heap.size with h' | h'
  · exact h'
  · simp [World.cell?, Array.getElem?_eq_none h'] at h
theorem Reads.mono {W W' : World} {v : Value} {l : List ByteArray} (hk : ∀ p u, W.cell? p = some u → W'.cell? p = some u) (hs : W.heap.size ≤ W'.heap.size) (h : Reads W v l) : Reads W' v l := by
  obtain ⟨a, c, rfl, hc, h | ⟨b, o, rfl, hlt, h⟩⟩ := h
  · exact ⟨a, c, rfl, hc, .inl h⟩
  · exact ⟨_, c, rfl, hc, .inr ⟨b, o, rfl, Nat.lt_of_lt_of_le hlt hs, fun j s hj => hk _ _ (h j s hj)⟩⟩
mutual
theorem VRep.mono {W W' : World} (hk : ∀ p u, W.cell? p = some u → W'.cell? p = some u) (hs : W.heap.size ≤ W'.heap.size) : (t : Tr) → (cs : List Value) → VRep W t cs → VRep W' t cs
  | .node k x s ns its, cs, h => by
    unfold VRep at *
    obtain ⟨nm, a, c, h1, h2, h3, h4⟩ := h
    refine ⟨nm, a, c, h1, h2.mono hk hs, h3, ?_⟩
    rcases h4 with h4 | ⟨b, o, h5, h6, h7⟩
    · exact .inl h4
    · exact .inr ⟨b, o, h5, Nat.lt_of_lt_of_le h6 hs, VRepL.mono hk hs _ its h7⟩
theorem VRepL.mono {W W' : World} (hk : ∀ p u, W.cell? p = some u → W'.cell? p = some u) (hs : W.heap.size ≤ W'.heap.size) {b : Nat} : (o : Nat) → (its : List Tr) → VRepL W b o its → VRepL W' b o its
  | _, [], _ => by unfold VRepL; trivial
  | _, t :: ts, h => by
    unfold VRepL at *
    obtain ⟨cs, h1, h2, h3⟩ := h
    exact ⟨cs, fun j u hj => hk _ _ (h1 j u hj), VRep.mono hk hs t cs h2, VRepL.mono hk hs _ ts h3⟩
end
theorem seen_rep {w : World} {t : Tr} {cs : List Value} (h : VRep w t cs) : Seen w (· < w.heap.size) t cs := fun _ a => VRep.mono (fun p u hp => a.2 p u (cell_lt hp) hp) a.1 t cs h
theorem Seen.rep {W : World} {S : Nat → Prop} {t : Tr} {cs : List Value} (h : Seen W S t cs) : VRep W t cs := h W ⟨Nat.le_refl _, fun _ _ _ h => h⟩
theorem seen_next {w w' W' : World} {S S' : Nat → Prop} {t : Tr} {cs : List Value} (hV : Seen w S t cs) (hB : Below w.heap.size w w') (hS : ∀ k, S k → S' k) (h : Agree S' w' W') : VRep W' t cs :=
  hV W' ⟨Nat.le_trans hB.size h.1, fun p u hp hc => h.2 p u (hS _ hp) ((hB.cell (cell_lt hc)).trans hc)⟩
theorem Seen.keep {w w' : World} {S : Nat → Prop} {t : Tr} {cs : List Value} (hV : Seen w S t cs) (hB : Below w.heap.size w w') : Seen w' S t cs := fun _ h => seen_next hV hB (fun _ h => h) h
/-- An object of one member. -/
theorem run_append_none {P : Program} (w : World) (t ty e : TypeId) (i : TypeInfo) (ht : P.underlying t = some (.slice e)) (hi : P.info? e = some i) (g n cap : Nat) (hn : n ≤ cap) (ax : Option Addr) (c : Nat) :
    (Builtin.append_ #[t, t] ty #[.slice (some ⟨g, 0, none⟩) n cap, .slice ax 0 c]).run P w = .ok (.slice (some ⟨g, 0, none⟩) n cap) w := by
  have hs : Src P i.size t (.slice ax 0 c) 0 [] w := by
    cases ax with
    | none => exact Src.ofNil w ht c
    | some a => exact Src.ofSlice w ht a 0 c [] (by simp) (fun j u h => by simp at h) (fun u h => by cases h)
  have := run_append_room_src (P := P) w t t ty e i ht hi g 0 n cap _ 0 [] hs (by omega) (fun j h => by simp at h) (fun j h => by simp at h)
  rw [this]
  rfl
theorem owns_empty (w : World) : (w.alloc (.cells #[] 9)).ownsRow w.heap.size 9 1 (.slice (some ⟨w.heap.size, 0, none⟩) 0 0) 0 [] :=
  ⟨rfl, .inr ⟨w.heap.size, 0, #[], rfl, Nat.le_refl _, heap_alloc_new w _, Nat.le_refl _, Nat.zero_le _, rfl, rfl⟩⟩
/-- Texts that lie in certain blocks. -/
def SeenR (W : World) (S : Nat → Prop) (v : Value) (l : List ByteArray) : Prop := ∀ W', Agree S W W' → Reads W' v l
theorem own_reads {W W' : World} {lo : Nat} {S : Nat → Prop} {g cap : Nat} {l : List ByteArray} (h : W.ownsRow lo 9 1 (.slice (some ⟨g, 0, none⟩) l.length cap) l.length (strs l)) (hS : S g) (ha : Agree S W W') : Reads W' (.slice (some ⟨g, 0, none⟩) l.length cap) l := by
  obtain ⟨h1, h2⟩ := h
  rcases h2 with ⟨hv, _⟩ | ⟨g', cap', cur, hv, hg, hh, hc, hm, hs, hr⟩
  · cases hv
  · cases hv
    refine ⟨_, cap, rfl, ⟨hc, by unfold maxLen at hm; omega⟩, .inr ⟨g, 0, rfl, Nat.lt_of_lt_of_le (Array.getElem?_eq_some_iff.1 hh).1 ha.1, fun j s hj => ha.2 _ _ hS ?_⟩⟩
    have hlt : j < l.length := (List.getElem?_eq_some_iff.1 hj).1
    have : (strs l)[j]? = some (.string s) := by unfold strs; rw [List.getElem?_map, hj]; rfl
    rw [← hr, List.getElem?_take_of_lt (by omega), Array.getElem?_toList] at this
    simp [World.cell?, hh, this]
/-- Items, one behind the other, as cells. -/
def ItemsRep (W : World) : List Tr → List Value → Prop
  | [], xs => xs = []
  | t :: ts, xs => ∃ cs rest, xs = cs ++ rest ∧ cs.length = 5 ∧ VRep W t cs ∧ ItemsRep W ts rest
theorem ItemsRep.snoc {W : World} {u : Tr} {cs : List Value} (hl : cs.length = 5) (hu : VRep W u cs) : {ts : List Tr} → {xs : List Value} → ItemsRep W ts xs → ItemsRep W (ts ++ [u]) (xs ++ cs)
  | [], xs, h => by
    unfold ItemsRep at h
    subst h
    show ItemsRep W [u] ([] ++ cs)
    unfold ItemsRep
    exact ⟨cs, [], by simp, hl, hu, by unfold ItemsRep; rfl⟩
  | t :: ts, xs, h => by
    unfold ItemsRep at h
    obtain ⟨c1, r, rfl, h1, h2, h3⟩ := h
    show ItemsRep W (t :: (ts ++ [u])) _
    unfold ItemsRep
    exact ⟨c1, r ++ cs, by simp, h1, h2, ItemsRep.snoc hl hu h3⟩
theorem ItemsRep.list {W : World} {b : Nat} : (ts : List Tr) → (xs : List Value) → (o : Nat) → ItemsRep W ts xs → (∀ j u, xs[j]? = some u → W.cell? ⟨b, o + j, none⟩ = some u) → VRepL W b o ts
  | [], _, _, _, _ => by unfold VRepL; trivial
  | t :: ts, xs, o, h, hc => by
    unfold ItemsRep at h
    obtain ⟨cs, r, rfl, h1, h2, h3⟩ := h
    unfold VRepL
    refine ⟨cs, fun j u hj => hc j u (by rw [List.getElem?_append_left (List.getElem?_eq_some_iff.1 hj).1]; exact hj), h2, ItemsRep.list ts r (o + 5) h3 (fun j u hj => ?_)⟩
    have := hc (5 + j) u (by rw [List.getElem?_append_right (by omega), h1, Nat.add_sub_cancel_left]; exact hj)
    rwa [show o + 5 + j = o + (5 + j) by omega]

theorem row_cell {w : World} {lo : Nat} {e : TypeId} {size g n cap : Nat} {xs : List Value} (h : w.ownsRow lo e size (.slice (some ⟨g, 0, none⟩) n cap) n xs) : ∀ j u, xs[j]? = some u → w.cell? ⟨g, j, none⟩ = some u := by
  intro j u hj
  obtain ⟨h1, h2⟩ := h
  rcases h2 with ⟨hv, _⟩ | ⟨g', cap', cur, hv, hg, hh, hc, hm, hs, hr⟩
  · cases hv
  · cases hv
    have hlt := (List.getElem?_eq_some_iff.1 hj).1
    rw [← hr, List.getElem?_take_of_lt (by rw [← h1]; exact hlt), Array.getElem?_toList] at hj
    simp [World.cell?, hh, hj]
theorem row_cap {w : World} {lo : Nat} {e : TypeId} {size g n cap : Nat} {xs : List Value} (h : w.ownsRow lo e size (.slice (some ⟨g, 0, none⟩) n cap) n xs) : n ≤ cap ∧ cap ≤ 9223372036854775807 := by
  rcases h.2 with ⟨hv, _⟩ | ⟨g', cap', cur, hv, hg, hh, hc, hm, hs, hr⟩
  · cases hv
  · cases hv
    exact ⟨hc, by unfold maxLen at hm; omega⟩
theorem five_one (k x : Int) (s : ByteArray) (a : Option Addr) (l c : Nat) (a' : Option Addr) (l' c' : Nat) : ∀ u ∈ [Value.int .i64 k, .int .i64 x, .string s, .slice a l c, .slice a' l' c'], u.oneCell' = true := by
  intro u hu
  simp only [List.mem_cons, List.not_mem_nil, or_false] at hu
  rcases hu with rfl | rfl | rfl | rfl | rfl <;> rfl

end Go.Proofs.YtlkomknjgfjnlaaGreatDoor.Tree
