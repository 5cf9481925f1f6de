import Derived.Test.YtbhjbicbgmeboaaC2
/-! One turn up. -/
namespace Go.Proofs.Ytbhjbicbgmeboaa
open Go Go.RowKit

theorem heap_new' {X : World} {o : Obj} {k : Nat} (h : k = X.heap.size) : (X.alloc o).heap[k]? = some o := by subst h; exact heap_alloc_new X o
/-- An object of one member, with room. -/
theorem one_obj {W : World} {g1 g2 c1 c2 : Nat} {s : ByteArray} {t : Tr} {cs : List Value} (h1 : 1 ≤ c1 ∧ c1 ≤ 100) (h2 : 1 ≤ c2 ∧ c2 ≤ 100) (hc : W.cell? ⟨g1, 0, none⟩ = some (.string s)) (hl : g2 < W.heap.size) (hcl : CellsAt W g2 0 cs) (hV : VRep W t cs) : VRep W (.node 6 0 ⟨#[]⟩ [s] [t]) (five 6 0 ⟨#[]⟩ (.slice (some ⟨g1, 0, none⟩) 1 c1) (.slice (some ⟨g2, 0, none⟩) 1 c2)) := by
  have hgl : g1 < W.heap.size := by
    rcases Nat.lt_or_ge g1 W.heap.size with h' | h'
    · exact h'
    · simp [World.cell?, Array.getElem?_eq_none h'] at hc
  unfold VRep
  refine ⟨_, _, c2, rfl, ⟨_, c1, rfl, ⟨h1.1, by omega⟩, .inr ⟨g1, 0, rfl, hgl, fun j u hj => ?_⟩⟩, ⟨h2.1, by omega⟩, .inr ⟨g2, 0, rfl, hl, ?_⟩⟩
  · rcases j with _ | j
    · cases hj; exact hc
    · simp at hj
  · unfold VRepL
    exact ⟨cs, hcl, hV, by unfold VRepL; trivial⟩
theorem heap_lt {W : World} {g : Nat} {o : Obj} (h : W.heap[g]? = some o) : g < W.heap.size := (Array.getElem?_eq_some_iff.1 h).1
theorem fin_obj {w W : World} {S : Nat → Prop} {g1 g2 c1 c2 : Nat} (nm it : Array Value) {s : ByteArray} {t : Tr} {cs : List Value} (hV : Seen w S t cs) (hB : Below w.heap.size w W) (h1 : W.heap[g1]? = some (.cells nm 9)) (h2 : W.heap[g2]? = some (.cells it 25)) (l1 : w.heap.size ≤ g1) (l2 : w.heap.size ≤ g2) (hn : nm[0]? = some (.string s)) (hi : ∀ (j : Nat) (u : Value), cs[j]? = some u → it[j]? = some u) (k1 : 1 ≤ c1 ∧ c1 ≤ 100) (k2 : 1 ≤ c2 ∧ c2 ≤ 100) :
    Below w.heap.size w W.drew ∧ ∃ cs', Ending.returned (.agg #[.int .i64 6, .int .i64 0, .string ⟨#[]⟩, .slice (some ⟨g1, 0, none⟩) 1 c1, .slice (some ⟨g2, 0, none⟩) 1 c2]) = .returned (.agg cs'.toArray) ∧ Seen W.drew (fun k => S k ∨ w.heap.size ≤ k) (.node 6 0 ⟨#[]⟩ [s] [t]) cs' := by
  refine ⟨below_drew hB, five 6 0 ⟨#[]⟩ _ _, rfl, fun W' h => one_obj k1 k2 (h.2 ⟨g1, 0, none⟩ _ (.inr l1) (by show W.cell? _ = _; simp [World.cell?, h1, hn])) (Nat.lt_of_lt_of_le (heap_lt h2) h.1) (fun j u hj => h.2 ⟨g2, 0 + j, none⟩ _ (.inr l2) ?_) (seen_next hV (below_drew hB) (fun _ hk => .inl hk) h)⟩
  show W.cell? _ = _
  rw [Nat.zero_add]
  simp [World.cell?, h2, hi j u hj]

set_option maxHeartbeats 2000000 in
set_option maxRecDepth 100000 in
theorem with0 (x : Int) (tx : ByteArray) (an : Option Addr) (cn : Nat) (ai : Option Addr) (ci : Nat) (s : ByteArray) (k1 x1 : Int) (s1 : ByteArray) (an1 : Option Addr) (ln1 cn1 : Nat) (ai1 : Option Addr) (li1 ci1 : Nat) (t : Tr) (S : Nat → Prop) (w : World) (hV : Seen w S t (five k1 x1 s1 (.slice an1 ln1 cn1) (.slice ai1 li1 ci1))) :
    Calls Try.prog 39 #[.agg #[.int .i64 6, .int .i64 x, .string tx, .slice an 0 cn, .slice ai 0 ci, .string s, .int .i64 0], .agg #[.int .i64 k1, .int .i64 x1, .string s1, .slice an1 ln1 cn1, .slice ai1 li1 ci1]] w fun e w' =>
      Below w.heap.size w w' ∧ ∃ cs, e = .returned (.agg cs.toArray) ∧ Seen w' (fun k => S k ∨ w.heap.size ≤ k) (.node 6 0 ⟨#[]⟩ [s] [t]) cs := by
  go_enter Try.func39, Try.ntmps39
  go_wp2_with fail
  refine (anew0 x tx an cn ai ci _).mono ?_
  rintro e w1 ⟨rfl, rfl⟩
  go_wp2
  go_returns
  refine fin_obj #[.string s] #[.int .i64 k1, .int .i64 x1, .string s1, .slice an1 ln1 cn1, .slice ai1 li1 ci1] hV ?hB ?h1 ?h2 (by omega) (by omega) rfl ?hi (by decide) (by decide)
  case hB => repeat (first | exact Below.refl _ _ | refine Below.alloc ?_ (by simp <;> omega) _)
  case h1 => repeat (first | (refine heap_new' ?_; simp; done) | (refine (Below.heap_alloc _ _ _ ?_).trans ?_; (simp <;> omega)))
  case h2 => repeat (first | (refine heap_new' ?_; simp; done) | (refine (Below.heap_alloc _ _ _ ?_).trans ?_; (simp <;> omega)))
  case hi =>
    intro j u hj
    rcases j with _ | _ | _ | _ | _ | j
    all_goals first | exact hj | (simp [five] at hj)
set_option maxHeartbeats 2000000 in
set_option maxRecDepth 100000 in
theorem with1 (x : Int) (tx : ByteArray) (b o cn b2 o2 ci : Nat) (s s2 : ByteArray) (c0 c1 c2 c3 c4 : Value) (h1 : (c0.oneCell' && c1.oneCell' && c2.oneCell' && c3.oneCell' && c4.oneCell') = true) (hcn : 1 ≤ cn) (hci : 1 ≤ ci) (k1 x1 : Int) (s1 : ByteArray) (an1 : Option Addr) (ln1 cn1 : Nat) (ai1 : Option Addr) (li1 ci1 : Nat) (t : Tr) (S : Nat → Prop) (w : World) (hs : w.cell? ⟨b, o, none⟩ = some (.string s)) (h : CellsAt w b2 o2 [c0, c1, c2, c3, c4]) (hV : Seen w S t (five k1 x1 s1 (.slice an1 ln1 cn1) (.slice ai1 li1 ci1))) :
    Calls Try.prog 39 #[.agg #[.int .i64 6, .int .i64 x, .string tx, .slice (some ⟨b, o, none⟩) 1 cn, .slice (some ⟨b2, o2, none⟩) 1 ci, .string s2, .int .i64 0], .agg #[.int .i64 k1, .int .i64 x1, .string s1, .slice an1 ln1 cn1, .slice ai1 li1 ci1]] w fun e w' =>
      Below w.heap.size w w' ∧ ∃ cs, e = .returned (.agg cs.toArray) ∧ Seen w' (fun k => S k ∨ w.heap.size ≤ k) (.node 6 0 ⟨#[]⟩ [s] [t]) cs := by
  have hs' : ∀ o1 o2 o3, (((w.alloc o1).alloc o2).alloc o3).cell? ⟨b, o, none⟩ = some (.string s) := fun o1 o2 o3 => cell_alloc' (cell_alloc' (cell_alloc' hs _) _) _
  have h' : ∀ p1 p2 p3, CellsAt (((w.alloc p1).alloc p2).alloc p3) b2 o2 [c0, c1, c2, c3, c4] := fun p1 p2 p3 j u hj => cell_alloc' (cell_alloc' (cell_alloc' (h j u hj) _) _) _
  go_enter Try.func39, Try.ntmps39
  go_wp2_with fail
  refine (anew1 x tx b o cn b2 o2 ci s c0 c1 c2 c3 c4 h1 hcn hci _ (hs' _ _ _) (h' _ _ _)).mono ?_
  rintro e w1 ⟨rfl, rfl⟩
  clear hs' h'
  go_wp2
  go_returns
  refine fin_obj #[.string s, .string ⟨#[]⟩] #[.int .i64 k1, .int .i64 x1, .string s1, .slice an1 ln1 cn1, .slice ai1 li1 ci1, .int .i64 0, .int .i64 0, .string ⟨#[]⟩, .slice none 0 0, .slice none 0 0] hV ?hB ?h1 ?h2 (by omega) (by omega) rfl ?hi (by decide) (by decide)
  case hB => repeat (first | exact Below.refl _ _ | refine Below.alloc ?_ (by simp <;> omega) _)
  case h1 => repeat (first | (refine heap_new' ?_; simp; done) | (refine (Below.heap_alloc _ _ _ ?_).trans ?_; (simp <;> omega)))
  case h2 => repeat (first | (refine heap_new' ?_; simp; done) | (refine (Below.heap_alloc _ _ _ ?_).trans ?_; (simp <;> omega)))
  case hi =>
    intro j u hj
    rcases j with _ | _ | _ | _ | _ | j
    all_goals first | exact hj | (simp [five] at hj)
end Go.Proofs.Ytbhjbicbgmeboaa
