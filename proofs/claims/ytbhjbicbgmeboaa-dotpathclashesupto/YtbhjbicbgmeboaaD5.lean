import Derived.Test.YtbhjbicbgmeboaaD4
/-! up, where with is known. -/
namespace Go.Proofs.Ytbhjbicbgmeboaa
open Go Go.RowKit

theorem hid_of {p : Prop} (h : p) : Hid p := h
theorem with_conv {f : FuncId} {args : Array Value} {W : World} {S : Nat → Prop} {R : Tr} (h : Calls Try.prog f args W fun e w' => Below W.heap.size W w' ∧ ∃ cs, e = .returned (.agg cs.toArray) ∧ Seen w' S R cs) :
    Calls Try.prog f args W fun e w' => Below W.heap.size W w' ∧ ∃ cs k9 x9 s9 a9 l9 d9 i9 j9 e9, e = .returned (.agg cs.toArray) ∧ cs = five k9 x9 s9 (.slice a9 l9 d9) (.slice i9 j9 e9) ∧ Seen w' S R cs := by
  refine h.mono ?_
  rintro e w' ⟨hb, cs, rfl, hS⟩
  obtain ⟨k9, x9, s9, a9, l9, d9, i9, j9, e9, h5⟩ := vrep_five hS.rep
  exact ⟨hb, cs, k9, x9, s9, a9, l9, d9, i9, j9, e9, rfl, h5, hS⟩
theorem owns_cells {w : World} {lo : Nat} {e : TypeId} {size g cap n : Nat} {xs : List Value} (h : w.ownsRow lo e size (.slice (some ⟨g, 0, none⟩) n cap) n xs) : CellsAt w g 0 xs ∧ g < w.heap.size ∧ lo ≤ g ∧ n ≤ cap := by
  obtain ⟨h1, h2⟩ := h
  rcases h2 with ⟨hv, _⟩ | ⟨g', cap', cur, hv, hg, hh, hc, hm, hs, hr⟩
  · cases hv
  · cases hv
    refine ⟨fun j u hj => ?_, (Array.getElem?_eq_some_iff.1 hh).1, hg, hc⟩
    have hlt := (List.getElem?_eq_some_iff.1 hj).1
    rw [← hr, List.getElem?_take_of_lt (by omega), Array.getElem?_toList] at hj
    rw [Nat.zero_add]
    simp [World.cell?, hh, hj]


theorem up_with0 (x : Int) (tx : ByteArray) (an : Option Addr) (cn : Nat) (ai : Option Addr) (ci : Nat) (s : ByteArray) (k1 x1 : Int) (s1 : ByteArray) (an1 : Option Addr) (ln1 cn1 : Nat) (ai1 : Option Addr) (li1 ci1 : Nat) (t : Tr) (S : Nat → Prop) (g c : Nat) (w : World) (hS : ∀ k, S k → k < w.heap.size) (hg : g < w.heap.size) (hs : CellsAt w g 0 [.int .i64 6, .int .i64 x, .string tx, .slice an 0 cn, .slice ai 0 ci, .string s, .int .i64 0]) (hV : Seen w S t (five k1 x1 s1 (.slice an1 ln1 cn1) (.slice ai1 li1 ci1))) :
    Calls Try.prog 24 #[.slice (some ⟨g, 0, none⟩) 1 c, .agg #[.int .i64 k1, .int .i64 x1, .string s1, .slice an1 ln1 cn1, .slice ai1 li1 ci1]] w fun e w' => Below w.heap.size w w' ∧ ∃ cs, e = .returned (.agg cs.toArray) ∧ Seen w' (fun k => S k ∨ w.heap.size + 1 < k) (.node 6 0 ⟨#[]⟩ [s] [t]) cs :=
  up_one w 6 x tx an 0 cn ai 0 ci s 0 k1 x1 s1 an1 ln1 cn1 ai1 li1 ci1 (.node 6 0 ⟨#[]⟩ [s] [t]) S hS g c hg hs (fun W hW => with_conv (with0 x tx an cn ai ci s k1 x1 s1 an1 ln1 cn1 ai1 li1 ci1 t S W (hV.keep hW)))
theorem up_with1 (x : Int) (tx : ByteArray) (b o cn b2 o2 ci : Nat) (s s2 : ByteArray) (c0 c1 c2 c3 c4 : Value) (h1 : (c0.oneCell' && c1.oneCell' && c2.oneCell' && c3.oneCell' && c4.oneCell') = true) (hcn : 1 ≤ cn) (hci : 1 ≤ ci) (k1 x1 : Int) (s1 : ByteArray) (an1 : Option Addr) (ln1 cn1 : Nat) (ai1 : Option Addr) (li1 ci1 : Nat) (t : Tr) (S : Nat → Prop) (g c : Nat) (w : World) (hS : ∀ k, S k → k < w.heap.size) (hg : g < w.heap.size) (hs : CellsAt w g 0 [.int .i64 6, .int .i64 x, .string tx, .slice (some ⟨b, o, none⟩) 1 cn, .slice (some ⟨b2, o2, none⟩) 1 ci, .string s2, .int .i64 0]) (hn : w.cell? ⟨b, o, none⟩ = some (.string s)) (h : CellsAt w b2 o2 [c0, c1, c2, c3, c4]) (hV : Seen w S t (five k1 x1 s1 (.slice an1 ln1 cn1) (.slice ai1 li1 ci1))) :
    Calls Try.prog 24 #[.slice (some ⟨g, 0, none⟩) 1 c, .agg #[.int .i64 k1, .int .i64 x1, .string s1, .slice an1 ln1 cn1, .slice ai1 li1 ci1]] w fun e w' => Below w.heap.size w w' ∧ ∃ cs, e = .returned (.agg cs.toArray) ∧ Seen w' (fun k => S k ∨ w.heap.size + 1 < k) (.node 6 0 ⟨#[]⟩ [s] [t]) cs :=
  up_one w 6 x tx (some ⟨b, o, none⟩) 1 cn (some ⟨b2, o2, none⟩) 1 ci s2 0 k1 x1 s1 an1 ln1 cn1 ai1 li1 ci1 (.node 6 0 ⟨#[]⟩ [s] [t]) S hS g c hg hs (fun W hW => with_conv (with1 x tx b o cn b2 o2 ci s s2 c0 c1 c2 c3 c4 h1 hcn hci k1 x1 s1 an1 ln1 cn1 ai1 li1 ci1 t S W ((hW.cell (cell_lt hn)).trans hn) (fun j u hj => (hW.cell (cell_lt (h j u hj))).trans (h j u hj)) (hV.keep hW)))
end Go.Proofs.Ytbhjbicbgmeboaa
