import Derived.Test.YtdgdfpgekccibabTA
import Derived.Test.YtdgdfpgekccibabSM
/-! ClocksTells: what is told, and what a spoiled answer leaves alone. -/
namespace Go.Proofs.Ytdgdfpgekccibab
open Go Go.RowKit
theorem cell_block {w w' : World} {b o : Nat} (h : w'.heap[b]? = w.heap[b]?) : w'.cell? ⟨b, o, none⟩ = w.cell? ⟨b, o, none⟩ := by simp [World.cell?, h]
/-- Clocks in memory, in blocks from base on. -/
def TellAt (base : Nat) (w : World) (ga : Option Addr) (m nc : Nat) (evs : List Ev) (G : Nat → Nat) : Prop := ∀ i, i < m → (∃ g, ga = some ⟨g, 0, none⟩ ∧ base ≤ g ∧ g < w.heap.size ∧ w.cell? ⟨g, i, none⟩ = some (.slice (some ⟨G i, 0, none⟩) nc nc)) ∧ base ≤ G i ∧ w.rowIs (G i) 3 nc (cnt (clkAt evs i))
theorem TellAt.keep {base : Nat} {w w' : World} {ga : Option Addr} {m nc : Nat} {evs : List Ev} {G : Nat → Nat} (h : TellAt base w ga m nc evs G) (hs : w.heap.size ≤ w'.heap.size) (hk : ∀ b, base ≤ b → b < w.heap.size → w'.heap[b]? = w.heap[b]?) : TellAt base w' ga m nc evs G := fun i hi => by
  obtain ⟨⟨g, h1, h2, h3, h4⟩, h5, h6⟩ := h i hi
  exact ⟨⟨g, h1, h2, Nat.lt_of_lt_of_le h3 hs, (cell_block (hk g h2 h3)).trans h4⟩, h5, h6.of_block (hk _ h5 h6.lt)⟩
theorem TellAt.under {base : Nat} {w w' : World} {ga : Option Addr} {m nc : Nat} {evs : List Ev} {G : Nat → Nat} (h : TellAt base w ga m nc evs G) (hB : Below w.heap.size w w') : TellAt base w' ga m nc evs G := h.keep hB.size (fun b _ hb => hB.block b hb)
/-- How many clocks are told. -/
def mT (evs : List Ev) (clients : Int) : Nat := if chk evs clients = 0 then evs.length else 0
theorem clocks_form {w w' : World} {evs : List Ev} {clients : Int} {e : Ending} (hl : evs.length ≤ 9223372036854775807) (h : ClocksPost w evs clients e w') : Below w.heap.size w w' ∧ ∃ ga ca G, e = .returned (.tuple #[.slice ga (mT evs clients) ca, .int .i64 (chk evs clients)]) ∧ mT evs clients ≤ ca ∧ ca ≤ 9223372036854775807 ∧ TellAt w.heap.size w' ga (mT evs clients) clients.toNat evs G ∧ (0 < mT evs clients → ∃ g, ga = some ⟨g, 0, none⟩ ∧ ClksAt w' w.heap.size g (mT evs clients) clients.toNat evs G) := by
  obtain ⟨hB, h⟩ := h
  refine ⟨hB, ?_⟩
  rcases h with ⟨h0, rfl⟩ | ⟨h0, g, G, rfl, hc⟩
  · have : mT evs clients = 0 := if_neg h0
    rw [this]
    exact ⟨none, 0, fun _ => 0, rfl, Nat.le_refl _, by omega, fun i hi => by omega, fun h => by omega⟩
  · have : mT evs clients = evs.length := if_pos h0
    rw [this, h0]
    exact ⟨some ⟨g, 0, none⟩, evs.length, G, rfl, Nat.le_refl _, hl, fun i hi => ⟨⟨g, rfl, hc.lo, hc.row.lt, hc.row.cell hi⟩, (hc.each i hi).1, (hc.each i hi).2.2⟩, fun _ => ⟨g, rfl, hc⟩⟩
theorem refclocks_form {w w' : World} {evs : List Ev} {clients : Int} {e : Ending} (h : RefClocks w evs clients e w') : Below w.heap.size w w' ∧ ∃ sa sc K, e = .returned (.tuple #[.slice sa (mT evs clients) sc, .int .i64 (chk evs clients)]) ∧ mT evs clients ≤ sc ∧ sc ≤ 9223372036854775807 ∧ TellAt w.heap.size w' sa (mT evs clients) clients.toNat evs K := by
  obtain ⟨hB, h⟩ := h
  refine ⟨hB, ?_⟩
  rcases h with ⟨h0, rfl⟩ | ⟨h0, rv, K, rfl, hc⟩
  · have : mT evs clients = 0 := if_neg h0
    rw [this]
    exact ⟨none, 0, fun _ => 0, rfl, Nat.le_refl _, by omega, fun i hi => by omega⟩
  · have : mT evs clients = evs.length := if_pos h0
    rw [this, h0]
    obtain ⟨sa, sc, rfl, h1, h2, h3⟩ := ownsRow_form hc.row
    refine ⟨sa, sc, K, rfl, h1, by unfold maxLen at h2; omega, fun i hi => ?_⟩
    obtain ⟨g, rfl⟩ := h3 (by omega)
    obtain ⟨hg, cs, hh⟩ := ck_own hc.row g rfl
    exact ⟨⟨g, rfl, hg, (Array.getElem?_eq_some_iff.1 hh).1, ownsRow_cell hc.row (rowsV_at hi)⟩, (hc.each i hi).1, (hc.each i hi).2⟩
/-- Two answers that read alike. -/
theorem tell_same {base base' : Nat} {w : World} {ga sa : Option Addr} {m ca sc : Nat} {nc : Nat} {evs : List Ev} {G K : Nat → Nat} (h1 : TellAt base w ga m nc evs G) (h2 : TellAt base' w sa m nc evs K) (hca : m ≤ ca) (hsc : m ≤ sc) (hm : ca ≤ 9223372036854775807 ∧ sc ≤ 9223372036854775807) (hnc : nc ≤ 16 ∨ m = 0) :
    Calls Try.prog 14 #[.slice ga m ca, .slice sa m sc] w fun e w' => e = .returned (.bool true) ∧ Below w.heap.size w w' := by
  rcases hnc with hnc | rfl
  · exact same_true ga sa m ca sc nc G K (fun i k => (clkAt evs i k : Nat)) w hca hsc hm hnc (fun i hi => by obtain ⟨⟨g, a1, -, -, a2⟩, -⟩ := h1 i hi; exact ⟨g, a1, a2⟩) (fun i hi => by obtain ⟨⟨g, a1, -, -, a2⟩, -⟩ := h2 i hi; exact ⟨g, a1, a2⟩) (fun i k hi hk => (h1 i hi).2.2.cell hk) (fun i k hi hk => (h2 i hi).2.2.cell hk)
  · exact same_true ga sa 0 ca sc 0 G K (fun i k => (clkAt evs i k : Nat)) w hca hsc hm (by decide) (fun i hi => by omega) (fun i hi => by omega) (fun i k hi hk => by omega) (fun i k hi hk => by omega)
/-- A spoiled answer: rows from i on are as long as they were; blocks in [B2, B4) are as they were. -/
structure SpAt (lo B2 : Nat) (w4 w : World) (g m nc : Nat) (G : Nat → Nat) (i : Nat) : Prop where
  top : ∃ f, w.rowIs g 39 m f ∧ ∀ q, i ≤ q → q < m → f q = .slice (some ⟨G q, 0, none⟩) nc nc
  rows : ∀ q, i ≤ q → q < m → ∃ f, w.rowIs (G q) 3 nc f
  mid : ∀ b, B2 ≤ b → b < w4.heap.size → w.heap[b]? = w4.heap[b]?
  bel : Below lo w4 w
theorem SpAt.mark {lo B2 : Nat} {w4 w : World} {g m nc : Nat} {G : Nat → Nat} {i q k : Nat} (h : SpAt lo B2 w4 w g m nc G i) (hl : lo ≤ G q) (hu : G q < B2) (hg : G q ≠ g) (v : Value) : SpAt lo B2 w4 (w.setCell ⟨G q, k, none⟩ v) g m nc G i := by
  obtain ⟨⟨f, t1, t2⟩, hr, hm, hb⟩ := h
  refine ⟨⟨f, t1.setOther (fun e => hg e.symm) v, t2⟩, fun p p1 p2 => ?_, fun b b1 b2 => ?_, hb.setCell (p := ⟨G q, k, none⟩) hl v⟩
  · obtain ⟨f', r⟩ := hr p p1 p2
    by_cases e : G p = G q
    · rw [e] at r ⊢; exact ⟨_, r.set k v⟩
    · exact ⟨f', r.setOther e v⟩
  · exact (Below.heap_setCell _ _ _ _ (by show b ≠ G q; omega)).trans (hm b b1 b2)
end Go.Proofs.Ytdgdfpgekccibab
