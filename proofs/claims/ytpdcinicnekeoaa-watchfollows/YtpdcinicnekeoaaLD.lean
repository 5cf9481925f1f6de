import Derived.Test.YtpdcinicnekeoaaLC
import Derived.Test.YtpdcinicnekeoaaWJ
/-! WatchPlays: what stands at each act. -/
namespace Go.Proofs.Ytpdcinicnekeoaa
open Go Go.RowKit Go.Watch
theorem withG_bd {k : Nat} {g : Lg} {s M : Int} {new : List Chg} (h : g.Ok k) (hb : ∀ c ∈ g.cs, c.st ≤ M) (hs : s ≤ M) : ∀ c ∈ (withG k g s new).cs, c.st ≤ M := by
  by_cases hc : s ≤ lastSt g.cs ∨ new = []
  · unfold withG
    rw [if_pos hc]
    exact hb
  · have hs' : lastSt g.cs < s := by
      rcases Int.lt_or_le (lastSt g.cs) s with h' | h'
      · exact h'
      · exact absurd (.inl h') hc
    rw [withG_eq h hs' (fun e => hc (.inr e))]
    intro c hcm
    have := ((all_ok (new := new) h hs').2 c (List.mem_of_mem_drop hcm)).2.2
    omega
/-- A log and the document's, beside one another: no block of theirs is one of the two boxes. -/
structure Pair (q7 q10 : Nat) (w : World) (k : Nat) (p : Nat) (g : Lg) (a : Option Addr) (cap : Nat) (la : Option Addr) (lc : Nat) : Prop where
  log : LogAt (fun b => b ≠ q7 ∧ b ≠ q10) w p k g a cap
  ref : ChgsAt (fun b => b ≠ q7 ∧ b ≠ q10) w la g.cs
  lle : g.cs.length ≤ lc
  lmx : lc ≤ 9223372036854775807
  ok : g.Ok k
  bd : ∀ c ∈ g.cs, c.st ≤ 9223372036854775807
theorem Pair.below {q7 q10 : Nat} {w w' : World} {k : Nat} {p : Nat} {g : Lg} {a : Option Addr} {cap : Nat} {la : Option Addr} {lc : Nat} (h : Pair q7 q10 w k p g a cap la lc) (hb : Below w.heap.size w w') : Pair q7 q10 w' k p g a cap la lc :=
  ⟨h.log.below hb, h.ref.below hb, h.lle, h.lmx, h.ok, h.bd⟩
theorem Pair.keep {q7 q10 : Nat} {w w' : World} {k : Nat} {p : Nat} {g : Lg} {a : Option Addr} {cap : Nat} {la : Option Addr} {lc : Nat} (h : Pair q7 q10 w k p g a cap la lc) (hk : ∀ b, b ≠ q7 ∧ b ≠ q10 → b < w.heap.size → w'.heap[b]? = w.heap[b]?) : Pair q7 q10 w' k p g a cap la lc :=
  ⟨h.log.keep hk, h.ref.keep hk, h.lle, h.lmx, h.ok, h.bd⟩
/-- What stands at each act. -/
structure PI (w0 w : World) (q7 q10 : Nat) (k : Nat) (p : Nat) (g : Lg) (a : Option Addr) (cap : Nat) (la : Option Addr) (lc : Nat) (p1 : Nat) (g1 : Lg) (a1 : Option Addr) (cap1 : Nat) (la1 : Option Addr) (lc1 : Nat) : Prop where
  bel : Below w0.heap.size w0 w
  l7 : w0.heap.size ≤ q7
  l10 : w0.heap.size ≤ q10
  ne : q7 ≠ q10
  b7 : RBox w q7 k la g.cs.length lc g.hor (lastSt g.cs)
  b10 : RBox w q10 k la1 g1.cs.length lc1 g1.hor (lastSt g1.cs)
  now : Pair q7 q10 w k p g a cap la lc
  fst : Pair q7 q10 w k p1 g1 a1 cap1 la1 lc1
theorem RBox.lt {w : World} {B : Nat} {k : Int} {a : Option Addr} {n cap : Nat} {hor last : Int} (h : RBox w B k a n cap hor last) : B < w.heap.size := lt_of_cell h.c0
section
variable {w0 w : World} {q7 q10 : Nat} {k : Nat} {p : Nat} {g : Lg} {a : Option Addr} {cap : Nat} {la : Option Addr} {lc : Nat} {p1 : Nat} {g1 : Lg} {a1 : Option Addr} {cap1 : Nat} {la1 : Option Addr} {lc1 : Nat}
theorem PI.below {w' : World} (h : PI w0 w q7 q10 k p g a cap la lc p1 g1 a1 cap1 la1 lc1) (hb : Below w.heap.size w w') : PI w0 w' q7 q10 k p g a cap la lc p1 g1 a1 cap1 la1 lc1 :=
  ⟨h.bel.trans (hb.mono h.bel.size), h.l7, h.l10, h.ne, h.b7.keep (hb.block _ h.b7.lt), h.b10.keep (hb.block _ h.b10.lt), h.now.below hb, h.fst.below hb⟩
/-- first, one = l, w. -/
theorem PI.same (h : PI w0 w q7 q10 k p g a cap la lc p1 g1 a1 cap1 la1 lc1) : PI w0 (set4 w q10 k la g.cs.length lc g.hor (lastSt g.cs)) q7 q10 k p g a cap la lc p g a cap la lc := by
  have hk : ∀ b, b ≠ q10 → (set4 w q10 k la g.cs.length lc g.hor (lastSt g.cs)).heap[b]? = w.heap[b]? := fun b hb => set4_heap _ _ _ _ _ _ _ _ _ hb
  exact ⟨set4_below h.bel _ h.l10 _ _ _ _ _ _, h.l7, h.l10, h.ne, h.b7.keep (hk _ h.ne), h.b10.set4 _ _ _ _ _ _, h.now.keep (fun b hb _ => hk b hb.2), h.now.keep (fun b hb _ => hk b hb.2)⟩
/-- l, w = the next ones: W4 ahead of both Withs, W5, W6 behind them; then the box is written. -/
theorem PI.next {W4 W5 W6 : World} {s : Int} {new : List Chg} {p' : Nat} {a' : Option Addr} {cap' : Nat} {la' : Option Addr} {lc' : Nat} (h : PI w0 w q7 q10 k p g a cap la lc p1 g1 a1 cap1 la1 lc1) (hk1 : 1 ≤ k) (hs : s ≤ 9223372036854775807) (hb4 : Below w.heap.size w W4) (hb5 : Below W4.heap.size W4 W5) (hb6 : Below W5.heap.size W5 W6)
    (hL : LogAt (NewS (fun b => (b ≠ q7 ∧ b ≠ q10) ∧ b < w.heap.size) W4.heap.size) W5 p' k (withG k g s new) a' cap') (hC : ChgsAt (NewS (fun b => (b ≠ q7 ∧ b ≠ q10) ∧ b < w.heap.size) W5.heap.size) W6 la' (withG k g s new).cs) (hl1 : (withG k g s new).cs.length ≤ lc') (hl2 : lc' ≤ 9223372036854775807) :
    PI w0 (set4 W6 q7 k la' (withG k g s new).cs.length lc' (withG k g s new).hor (lastSt (withG k g s new).cs)) q7 q10 k p' (withG k g s new) a' cap' la' lc' p1 g1 a1 cap1 la1 lc1 ∧
      LogAt (NewS (fun b => (b ≠ q7 ∧ b ≠ q10) ∧ b < w.heap.size) W4.heap.size) (set4 W6 q7 k la' (withG k g s new).cs.length lc' (withG k g s new).hor (lastSt (withG k g s new).cs)) p' k (withG k g s new) a' cap' ∧
      ChgsAt (NewS (fun b => (b ≠ q7 ∧ b ≠ q10) ∧ b < w.heap.size) W4.heap.size) (set4 W6 q7 k la' (withG k g s new).cs.length lc' (withG k g s new).hor (lastSt (withG k g s new).cs)) la' (withG k g s new).cs := by
  have h7 := h.b7.lt
  have h10 := h.b10.lt
  have z4 := hb4.size
  have z5 := hb5.size
  have z6 := hb6.size
  have hb46 : Below w.heap.size w W6 := hb4.trans ((hb5.trans (hb6.mono hb5.size)).mono hb4.size)
  have hk : ∀ b, b ≠ q7 → (set4 W6 q7 k la' (withG k g s new).cs.length lc' (withG k g s new).hor (lastSt (withG k g s new).cs)).heap[b]? = W6.heap[b]? := fun b hb => set4_heap _ _ _ _ _ _ _ _ _ hb
  have hL6 := hL.below hb6
  have hL7 : LogAt (NewS (fun b => (b ≠ q7 ∧ b ≠ q10) ∧ b < w.heap.size) W4.heap.size) (set4 W6 q7 k la' (withG k g s new).cs.length lc' (withG k g s new).hor (lastSt (withG k g s new).cs)) p' k (withG k g s new) a' cap' := hL6.keep (fun b hb _ => hk b (by
    rcases hb with hb | hb
    · exact hb.1.1.1
    · omega))
  have hC7 : ChgsAt (NewS (fun b => (b ≠ q7 ∧ b ≠ q10) ∧ b < w.heap.size) W5.heap.size) (set4 W6 q7 k la' (withG k g s new).cs.length lc' (withG k g s new).hor (lastSt (withG k g s new).cs)) la' (withG k g s new).cs := hC.keep (fun b hb _ => hk b (by
    rcases hb with hb | hb
    · exact hb.1.1.1
    · omega))
  refine ⟨⟨set4_below (h.bel.trans (hb46.mono h.bel.size)) _ h.l7 _ _ _ _ _ _, h.l7, h.l10, h.ne, (h.b7.keep (hb46.block _ h7)).set4 _ _ _ _ _ _, (h.b10.keep (hb46.block _ h10)).keep (hk _ h.ne.symm), ⟨hL7.mono (fun b hb _ => ?_), hC7.mono (fun b hb _ => ?_), hl1, hl2, withG_ok h.now.ok hk1, withG_bd h.now.ok h.now.bd hs⟩, (h.fst.below hb46).keep (fun b hb _ => hk b hb.1)⟩, hL7, hC7.mono (fun b hb _ => ?_)⟩
  · rcases hb with hb | hb
    · exact hb.1.1
    · exact ⟨by omega, by omega⟩
  · rcases hb with hb | hb
    · exact hb.1.1
    · exact ⟨by omega, by omega⟩
  · rcases hb with hb | hb
    · exact .inl ⟨hb.1, by omega⟩
    · exact .inr (by omega)
/-- .. and a row between B0 and B1 is spoilt. -/
theorem PI.spoilt {W4 W7 W8 : World} {g' : Lg} {p' : Nat} {a' : Option Addr} {cap' : Nat} {la' : Option Addr} {lc' : Nat} {B0 : Nat} (h : PI w0 w q7 q10 k p g a cap la lc p1 g1 a1 cap1 la1 lc1) (hn : PI w0 W7 q7 q10 k p' g' a' cap' la' lc' p1 g1 a1 cap1 la1 lc1) (hB0 : w.heap.size ≤ B0) (hb4 : Below w.heap.size w W4) (hk7 : ∀ b, b ≠ q7 → b < w.heap.size → W7.heap[b]? = w.heap[b]?) (hz : W4.heap.size ≤ W7.heap.size)
    (hL : LogAt (NewS (fun b => (b ≠ q7 ∧ b ≠ q10) ∧ b < w.heap.size) W4.heap.size) W7 p' k g' a' cap') (hC : ChgsAt (NewS (fun b => (b ≠ q7 ∧ b ≠ q10) ∧ b < w.heap.size) W4.heap.size) W7 la' g'.cs)
    (hfar : ∀ q, q < W7.heap.size → (q < B0 ∨ W4.heap.size ≤ q) → W8.heap[q]? = W7.heap[q]?) (hbel : Below B0 W7 W8) : PI w0 W8 q7 q10 k p' g' a' cap' la' lc' p1 g1 a1 cap1 la1 lc1 := by
  have h7 := h.b7.lt
  have h10 := h.b10.lt
  have z4 := hb4.size
  have zb := h.bel.size
  have hkeep : ∀ b, NewS (fun b => (b ≠ q7 ∧ b ≠ q10) ∧ b < w.heap.size) W4.heap.size b → b < W7.heap.size → W8.heap[b]? = W7.heap[b]? := fun b hb hlt => hfar b hlt (by
    rcases hb with hb | hb
    · exact .inl (by have := hb.1.2; omega)
    · exact .inr hb)
  have hto : ∀ b, NewS (fun b => (b ≠ q7 ∧ b ≠ q10) ∧ b < w.heap.size) W4.heap.size b → b < W8.heap.size → b ≠ q7 ∧ b ≠ q10 := fun b hb _ => by
    rcases hb with hb | hb
    · exact hb.1.1
    · exact ⟨by omega, by omega⟩
  exact ⟨hn.bel.trans (hbel.mono (by omega)), h.l7, h.l10, h.ne, hn.b7.keep (hfar _ hn.b7.lt (.inl (by omega))), hn.b10.keep (hfar _ hn.b10.lt (.inl (by omega))), ⟨(hL.keep hkeep).mono hto, (hC.keep hkeep).mono hto, hn.now.lle, hn.now.lmx, hn.now.ok, hn.now.bd⟩, h.fst.keep (fun b hb hlt => (hfar b (by omega) (.inl (by omega))).trans (hk7 b hb.1 hlt))⟩
end
def behV : Array Value := #[.int .i64 0, .string ⟨#[]⟩, .string ⟨#[98, 101, 104, 105, 110, 100]⟩, .int .i64 0]
def beh : Chg := ⟨0, ⟨#[]⟩, ⟨#[98, 101, 104, 105, 110, 100]⟩, 0⟩
theorem given_step {W6 W7 : World} {a7 : Option Addr} {n c7 : Nat} {l : List Chg} (hB7 : Below W6.heap.size W6 W7) (hR7 : Rw W7 W6.heap.size 4 a7 n c7 (flatC l)) : ∃ W8, Hid (W7.alloc (.cells #[.int .i64 0, .string ⟨#[]⟩, .string ⟨#[98, 101, 104, 105, 110, 100]⟩, .int .i64 0] 30) = W8) ∧ Hid (Below W6.heap.size W6 W8) ∧ Hid (Src Try.prog 4 23 (.slice (some ⟨W7.heap.size, 0, none⟩) 1 1) 1 (chgCs beh) W8) ∧ Hid (Rw W8 W6.heap.size 4 a7 n c7 (flatC l)) := by
  have hB8 : Below W7.heap.size W7 (W7.alloc (.cells #[.int .i64 0, .string ⟨#[]⟩, .string ⟨#[98, 101, 104, 105, 110, 100]⟩, .int .i64 0] 30)) := (Below.refl _ W7).alloc (Nat.le_refl _) _
  refine ⟨_, rfl, hB7.trans (hB8.mono hB7.size), ?_, hR7.below hB8⟩
  exact Src.of_block (cs := #[.int .i64 0, .string ⟨#[]⟩, .string ⟨#[98, 101, 104, 105, 110, 100]⟩, .int .i64 0]) Try.underlying23 (heap_alloc_new W7 _) 1 1 rfl (fun u hu => flatC_one [beh] u (by simpa [flatC, chgCs, beh] using hu))
/-- What was handed in, and one behind. -/
structure Gv (W6 W9 : World) (g9 o9 c9 n : Nat) (l : List Chg) : Prop where
  bel : Below W6.heap.size W6 W9
  row : Rw W9 W6.heap.size 4 (some ⟨g9, o9, none⟩) (n + 1) c9 (flatC (l ++ [beh]))
  lt : g9 < W9.heap.size
  lo : W6.heap.size ≤ g9
theorem given_done {W6 W8 W9 : World} {a7 : Option Addr} {n c7 : Nat} {l : List Chg} {g9 o9 c9 : Nat} (hB8 : Below W6.heap.size W6 W8) (hR8 : Rw W8 W6.heap.size 4 a7 n c7 (flatC l)) (hA : Appd W8 W6.heap.size 4 a7 n 1 c7 (flatC l ++ chgCs beh) g9 o9 c9 W9) : Gv W6 W9 g9 o9 c9 n l := by
  refine ⟨⟨hA.fr.os.trans hB8.os, hA.fr.tape.trans hB8.tape, hA.fr.output.trans hB8.output, Nat.le_trans hB8.size hA.fr.size, fun q hq => (hA.fr.block q (Nat.lt_of_lt_of_le hq hB8.size) (fun e => ?_)).trans (hB8.block q hq)⟩, by rw [flatC_snoc]; exact hA.row, hA.lt, ?_⟩
  · rcases hR8.pt with h0 | ⟨b', o', e', h2, -⟩
    · have := e.2; omega
    · obtain ⟨o2, s2, e2⟩ := e.1
      rw [e'] at e2
      cases e2
      omega
  · rcases hA.row.pt with h0 | ⟨b', o', e', h2, -⟩
    · have := hA.row.le; omega
    · cases e'; exact h2
theorem Gv.chgs {W6 W9 : World} {g9 o9 c9 n : Nat} {l : List Chg} (h : Gv W6 W9 g9 o9 c9 n l) (hn : l.length = n) : ChgsAt (fun b => W6.heap.size ≤ b) W9 (some ⟨g9, o9, none⟩) l := by
  have := h.row.chgs.take n
  rw [List.take_append_of_le_length (by omega), List.take_of_length_le (by omega)] at this
  exact this
theorem Gv.behind {W6 W9 : World} {g9 o9 c9 n : Nat} {l : List Chg} (h : Gv W6 W9 g9 o9 c9 n l) (hn : l.length = n) : W9.cell? ⟨g9, o9 + n * 4 + 2, none⟩ = some (.string ⟨#[98, 101, 104, 105, 110, 100]⟩) := by
  obtain ⟨b, o, e, -, hc⟩ := h.row.chgs n beh (by rw [List.getElem?_append_right (by omega), hn, Nat.sub_self]; rfl)
  cases e
  exact hc.id
end Go.Proofs.Ytpdcinicnekeoaa
