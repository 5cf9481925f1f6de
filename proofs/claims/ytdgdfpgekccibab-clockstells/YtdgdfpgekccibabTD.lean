import Derived.Test.YtdgdfpgekccibabTC
/-! ClocksTells: a row that is appended to. -/
namespace Go.Proofs.Ytdgdfpgekccibab
open Go Go.RowKit
theorem int_own {lo : Nat} {w : World} {m : Nat} {l : List Value} {rv : Value} (h : w.ownsRow lo 3 1 rv m l) : ∀ b, rv.ownBlock = some b → lo ≤ b ∧ ∃ cs, w.heap[b]? = some (.cells cs 3 (0, 0)) := fun b e => by
  obtain ⟨h1, h2⟩ := h
  rcases h2 with ⟨hv, _⟩ | ⟨g', cap', cur, hv, hg', hh, _⟩
  · rw [hv] at e; cases e
  · rw [hv] at e
    cases e
    exact ⟨hg', cur, hh⟩
theorem iint_u : Try.prog.underlying 39 = some (.slice 3) := by kernel_rfl
theorem iint_info : ∃ ri, Try.prog.info? 3 = some ri ∧ ri.zero = some (.int .i64 0) ∧ ri.size = 1 ∧ ri.bytes = 8 := by
  have : (Try.prog.info? 3).map (fun i => (i.zero, i.size, i.bytes)) = some (some (.int .i64 0), 1, 8) := by kernel_rfl
  cases hq : Try.prog.info? 3 with
  | none => rw [hq] at this; cases this
  | some ri => rw [hq] at this; simp at this; exact ⟨ri, rfl, this.1, this.2.1, this.2.2⟩
/-- Row i is appended to, q times so far. -/
structure OwAt (lo B2 : Nat) (w4 w : World) (g m nc : Nat) (G : Nat → Nat) (i q : Nat) (v : Value) (xs : List Value) : Prop where
  top : ∃ f, w.rowIs g 39 m f ∧ f i = v ∧ ∀ p, i < p → p < m → f p = .slice (some ⟨G p, 0, none⟩) nc nc
  rows : ∀ p, i < p → p < m → ∃ f, w.rowIs (G p) 3 nc f
  own : w.ownsRow lo 3 1 v (nc + q) xs
  ob : ∀ b, v.ownBlock = some b → (b < B2 ∨ w4.heap.size ≤ b) ∧ ∀ p, i < p → p < m → b ≠ G p
  mid : ∀ b, B2 ≤ b → b < w4.heap.size → w.heap[b]? = w4.heap[b]?
  bel : Below lo w4 w
theorem SpAt.begin {lo B2 : Nat} {w4 w : World} {g m nc : Nat} {G : Nat → Nat} {i : Nat} (h : SpAt lo B2 w4 w g m nc G i) (him : i < m) (hnc : nc ≤ 16) (hl : lo ≤ G i) (hu : G i < B2) (hinj : ∀ i j, i < m → j < m → G i = G j → i = j) : ∃ xs, OwAt lo B2 w4 w g m nc G i 0 (.slice (some ⟨G i, 0, none⟩) nc nc) xs := by
  obtain ⟨⟨f, t1, t2⟩, hr, hm, hb⟩ := h
  obtain ⟨fr, cs, c1, c2, c3⟩ := hr i (Nat.le_refl _) him
  refine ⟨cs.toList.take (nc * 1), ⟨f, t1, t2 i (Nat.le_refl _) him, fun p p1 p2 => t2 p (by omega) p2⟩, fun p p1 p2 => hr p (by omega) p2, ⟨by simp [c2], .inr ⟨G i, nc, cs, rfl, hl, c1, by omega, by unfold maxLen; omega, by omega, rfl⟩⟩, fun b e => ?_, hm, hb⟩
  cases e
  exact ⟨.inl hu, fun p p1 p2 e => by have := hinj i p him p2 e; omega⟩
theorem OwAt.done {lo B2 : Nat} {w4 w : World} {g m nc : Nat} {G : Nat → Nat} {i q : Nat} {v : Value} {xs : List Value} (h : OwAt lo B2 w4 w g m nc G i q v xs) : SpAt lo B2 w4 w g m nc G (i + 1) := by
  obtain ⟨⟨f, t1, _, t2⟩, hr, _, _, hm, hb⟩ := h
  exact ⟨⟨f, t1, fun p p1 p2 => t2 p (by omega) p2⟩, fun p p1 p2 => hr p (by omega) p2, hm, hb⟩
theorem OwAt.more {lo B2 : Nat} {w4 w w0 w2 : World} {g m nc : Nat} {G : Nat → Nat} {i q g1 c1 : Nat} {v u : Value} {xs : List Value} (h : OwAt lo B2 w4 w g m nc G i q v xs) (hlg : lo ≤ g) (hgB : g < B2) (hGB : ∀ p, p < m → G p < B2 ∧ G p ≠ g) (hB24 : B2 ≤ w4.heap.size) (hlo : lo ≤ w.heap.size) (hB : Below w.heap.size w w0)
    (r1 : w2.ownsRow lo 3 1 (.slice (some ⟨g1, 0, none⟩) (nc + q + 1) c1) (nc + q + 1) (xs ++ [u])) (r2 : w0.grownBy w2 v.ownBlock) (r3 : v.ownBlock = some g1 ∨ g1 = w0.heap.size) :
    (w2.cell? ⟨g, i, none⟩ = w.cell? ⟨g, i, none⟩ ∧ w2.frozen? ⟨g, i, none⟩ = false) ∧ OwAt lo B2 w4 (w2.setCell ⟨g, i, none⟩ (.slice (some ⟨g1, 0, none⟩) (nc + q + 1) c1)) g m nc G i (q + 1) (.slice (some ⟨g1, 0, none⟩) (nc + q + 1) c1) (xs ++ [u]) := by
  obtain ⟨⟨f, t1, t0, t2⟩, hr, hown, hob, hm, hb⟩ := h
  have hio := int_own hown
  have keep : ∀ b, b < w.heap.size → v.ownBlock ≠ some b → w2.heap[b]? = w.heap[b]? := fun b hlt hne => (r2.block b (Nat.lt_of_lt_of_le hlt hB.size) (fun e => hne e.symm)).trans (hB.block b hlt)
  have hgne : v.ownBlock ≠ some g := fun e => by
    obtain ⟨-, cs, h2⟩ := hio g e
    obtain ⟨cs', h3, -⟩ := t1
    rw [h3] at h2
    cases h2
  have k1 := keep g t1.lt hgne
  have t1' := t1.of_block k1
  have hg1 : g1 ≠ g := fun e => by
    obtain ⟨-, cs, h2⟩ := int_own r1 g1 rfl
    obtain ⟨cs', h3, -⟩ := t1'
    rw [e, h3] at h2
    cases h2
  have hs : w4.heap.size ≤ w0.heap.size := Nat.le_trans hb.size hB.size
  refine ⟨⟨cell_block k1, t1'.frozen i⟩, ⟨⟨_, t1'.set i _, by simp, fun p p1 p2 => ?_⟩, fun p p1 p2 => ?_, ?_, fun b e => ?_, fun b b1 b2 => ?_, ?_⟩⟩
  · have : p ≠ i := by omega
    simp only [this, if_false]
    exact t2 p p1 p2
  · obtain ⟨f', r⟩ := hr p p1 p2
    exact ⟨f', (r.of_block (keep _ r.lt (fun e => (hob _ e).2 p p1 p2 rfl))).setOther (hGB p p2).2 _⟩
  · exact ownsRow_keep r1 (fun b e => by cases e; exact Below.heap_setCell _ _ _ _ hg1)
  · cases e
    rcases r3 with r3 | r3
    · exact hob g1 r3
    · refine ⟨.inr (by show w4.heap.size ≤ g1; omega), fun p p1 p2 e => ?_⟩
      have := (hGB p p2).1
      have e' : g1 = G p := e
      omega
  · have hlt : b < w.heap.size := Nat.lt_of_lt_of_le b2 hb.size
    refine (Below.heap_setCell _ _ _ _ (by show b ≠ g; omega)).trans ((keep b hlt (fun e => ?_)).trans (hm b b1 b2))
    have := (hob b e).1
    omega
  · exact (hb.trans ((hB.mono hlo).grown r2 (Nat.le_trans hlo hB.size) (fun b e => (hio b e).1))).setCell (p := ⟨g, i, none⟩) hlg _
end Go.Proofs.Ytdgdfpgekccibab
