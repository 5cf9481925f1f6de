import Derived.Test.YtpdcinicnekeoaaME
/-! watch: WatchMerges: what is given. -/
namespace Go.Proofs.Ytpdcinicnekeoaa
open Go Go.RowKit Go.Watch
theorem row_info : ∃ ri, Try.prog.info? 23 = some ri ∧ ri.zero = some (.slice none 0 0) ∧ ri.size = 1 ∧ ri.bytes = 24 := by
  have : (Try.prog.info? 23).map (fun i => (i.zero, i.size, i.bytes)) = some (some (.slice none 0 0), 1, 24) := by kernel_rfl
  cases hq : Try.prog.info? 23 with
  | none => rw [hq] at this; cases this
  | some ri => rw [hq] at this; simp at this; exact ⟨ri, rfl, this.1, this.2.1, this.2.2⟩
/-- The lists that are handed on, as copies. -/
structure MS (w0 w : World) (ls : List (List Chg)) (i : Nat) (ga : Option Addr) (gc : Nat) (cps : List Value) : Prop where
  bel : Below w0.heap.size w0 w
  row : Rw w w0.heap.size 1 ga i gc cps
  each : ∀ (j : Nat) l, j < i → ls[j]? = some l → ∃ xa xc, cps[j]? = some (.slice xa l.length xc) ∧ ChgsAt (fun b => w0.heap.size ≤ b ∧ ¬ blkOf ga b) w xa l ∧ l.length ≤ xc ∧ xc ≤ 9223372036854775807
  lb : ∀ b, blkOf ga b → w0.heap.size ≤ b
theorem MS.below {w0 w w' : World} {ls : List (List Chg)} {i : Nat} {ga : Option Addr} {gc : Nat} {cps : List Value} (h : MS w0 w ls i ga gc cps) (hb : Below w.heap.size w w') : MS w0 w' ls i ga gc cps :=
  ⟨h.bel.trans (hb.mono h.bel.size), h.row.below hb, fun j l hj hl => by
    obtain ⟨xa, xc, h1, h2, h3⟩ := h.each j l hj hl
    exact ⟨xa, xc, h1, h2.below hb, h3⟩, h.lb⟩
theorem MS.rows {w0 w : World} {ls : List (List Chg)} {i : Nat} {ga : Option Addr} {gc : Nat} {cps : List Value} (h : MS w0 w ls i ga gc cps) (hi : ls.length = i) : RowsAt w ga ls := fun j l hj => by
  have hl := (List.getElem?_eq_some_iff.1 hj).1
  obtain ⟨xa, xc, h1, h2, h3⟩ := h.each j l (by omega) hj
  obtain ⟨b, o, e, -, hc⟩ := h.row.cell h1
  exact ⟨b, o, xa, xc, e, hc, h2.mono (fun _ _ _ => trivial), h3⟩
theorem MS.step {w0 w W2 W3 W4 : World} {ls : List (List Chg)} {i : Nat} {ga : Option Addr} {gc : Nat} {cps : List Value} {l : List Chg} {g of c g2 o2 c2 : Nat} (h : MS w0 w ls i ga gc cps) (hl : ls[i]? = some l) (hb : Below w.heap.size w W2) (hg : Rw W2 w.heap.size 4 (some ⟨g, of, none⟩) l.length c (flatC l))
    (hb3 : Below W2.heap.size W2 W3) (hA : Appd W3 w0.heap.size 1 ga i 1 gc (cps ++ [.slice (some ⟨g, of, none⟩) l.length c]) g2 o2 c2 W4) : MS w0 W4 ls (i + 1) (some ⟨g2, o2, none⟩) c2 (cps ++ [.slice (some ⟨g, of, none⟩) l.length c]) := by
  have s1 := h.bel.size
  have s2 := hb.size
  have s3 := hb3.size
  have hb' : Below w.heap.size w W3 := hb.trans (hb3.mono hb.size)
  have hle := h.row.le
  have hcl : cps.length = i := by have := h.row.len; omega
  have hga : ∀ b, blkOf ga b → i + 1 ≤ gc → b < w.heap.size := fun b hbk hr => by
    obtain ⟨b', o', e, -, h2, -⟩ := h.row.pt.resolve_left (by omega)
    obtain ⟨o3, s3, e3⟩ := hbk
    rw [e] at e3
    cases e3
    exact h2
  have hnew : ∀ b, b < W3.heap.size → (blkOf ga b → ¬ i + 1 ≤ gc) → ¬ blkOf (some ⟨g2, o2, none⟩) b := fun b hlt hno hbk => by
    obtain ⟨o3, s3, e3⟩ := hbk
    cases e3
    rcases hA.at' with ⟨e, -, h1⟩ | ⟨e, -⟩
    · exact hno ⟨o2, none, e⟩ h1
    · omega
  refine ⟨hA.below (h.bel.trans (hb'.mono h.bel.size)) (Nat.le_refl _) h.lb, hA.row, fun j l' hj hl' => ?_, fun b hbk => ?_⟩
  · by_cases e : j = i
    · subst e
      rw [hl] at hl'
      cases hl'
      refine ⟨some ⟨g, of, none⟩, c, by rw [List.getElem?_append_right (by omega)]; simp [hcl], ?_, hg.le, by have := hg.mx; unfold maxLen at this; omega⟩
      have h1 := hg.chgs.below hb3
      have h2 : ChgsAt (fun b => w.heap.size ≤ b ∧ (blkOf ga b → ¬ j + 1 ≤ gc)) W3 (some ⟨g, of, none⟩) l := h1.mono (fun b hb1 _ => ⟨hb1, fun hbk hr => by have := hga b hbk hr; omega⟩)
      have h3 : ChgsAt (fun b => w.heap.size ≤ b ∧ b < W3.heap.size ∧ (blkOf ga b → ¬ j + 1 ≤ gc)) W3 (some ⟨g, of, none⟩) l := h2.mono (fun b hb1 hlt => ⟨hb1.1, hlt, hb1.2⟩)
      exact (h3.keep (fun b hb1 hlt => hA.fr.block b hlt (fun e => hb1.2.2 e.1 e.2))).mono (fun b hb1 _ => ⟨by omega, hnew b hb1.2.1 hb1.2.2⟩)
    · obtain ⟨xa, xc, h1, h2, h3⟩ := h.each j l' (by omega) hl'
      refine ⟨xa, xc, by rw [List.getElem?_append_left (by omega)]; exact h1, ?_, h3⟩
      have h4 := h2.below hb'
      have h5 : ChgsAt (fun b => (w0.heap.size ≤ b ∧ ¬ blkOf ga b) ∧ b < W3.heap.size) W3 xa l' := h4.mono (fun b hb1 hlt => ⟨hb1, hlt⟩)
      exact (h5.keep (fun b hb1 hlt => hA.fr.block b hlt (fun e => hb1.1.2 e.1))).mono (fun b hb1 _ => ⟨hb1.1.1, hnew b hb1.2 (fun hbk => absurd hbk hb1.1.2)⟩)
  · obtain ⟨o3, s3, e3⟩ := hbk
    cases e3
    rcases hA.at' with ⟨e, -⟩ | ⟨e, -⟩
    · exact h.lb g2 ⟨o2, none, e⟩
    · omega
/-- Rising so far. -/
def RiseTo (l : List Chg) (k : Nat) : Prop := ∀ (j : Nat) (c d : Chg), j + 1 < k → l[j]? = some c → l[j + 1]? = some d → c.st ≤ d.st
theorem RiseTo.done {l : List Chg} (k : Nat) (hk : l.length ≤ k) (h : RiseTo l k) : Rise l := by
  have : ∀ (e i : Nat) (c d : Chg), l[i]? = some c → l[i + e]? = some d → c.st ≤ d.st := by
    intro e
    induction e with
    | zero => intro i c d h1 h2; rw [Nat.add_zero, h1] at h2; cases h2; exact Int.le_refl _
    | succ e ih =>
      intro i c d h1 h2
      have hlt := (List.getElem?_eq_some_iff.1 h2).1
      obtain ⟨x, hx⟩ : ∃ x, l[i + e]? = some x := ⟨_, List.getElem?_eq_getElem (by omega)⟩
      have := ih i c x h1 hx
      have := h (i + e) x d (by omega) hx h2
      omega
  intro i j c d h1 h2 hij
  exact this (j - i) i c d h1 (by rw [show i + (j - i) = j from by omega]; exact h2)
theorem RiseTo.step {l : List Chg} {k : Nat} {c d : Chg} (h : RiseTo l (k + 1)) (hc : l[k]? = some c) (hd : l[k + 1]? = some d) (hle : c.st ≤ d.st) : RiseTo l (k + 2) := fun j x y hj hx hy => by
  by_cases e : j = k
  · subst e
    rw [hc] at hx
    rw [hd] at hy
    cases hx
    cases hy
    exact hle
  · exact h j x y (by omega) hx hy
theorem totL_take {ls : List (List Chg)} {i : Nat} {l : List Chg} (h : ls[i]? = some l) : totL (ls.take (i + 1)) = totL (ls.take i) + l.length := by
  rw [List.take_add_one, h, totL_app]
  simp [totL]
end Go.Proofs.Ytpdcinicnekeoaa
