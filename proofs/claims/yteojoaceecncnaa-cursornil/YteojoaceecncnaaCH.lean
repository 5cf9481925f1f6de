import Derived.Test.YteojoaceecncnaaCG
/-! cursor: a page over three items: plain. -/
namespace Go.Proofs.Yteojoaceecncnaa
open Go Go.RowKit

/-- A page under way: how many were looked at, the place of the last, which items are told. -/
structure Pg where
  looked : Nat
  rank : Nat
  key : ByteArray
  docs : List Nat
def Pg.step (kk : Nat → ByteArray) (batch : Nat) (p : Pg) (i : Nat) : Pg := if p.docs.length = batch then p else if cmpP (rankK (kk i)) (kk i) p.rank p.key ≤ 0 then p else ⟨p.looked + 1, rankK (kk i), kk i, p.docs ++ [i]⟩
/-- The page behind the first q items in their order. -/
def Pg.run (kk : Nat → ByteArray) (batch : Nat) (p : Pg) : Nat → Pg
  | 0 => p
  | q + 1 => (p.run kk batch q).step kk batch (2 - q)
theorem Pg.run_full {kk : Nat → ByteArray} {batch : Nat} {p : Pg} {q : Nat} (h : (p.run kk batch q).docs.length = batch) : ∀ m, p.run kk batch (q + m) = p.run kk batch q
  | 0 => rfl
  | m + 1 => by
    have e := Pg.run_full h m
    show (p.run kk batch (q + m)).step kk batch (2 - (q + m)) = _
    rw [e, Pg.step, if_pos h]
theorem Pg.run_le (kk : Nat → ByteArray) (batch : Nat) (p : Pg) : ∀ q, (p.run kk batch q).looked ≤ p.looked + q ∧ (p.run kk batch q).docs.length ≤ p.docs.length + q
  | 0 => ⟨Nat.le_refl _, Nat.le_refl _⟩
  | q + 1 => by
    obtain ⟨h1, h2⟩ := Pg.run_le kk batch p q
    show ((p.run kk batch q).step kk batch (2 - q)).looked ≤ _ ∧ ((p.run kk batch q).step kk batch (2 - q)).docs.length ≤ _
    unfold Pg.step
    split
    · exact ⟨by omega, by omega⟩
    · split
      · exact ⟨by omega, by omega⟩
      · simp only [List.length_append, List.length_cons, List.length_nil]
        exact ⟨by omega, by omega⟩
/-- The cells of what is told. -/
def flatD (kk : Nat → ByteArray) (nn : Nat → Int) (l : List Nat) : List Value := l.flatMap fun i => itCs (kk i) (nn i)
theorem flatD_snoc (kk : Nat → ByteArray) (nn : Nat → Int) (l : List Nat) (i : Nat) : flatD kk nn (l ++ [i]) = flatD kk nn l ++ itCs (kk i) (nn i) := by simp [flatD]
/-- A page in memory with the row of what it tells. -/
structure LSt (kk : Nat → ByteArray) (nn : Nat → Int) (pg batch : Nat) (W1 : World) (st : Pg) (a : Option Addr) (c : Nat) (wr : World) : Prop where
  page : PgAt wr pg batch st.looked st.rank st.key (.slice a st.docs.length c)
  row : Rw wr W1.heap.size 7 a st.docs.length c (flatD kk nn st.docs)
  fr : Fr (fun b => b = pg) W1 wr
theorem LSt.keep {kk : Nat → ByteArray} {nn : Nat → Int} {pg batch : Nat} {W1 : World} {st : Pg} {a : Option Addr} {c : Nat} {wr w' : World} (h : LSt kk nn pg batch W1 st a c wr) (hb : Below wr.heap.size wr w') : LSt kk nn pg batch W1 st a c w' :=
  ⟨h.page.keep hb, h.row.below hb, h.fr.trans (Fr.of_below hb)⟩
theorem Row3.at {w : World} {b : Nat} (h : Row3 w b 2 1 0) {q : Nat} (hq : q < 3) : w.cell? ⟨b, q, none⟩ = some (.int .i64 ((2 - q : Nat) : Int)) := by
  obtain ⟨h0, h1, h2, -⟩ := h.cells
  rcases q with _ | _ | _ | q
  · exact h0
  · exact h1
  · exact h2
  · omega
theorem Row3.frame {S : Nat → Prop} {w w' : World} {b : Nat} {x y z : Int} (h : Row3 w b x y z) (hf : Fr S w w') (hS : ¬ S b) : Row3 w' b x y z := (hf.block _ (Array.getElem?_eq_some_iff.1 h).1 hS).trans h
theorem Pl3.frame {S : Nat → Prop} {w w' : World} {b n : Nat} {kk : Nat → ByteArray} (h : Pl3 w b kk n) (hf : Fr S w w') (hS : ¬ S b) : Pl3 w' b kk n := (hf.block _ (Array.getElem?_eq_some_iff.1 h).1 hS).trans h
theorem PgAt.set {w : World} {b batch looked rank : Nat} {key : ByteArray} {docs : Value} (h : PgAt w b batch looked rank key docs) (l2 r2 : Nat) (k2 : ByteArray) : PgAt ((((w.setCell ⟨b, 3, none⟩ (.int .i64 l2)).setCell ⟨b, 4, none⟩ (.int .u64 r2)).setCell ⟨b, 5, none⟩ (.string k2)).setCell ⟨b, 8, none⟩ (.int .i64 0)).drew b batch l2 r2 k2 docs := by
  unfold PgAt at *
  simp [World.setCell, World.drew, Array.getElem?_modify, h]
theorem PgAt.setDocs {w : World} {b batch looked rank : Nat} {key : ByteArray} {docs : Value} (h : PgAt w b batch looked rank key docs) (d2 : Value) : PgAt (w.setCell ⟨b, 7, none⟩ d2) b batch looked rank key d2 := by
  unfold PgAt at *
  simp [World.setCell, Array.getElem?_modify, h]
theorem Rw.far {w : World} {lo size n cap b i : Nat} {a : Option Addr} {xs : List Value} (h : Rw w lo size a n cap xs) (hb : b < lo) (v : Value) : Rw (w.setCell ⟨b, i, none⟩ v) lo size a n cap xs := by
  rcases h.pt with h0 | ⟨b', o, rfl, h1, h2, h3, h4⟩
  · exact ⟨h.len, h.le, h.mx, .inl h0⟩
  · refine h.keep (by simp [World.setCell]) (fun k hk _ => ?_)
    obtain ⟨o', s', e⟩ := hk
    cases e
    exact Below.heap_setCell _ _ _ _ (by simp only; omega)
theorem Rw.drew {w : World} {lo size n cap : Nat} {a : Option Addr} {xs : List Value} (h : Rw w lo size a n cap xs) : Rw w.drew lo size a n cap xs := h.below (below_drew (Below.refl _ _))
theorem LSt.looks {kk : Nat → ByteArray} {nn : Nat → Int} {pg batch : Nat} {W1 : World} {st : Pg} {a : Option Addr} {c : Nat} {wr : World} (h : LSt kk nn pg batch W1 st a c wr) (hpg : pg < W1.heap.size) (l2 r2 : Nat) (k2 : ByteArray) :
    LSt kk nn pg batch W1 ⟨l2, r2, k2, st.docs⟩ a c ((((wr.setCell ⟨pg, 3, none⟩ (.int .i64 l2)).setCell ⟨pg, 4, none⟩ (.int .u64 r2)).setCell ⟨pg, 5, none⟩ (.string k2)).setCell ⟨pg, 8, none⟩ (.int .i64 0)).drew :=
  ⟨h.page.set l2 r2 k2, ((((h.row.far hpg _).far hpg _).far hpg _).far hpg _).drew, ((((h.fr.set ⟨pg, 3, none⟩ _ (.inl rfl)).set ⟨pg, 4, none⟩ _ (.inl rfl)).set ⟨pg, 5, none⟩ _ (.inl rfl)).set ⟨pg, 8, none⟩ _ (.inl rfl)).drew⟩
theorem LSt.app {kk : Nat → ByteArray} {nn : Nat → Int} {pg batch : Nat} {W1 : World} {st : Pg} {a : Option Addr} {c : Nat} {wr : World} (h : LSt kk nn pg batch W1 st a c wr) (hpg : pg < W1.heap.size) {i g o c2 : Nat} {w' : World} (hA : Appd wr W1.heap.size 7 a st.docs.length 1 c (flatD kk nn st.docs ++ itCs (kk i) (nn i)) g o c2 w') :
    LSt kk nn pg batch W1 ⟨st.looked, st.rank, st.key, st.docs ++ [i]⟩ (some ⟨g, o, none⟩) c2 (w'.setCell ⟨pg, 7, none⟩ (.slice (some ⟨g, o, none⟩) (st.docs.length + 1) c2)) := by
  have hbl : ∀ b, blkOf a b ∧ st.docs.length + 1 ≤ c → W1.heap.size ≤ b := fun b hb => by
    rcases h.row.pt with h0 | ⟨b', o', rfl, h1, -⟩
    · omega
    · obtain ⟨⟨o2, s2, e⟩, -⟩ := hb
      cases e
      exact h1
  have hp : PgAt w' pg batch st.looked st.rank st.key (.slice a st.docs.length c) := (hA.fr.block pg (Array.getElem?_eq_some_iff.1 h.page).1 (fun e => by have := hbl pg e; omega)).trans h.page
  refine ⟨?_, ?_, ?_⟩
  · simp only [List.length_append, List.length_cons, List.length_nil]
    exact hp.setDocs _
  · simp only [List.length_append, List.length_cons, List.length_nil]
    rw [flatD_snoc]
    exact hA.row.far hpg _
  · exact (h.fr.next hA.fr (fun b hb => .inr (hbl b hb))).set ⟨pg, 7, none⟩ _ (.inl rfl)
theorem LSt.mid {kk : Nat → ByteArray} {nn : Nat → Int} {pg batch : Nat} {W1 : World} {st : Pg} {a : Option Addr} {c : Nat} {x3 wr : World} (h : LSt kk nn pg batch W1 st a c x3) (hpg : pg < W1.heap.size) {g o c2 : Nat} {ys : List Value} {w' : World} (hA : Appd wr W1.heap.size 7 a st.docs.length 1 c ys g o c2 w') {b : Nat} (hb : b = pg ∨ x3.heap.size ≤ b) (hl : b < wr.heap.size) : w'.heap[b]? = wr.heap[b]? := by
  refine hA.fr.block b hl (fun e => ?_)
  rcases h.row.pt with h0 | ⟨b', o', rfl, h1, h2, -⟩
  · omega
  · obtain ⟨⟨o2, s2, e⟩, -⟩ := e
    cases e
    omega
theorem doc_info : ∃ ri, Try.prog.info? 53 = some ri ∧ ri.zero = some (.agg #[.string ⟨#[]⟩, .int .i64 0, .int .i64 0, .int .i64 0, .string ⟨#[]⟩, .slice none 0 0, .slice none 0 0]) ∧ ri.size = 7 ∧ ri.bytes = 104 := by
  have : (Try.prog.info? 53).map (fun i => (i.zero, i.size, i.bytes)) = some (some (.agg #[.string ⟨#[]⟩, .int .i64 0, .int .i64 0, .int .i64 0, .string ⟨#[]⟩, .slice none 0 0, .slice none 0 0]), 7, 104) := by kernel_rfl
  cases hq : Try.prog.info? 53 with
  | none => rw [hq] at this; cases this
  | some ri => rw [hq] at this; simp at this; exact ⟨ri, rfl, this.1, this.2.1, this.2.2⟩
theorem cells7 {w : World} {b : Nat} {x0 x1 x2 x3 x4 x5 x6 : Value} {t : TypeId} (h : w.heap[b]? = some (.cells #[x0, x1, x2, x3, x4, x5, x6] t (0, 0))) : w.cell? ⟨b, 0, none⟩ = some x0 ∧ w.cell? ⟨b, 1, none⟩ = some x1 ∧ w.cell? ⟨b, 2, none⟩ = some x2 ∧ w.cell? ⟨b, 3, none⟩ = some x3 ∧ w.cell? ⟨b, 4, none⟩ = some x4 ∧ w.cell? ⟨b, 5, none⟩ = some x5 ∧ w.cell? ⟨b, 6, none⟩ = some x6 := by
  simp [World.cell?, h]
end Go.Proofs.Yteojoaceecncnaa
