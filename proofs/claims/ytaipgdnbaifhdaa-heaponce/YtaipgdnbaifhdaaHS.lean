import Derived.Test.YtaipgdnbaifhdaaHR
/-! HeapOnce: the three lists in memory. -/
namespace Go.Proofs.Ytaipgdnbaifhdaa
open Go Go.RowKit
/-- What was told: Refs, values, what is gone. -/
structure Tbl (lo : Nat) (w : World) (tv : List Tk) (sa sv sg : Value) : Prop where
  told : w.ownsRow lo 35 2 sa tv.length (flatT (tv.map (·.u)))
  vals : w.ownsRow lo 2 1 sv tv.length (tv.map fun t => .int .i64 t.v)
  gone : w.ownsRow lo 4 1 sg tv.length (tv.map fun t => .bool t.g)
theorem Tbl.zero (lo : Nat) (w : World) : Tbl lo w [] (.slice none 0 0) (.slice none 0 0) (.slice none 0 0) :=
  ⟨⟨by simp [flatT], .inl ⟨rfl, rfl⟩⟩, ⟨by simp, .inl ⟨rfl, rfl⟩⟩, ⟨by simp, .inl ⟨rfl, rfl⟩⟩⟩
theorem Tbl.cold {lo : Nat} {w w' : World} {tv : List Tk} {sa sv sg : Value} (h : Tbl lo w tv sa sv sg) (hT : FT lo w w') : Tbl lo w' tv sa sv sg :=
  ⟨ownsRow_keep h.told (fun _ _ e => (hT.cold _ _ e rfl).trans e.symm), ownsRow_keep h.vals (fun _ _ e => (hT.cold _ _ e rfl).trans e.symm), ownsRow_keep h.gone (fun _ _ e => (hT.cold _ _ e rfl).trans e.symm)⟩
/-- The cells of one that was told. -/
theorem Tbl.at {lo : Nat} {w : World} {tv : List Tk} {aa av ag : Option Addr} {ca cv cg : Nat} (h : Tbl lo w tv (.slice aa tv.length ca) (.slice av tv.length cv) (.slice ag tv.length cg)) {k : Nat} {t : Tk} (hk : tv[k]? = some t) : ∃ ga gv gg, aa = some ⟨ga, 0, none⟩ ∧ av = some ⟨gv, 0, none⟩ ∧ ag = some ⟨gg, 0, none⟩ ∧ w.cell? ⟨ga, k * 2, none⟩ = some (.int .i64 t.u.1) ∧ w.cell? ⟨ga, k * 2 + 1, none⟩ = some (.int .i64 t.u.2) ∧ w.cell? ⟨gv, k, none⟩ = some (.int .i64 t.v) ∧ w.cell? ⟨gg, k, none⟩ = some (.bool t.g) := by
  have hlt := (List.getElem?_eq_some_iff.1 hk).1
  obtain ⟨a1, c1, e1, -, -, g1⟩ := ownsRow_form h.told
  obtain ⟨a2, c2, e2, -, -, g2⟩ := ownsRow_form h.vals
  obtain ⟨a3, c3, e3, -, -, g3⟩ := ownsRow_form h.gone
  cases e1
  cases e2
  cases e3
  obtain ⟨ga, rfl⟩ := g1 (by omega)
  obtain ⟨gv, rfl⟩ := g2 (by omega)
  obtain ⟨gg, rfl⟩ := g3 (by omega)
  obtain ⟨f1, f2⟩ := flatT_at (tv.map (·.u)) k t.u (by rw [List.getElem?_map, hk]; rfl)
  exact ⟨ga, gv, gg, rfl, rfl, rfl, ownsRow_cell h.told f1, ownsRow_cell h.told f2, ownsRow_cell h.vals (by rw [List.getElem?_map, hk]; rfl), ownsRow_cell h.gone (by rw [List.getElem?_map, hk]; rfl)⟩
/-- A heap of other blocks than those that change. -/
theorem other_types {w w0 w2 : World} {ob : Option Nat} {t0 : TypeId} (hB : Below w.heap.size w w0) (r2 : w0.grownBy w2 ob) (hown : ∀ b, ob = some b → ∃ cs, w.heap[b]? = some (.cells cs t0 (0, 0))) : ∀ (b : Nat) vs t, w.heap[b]? = some (.cells vs t (0, 0)) → t ≠ t0 → w2.heap[b]? = some (.cells vs t (0, 0)) := fun b vs t e ht => by
  have hlt := (Array.getElem?_eq_some_iff.1 e).1
  refine (r2.block b (Nat.lt_of_lt_of_le hlt hB.size) (fun e' => ?_)).trans ((hB.block b hlt).trans e)
  obtain ⟨cs', h2⟩ := hown b e'.symm
  rw [e] at h2
  cases h2
  exact ht rfl
/-- Another's row, where blocks of one type alone may have changed. -/
theorem keep_row {w w2 : World} {t0 : TypeId} (hk : ∀ (b : Nat) vs t, w.heap[b]? = some (.cells vs t (0, 0)) → t ≠ t0 → w2.heap[b]? = some (.cells vs t (0, 0))) {lo size n : Nat} {e : TypeId} {v : Value} {xs : List Value} (he : e ≠ t0) (h : w.ownsRow lo e size v n xs) : w2.ownsRow lo e size v n xs := ownsRow_keep h (fun _ _ hh => (hk _ _ _ hh he).trans hh.symm)
end Go.Proofs.Ytaipgdnbaifhdaa
