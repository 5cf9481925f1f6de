import Derived.Test.YtaipgdnbaifhdaaHM
/-! heap: what the laws keep beside a heap: operations, Refs that were told. -/
namespace Go.Proofs.Ytaipgdnbaifhdaa
open Go Go.RowKit
/-- The types of blocks that a heap has. -/
def ownT (t : TypeId) : Bool := t == 72 || t == 76 || t == 95 || t == 3 || t == 61 || t == 74 || t == 70 || t == 125
/-- Blocks of other types may change. -/
theorem HeapS.keepW {lo : Nat} {w w' : World} {hb : Nat} {obj most : Int} {ns : List Nd} {st : List Int} (h : HeapS lo w hb obj most ns st) (hk : ∀ (b : Nat) vs t, w.heap[b]? = some (.cells vs t (0, 0)) → ownT t = true → w'.heap[b]? = w.heap[b]?) : HeapS lo w' hb obj most ns st := by
  obtain ⟨c, cs, p, h1, h, h3⟩ := h
  have k : ∀ {b : Nat} {vs : Array Value} {t : TypeId}, w.heap[b]? = some (.cells vs t (0, 0)) → ownT t = true → w'.heap[b]? = some (.cells vs t (0, 0)) := fun {b vs t} e ht => (hk b vs t e ht).trans e
  exact ⟨c, cs, p, h1, ⟨k h.hbk rfl, k h.wbk rfl, k h.pbk rfl, h.pool.keep (fun b cs hb => hb.elim (fun e => (k e rfl).trans e.symm) (fun e => (k e rfl).trans e.symm)), k h.mbk rfl, ownsRow_keep h.row (fun g cs e => (k e rfl).trans e.symm), fun i x hx => k (h.nd i x hx) rfl, h.inj, h.lh, h.lp, h.ln⟩, h3⟩
/-- An operation. -/
structure Hop where
  k : Int
  v : Int
  wh : Int
  num : Int
  gen : Int
def hopCs (o : Hop) : Array Value := #[.int .i64 o.k, .int .i64 o.v, .int .i64 o.wh, .int .i64 o.num, .int .i64 o.gen]
/-- Operations in memory. -/
def OpsAt (w : World) (a : Option Addr) (l : List Hop) : Prop := ∀ (j : Nat) e, l[j]? = some e → ∃ b o, a = some ⟨b, o, none⟩ ∧ w.cell? ⟨b, o + j * 5, none⟩ = some (.int .i64 e.k) ∧ w.cell? ⟨b, o + j * 5 + 1, none⟩ = some (.int .i64 e.v) ∧ w.cell? ⟨b, o + j * 5 + 2, none⟩ = some (.int .i64 e.wh) ∧ w.cell? ⟨b, o + j * 5 + 3, none⟩ = some (.int .i64 e.num) ∧ w.cell? ⟨b, o + j * 5 + 4, none⟩ = some (.int .i64 e.gen)
theorem OpsAt.keep {w w' : World} {a : Option Addr} {l : List Hop} (h : OpsAt w a l) (hb : Below w.heap.size w w') : OpsAt w' a l := fun j e he => by
  obtain ⟨b, o, h1, h2, h3, h4, h5, h6⟩ := h j e he
  exact ⟨b, o, h1, stay hb h2, stay hb h3, stay hb h4, stay hb h5, stay hb h6⟩
/-- Refs in a row. -/
def flatT (l : List (Int × Int)) : List Value := l.flatMap fun u => [.int .i64 u.1, .int .i64 u.2]
theorem flatT_at : (l : List (Int × Int)) → (i : Nat) → (u : Int × Int) → l[i]? = some u → (flatT l)[i * 2]? = some (.int .i64 u.1) ∧ (flatT l)[i * 2 + 1]? = some (.int .i64 u.2)
  | [], _, _, h => by simp at h
  | a :: l, 0, u, h => by simp at h; subst h; simp [flatT]
  | a :: l, i + 1, u, h => by
    have := flatT_at l i u (by simpa using h)
    simp only [flatT, List.flatMap_cons] at this ⊢
    rw [show (i + 1) * 2 = i * 2 + 2 by omega, show i * 2 + 2 + 1 = (i * 2 + 1) + 2 by omega]
    rw [List.getElem?_append_right (by simp), List.getElem?_append_right (by simp)]
    simpa using this
theorem flatT_snoc (l : List (Int × Int)) (u : Int × Int) : flatT (l ++ [u]) = flatT l ++ [.int .i64 u.1, .int .i64 u.2] := by simp [flatT]
theorem flatT_one (l : List (Int × Int)) : ∀ u ∈ flatT l, u.oneCell' = true := fun u hu => by
  unfold flatT at hu
  rw [List.mem_flatMap] at hu
  obtain ⟨e, _, hu⟩ := hu
  simp at hu
  rcases hu with rfl | rfl <;> rfl
/-- The Ref of an operation. -/
def named (told : List (Int × Int)) (o : Hop) : Int × Int := if 0 ≤ o.wh then (told[o.wh.toNat]?).getD (o.num, o.gen) else (o.num, o.gen)
theorem hop_cells {w : World} {b : Nat} {o : Hop} (h : w.heap[b]? = some (.cells (hopCs o) 37 (0, 0))) : w.cell? ⟨b, 0, none⟩ = some (.int .i64 o.k) ∧ w.cell? ⟨b, 1, none⟩ = some (.int .i64 o.v) ∧ w.cell? ⟨b, 2, none⟩ = some (.int .i64 o.wh) ∧ w.cell? ⟨b, 3, none⟩ = some (.int .i64 o.num) ∧ w.cell? ⟨b, 4, none⟩ = some (.int .i64 o.gen) := ⟨cell_of h rfl, cell_of h rfl, cell_of h rfl, cell_of h rfl, cell_of h rfl⟩
set_option maxRecDepth 100000 in
set_option maxHeartbeats 2000000 in
theorem named_any (lo : Nat) (ta : Option Addr) (tc : Nat) (told : List (Int × Int)) (o : Hop) (w : World) (hT : w.ownsRow lo 35 2 (.slice ta told.length tc) told.length (flatT told)) :
    Calls Try.prog 10 #[.slice ta told.length tc, .agg #[.int .i64 o.k, .int .i64 o.v, .int .i64 o.wh, .int .i64 o.num, .int .i64 o.gen]] w fun e w' => e = .returned (.agg #[.int .i64 (named told o).1, .int .i64 (named told o).2]) ∧ Below w.heap.size w w' := by
  obtain ⟨ok, ov, oh, on, og⟩ := o
  simp only
  obtain ⟨a', cap', hf, hc, hm, hg⟩ := ownsRow_form hT
  obtain ⟨W1, hW1⟩ : ∃ W1, Hid (w.alloc (.cells #[.int .i64 ok, .int .i64 ov, .int .i64 oh, .int .i64 on, .int .i64 og] 37) = W1) := ⟨_, rfl⟩
  have hB1 : Below w.heap.size w W1 := by rw [← hW1.out]; exact (Below.refl _ w).alloc (Nat.le_refl _) _
  have z1 := heap_alloc_new w (.cells #[.int .i64 ok, .int .i64 ov, .int .i64 oh, .int .i64 on, .int .i64 og] 37)
  rw [hW1.out] at z1
  obtain ⟨y0, y1, y2, y3, y4⟩ := hop_cells (o := ⟨ok, ov, oh, on, og⟩) z1
  simp only at y0 y1 y2 y3 y4
  have hB2 : Below W1.heap.size W1 (W1.alloc (.cells #[.int .i64 0, .int .i64 0] 35)) := (Below.refl _ W1).alloc (Nat.le_refl _) _
  replace y2 := stay hB2 y2
  replace y3 := stay hB2 y3
  replace y4 := stay hB2 y4
  have hfin : Hid (∀ x y, Below w.heap.size w (W1.alloc (.cells #[.int .i64 x, .int .i64 y] 35))) := fun x y => hB1.alloc hB1.size _
  obtain ⟨n, hn⟩ : ∃ n, Hid (told.length = n) := ⟨_, rfl⟩
  cases hf
  rw [hn.out] at hc ⊢
  have hnm : ∀ (x y : Int), named told ⟨ok, ov, oh, on, og⟩ = (x, y) → (named told ⟨ok, ov, oh, on, og⟩).1 = x ∧ (named told ⟨ok, ov, oh, on, og⟩).2 = y := fun x y h => by rw [h]; exact ⟨rfl, rfl⟩
  by_cases h1 : oh < 0
  · obtain ⟨e1, e2⟩ := hnm on og (by unfold named; rw [if_neg (by simp only; omega)])
    rw [e1, e2]
    clear e1 e2 hnm hT hg z1 hB1 hB2 y0 y1
    go_enter Try.func10, Try.ntmps10
    go_wp2_with (rw [hW1.out])
    exact bodyPost_ret (v := .agg #[.int .i64 on, .int .i64 og]) (by simp [results, Try.results10, go_sem]) rfl ⟨rfl, hfin.out on og⟩
  by_cases h2 : (n : Int) ≤ oh
  · obtain ⟨e1, e2⟩ := hnm on og (by unfold named; rw [if_pos (by simp only; omega), List.getElem?_eq_none (by simp only; have := hn.out; omega)]; rfl)
    rw [e1, e2]
    clear e1 e2 hnm hT hg z1 hB1 hB2 y0 y1
    go_enter Try.func10, Try.ntmps10
    go_wp2_with (rw [hW1.out])
    exact bodyPost_ret (v := .agg #[.int .i64 on, .int .i64 og]) (by simp [results, Try.results10, go_sem]) rfl ⟨rfl, hfin.out on og⟩
  obtain ⟨j, rfl⟩ := Int.eq_ofNat_of_zero_le (a := oh) (by omega)
  have hj : j < n := by omega
  obtain ⟨u, hu⟩ : ∃ u, told[j]? = some u := ⟨told[j]'(by have := hn.out; omega), List.getElem?_eq_getElem (by have := hn.out; omega)⟩
  obtain ⟨e1, e2⟩ := hnm u.1 u.2 (by unfold named; rw [if_pos (by simp only; omega)]; simp only [Int.toNat_natCast, hu]; rfl)
  obtain ⟨g, rfl⟩ := hg (by have := hn.out; omega)
  obtain ⟨f1, f2⟩ := flatT_at told j u hu
  have c1 := stay hB2 (stay hB1 (ownsRow_cell hT f1))
  have c2 := stay hB2 (stay hB1 (ownsRow_cell hT f2))
  rw [e1, e2]
  unfold maxLen at hm
  clear e1 e2 hnm hT hg z1 hB1 hB2 y0 y1 hu f1 f2
  go_enter Try.func10, Try.ntmps10
  go_wp2_with (rw [hW1.out])
  exact bodyPost_ret (v := .agg #[.int .i64 u.1, .int .i64 u.2]) (by simp [results, Try.results10, go_sem]) rfl ⟨rfl, hfin.out u.1 u.2⟩
/-- What holds of a heap behind i operations. -/
structure HInv (i : Nat) (ns : List Nd) (st : List Int) : Prop where
  num : ∀ x ∈ st, ∃ (k : Nat) (y : Nd), x = (k : Int) + 1 ∧ ns[k]? = some y
  ln : ns.length ≤ i
  ls : st.length ≤ i
  gen : ∀ y ∈ ns, 1 ≤ y.gen ∧ y.gen ≤ (i : Int) + 1
theorem HInv.mono {i : Nat} {ns : List Nd} {st : List Int} (h : HInv i ns st) : HInv (i + 1) ns st := ⟨h.num, Nat.le_succ_of_le h.ln, Nat.le_succ_of_le h.ls, fun y hy => by have := h.gen y hy; omega⟩
theorem HInv.zero : HInv 0 [] [] := ⟨(fun x hx => by cases hx), Nat.le_refl _, Nat.le_refl _, (fun y hy => by cases hy)⟩
theorem num_set {ns : List Nd} {st : List Int} {k : Nat} {z : Nd} (h : ∀ x ∈ st, ∃ (k : Nat) (y : Nd), x = (k : Int) + 1 ∧ ns[k]? = some y) : ∀ x ∈ st, ∃ (j : Nat) (y : Nd), x = (j : Int) + 1 ∧ (ns.set k z)[j]? = some y := fun x hx => by
  obtain ⟨j, y, h1, h2⟩ := h x hx
  have hj : j < (ns.set k z).length := by rw [List.length_set]; exact (List.getElem?_eq_some_iff.1 h2).1
  exact ⟨j, _, h1, List.getElem?_eq_getElem hj⟩
theorem HInv.again {i k : Nat} {ns : List Nd} {st : List Int} {x : Nd} (h : HInv i ns (((k : Int) + 1) :: st)) (hx : ns[k]? = some x) (v : Int) : HInv (i + 1) (ns.set k ⟨x.gen, true, v⟩) st := by
  refine ⟨num_set (fun y hy => h.num y (by simp [hy])), by rw [List.length_set]; have := h.ln; omega, by have := h.ls; simp at this; omega, fun y hy => ?_⟩
  rcases List.mem_or_eq_of_mem_set hy with hy | rfl
  · have := h.gen y hy; omega
  · have := h.gen x (List.mem_of_getElem? hx); simp only; omega
theorem HInv.make {i : Nat} {ns : List Nd} {st : List Int} (h : HInv i ns st) (v : Int) : HInv (i + 1) (ns ++ [⟨1, true, v⟩]) st := by
  refine ⟨fun x hx => ?_, by rw [List.length_append]; have := h.ln; simp; omega, Nat.le_succ_of_le h.ls, fun y hy => ?_⟩
  · obtain ⟨j, y, h1, h2⟩ := h.num x hx
    exact ⟨j, y, h1, by rw [List.getElem?_append_left (List.getElem?_eq_some_iff.1 h2).1]; exact h2⟩
  · rcases List.mem_append.1 hy with hy | hy
    · have := h.gen y hy; omega
    · simp at hy
      subst hy
      simp only
      omega
theorem HInv.free {i k : Nat} {ns : List Nd} {st : List Int} {gen v : Int} (h : HInv i ns st) (hx : ns[k]? = some ⟨gen, true, v⟩) : HInv (i + 1) (ns.set k ⟨gen + 1, false, 0⟩) (((k : Int) + 1) :: st) := by
  refine ⟨fun x hxx => ?_, by rw [List.length_set]; have := h.ln; omega, by have := h.ls; simp; omega, fun y hy => ?_⟩
  · rcases List.mem_cons.1 hxx with rfl | hxx
    · have hk : k < (ns.set k (⟨gen + 1, false, 0⟩ : Nd)).length := by rw [List.length_set]; exact (List.getElem?_eq_some_iff.1 hx).1
      exact ⟨k, _, rfl, List.getElem?_eq_getElem hk⟩
    · exact num_set h.num x hxx
  · rcases List.mem_or_eq_of_mem_set hy with hy | rfl
    · have := h.gen y hy; omega
    · have := h.gen _ (List.mem_of_getElem? hx); simp only at this ⊢; omega
section
variable {lo : Nat} {w : World} {hb : Nat} {obj most : Int} {ns : List Nd} {st : List Int}
theorem made_s (h : HeapS lo w hb obj most ns st) (m : Int) (hm : (ns.length : Int) = m) : Calls Try.prog 14 #[.pointer (some ⟨hb, 0, none⟩)] w fun e w' => e = .returned (.int .i64 m) ∧ w' = w := by
  obtain ⟨c, cs, p, h1, h2, h3⟩ := h
  subst hm
  exact made_any h2
theorem pooled_s (h : HeapS lo w hb obj most ns st) (m : Int) (hm : (st.length : Int) = m) : Calls Try.prog 15 #[.pointer (some ⟨hb, 0, none⟩)] w fun e w' => e = .returned (.int .i64 m) ∧ Below w.heap.size w w' := by
  obtain ⟨c, cs, p, h1, h2, h3⟩ := h
  have := pooled_any h2
  rw [h2.pool.count, h3, hm] at this
  exact this
theorem alive_s (h : HeapS lo w hb obj most ns st) (hl : ns.length ≤ 1048576) (hs : st.length ≤ 1048576) (m : Int) (hm : (ns.length : Int) - (st.length : Int) = m) : Calls Try.prog 16 #[.pointer (some ⟨hb, 0, none⟩)] w fun e w' => e = .returned (.int .i64 m) ∧ Below w.heap.size w w' := by
  obtain ⟨c, cs, p, h1, h2, h3⟩ := h
  have hc : p.cnt = (st.length : Nat) := by rw [h2.pool.count, h3]
  have := alive_any h2 hl (by rw [hc]; omega)
  rw [hc, hm] at this
  exact this
end
/-- A Play: its heap, its Log, the Refs that were told. -/
def playCs (hb lb : Nat) (ta : Option Addr) (m tc : Nat) : Array Value := #[.slice none 0 0, .slice none 0 0, .slice none 0 0, .slice none 0 0, .bool false, .int .i64 0, .pointer (some ⟨hb, 0, none⟩), .slice (some ⟨lb, 0, none⟩) 1 1, .slice ta m tc]
structure ToldAt (lo : Nat) (w : World) (pl hb lb : Nat) (told : List (Int × Int)) (ta : Option Addr) (tc : Nat) : Prop where
  blk : w.heap[pl]? = some (.cells (playCs hb lb ta told.length tc) 56 (0, 0))
  lp : lo ≤ pl
  row : w.ownsRow lo 35 2 (.slice ta told.length tc) told.length (flatT told)
theorem ToldAt.cold {lo : Nat} {w w' : World} {pl hb lb : Nat} {told : List (Int × Int)} {ta : Option Addr} {tc : Nat} (h : ToldAt lo w pl hb lb told ta tc) (hT : FT lo w w') : ToldAt lo w' pl hb lb told ta tc :=
  ⟨hT.cold _ _ h.blk rfl, h.lp, ownsRow_keep h.row (fun _ _ e => (hT.cold _ _ e rfl).trans e.symm)⟩
theorem ToldAt.cell {lo : Nat} {w : World} {pl hb lb : Nat} {told : List (Int × Int)} {ta : Option Addr} {tc : Nat} (h : ToldAt lo w pl hb lb told ta tc) : w.cell? ⟨pl, 8, none⟩ = some (.slice ta told.length tc) := cell_of h.blk rfl
theorem ref_info : ∃ ri, Try.prog.info? 35 = some ri ∧ ri.zero = some (.agg #[.int .i64 0, .int .i64 0]) ∧ ri.size = 2 ∧ ri.bytes = 16 := by
  have : (Try.prog.info? 35).map (fun i => (i.zero, i.size, i.bytes)) = some (some (.agg #[.int .i64 0, .int .i64 0]), 2, 16) := by kernel_rfl
  cases hq : Try.prog.info? 35 with
  | none => rw [hq] at this; cases this
  | some ri => rw [hq] at this; simp at this; exact ⟨ri, rfl, this.1, this.2.1, this.2.2⟩
theorem refs_u : Try.prog.underlying 31 = some (.slice 35) := by kernel_rfl
/-- One Ref more is told. -/
theorem ToldAt.more {lo : Nat} {w w0 w2 : World} {pl hb lb : Nat} {told : List (Int × Int)} {ta : Option Addr} {tc : Nat} (h : ToldAt lo w pl hb lb told ta tc) (hlo : lo ≤ w.heap.size) (hB : Below w.heap.size w w0) {g c : Nat} {u : Int × Int} {obj most : Int} {ns : List Nd} {st : List Int} (hS : HeapS lo w hb obj most ns st)
    (r1 : w2.ownsRow lo 35 2 (.slice (some ⟨g, 0, none⟩) (told.length + 1) c) (told.length + 1) (flatT told ++ [.int .i64 u.1, .int .i64 u.2])) (r2 : w0.grownBy w2 (Value.slice ta told.length tc).ownBlock) :
    (∃ v, w2.cell? ⟨pl, 8, none⟩ = some v) ∧ w2.frozen? ⟨pl, 8, none⟩ = false ∧ ToldAt lo (w2.setCell ⟨pl, 8, none⟩ (.slice (some ⟨g, 0, none⟩) (told.length + 1) c)) pl hb lb (told ++ [u]) (some ⟨g, 0, none⟩) c ∧ HeapS lo (w2.setCell ⟨pl, 8, none⟩ (.slice (some ⟨g, 0, none⟩) (told.length + 1) c)) hb obj most ns st ∧ Below lo w (w2.setCell ⟨pl, 8, none⟩ (.slice (some ⟨g, 0, none⟩) (told.length + 1) c)) := by
  have hown : ∀ b, (Value.slice ta told.length tc).ownBlock = some b → lo ≤ b ∧ ∃ cs, w.heap[b]? = some (.cells cs 35 (0, 0)) := fun b e => by
    obtain ⟨h1, h2⟩ := h.row
    rcases h2 with ⟨hv, _⟩ | ⟨g', cap', cur, hv, hg', hh, _⟩
    · rw [hv] at e; cases e
    · rw [hv] at e
      cases e
      exact ⟨hg', cur, hh⟩
  have hk : ∀ (b : Nat) vs t, w.heap[b]? = some (.cells vs t (0, 0)) → t ≠ 35 → w2.heap[b]? = some (.cells vs t (0, 0)) := fun b vs t e ht => by
    have hlt := (Array.getElem?_eq_some_iff.1 e).1
    refine (r2.block b (Nat.lt_of_lt_of_le hlt hB.size) (fun e' => ?_)).trans ((hB.block b hlt).trans e)
    obtain ⟨-, cs', h2⟩ := hown b e'.symm
    rw [e] at h2
    cases h2
    exact ht rfl
  have hpl := hk pl _ _ h.blk (by decide)
  have hl : (told ++ [u]).length = told.length + 1 := by simp
  have hset := heap_setCell_same w2 pl 8 _ _ (.slice (some ⟨g, 0, none⟩) (told.length + 1) c) hpl
  refine ⟨⟨_, cell_of (k := 8) hpl rfl⟩, warm hpl, ⟨?_, h.lp, ?_⟩, hS.keepW (fun b vs t e ht => ?_), ?_⟩
  · rw [hset, hl]
    rfl
  · rw [hl, flatT_snoc]
    refine ownsRow_keep r1 (fun b cs e => Below.heap_setCell _ _ _ _ (fun eb => ?_))
    have eb' : b = pl := eb
    subst eb'
    rw [hpl] at e
    cases e
  · have hne : t ≠ 35 := fun e' => by subst e'; cases ht
    have hb : b ≠ pl := fun e' => by
      subst e'
      rw [h.blk] at e
      cases e
      cases ht
    exact (Below.heap_setCell _ _ _ _ hb).trans ((hk b vs t e hne).trans e.symm)
  · exact (((hB.mono hlo).grown r2 (Nat.le_trans hlo hB.size) (fun b e => (hown b e).1))).setCell (p := ⟨pl, 8, none⟩) h.lp _
end Go.Proofs.Ytaipgdnbaifhdaa
