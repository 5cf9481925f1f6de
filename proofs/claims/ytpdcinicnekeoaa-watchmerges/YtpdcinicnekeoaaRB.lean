import Derived.Test.YtpdcinicnekeoaaRA
/-! watch: the document's With. -/
namespace Go.Proofs.Ytpdcinicnekeoaa
open Go Go.RowKit Go.Watch
theorem Rw.keepLo {w w' : World} {lo size : Nat} {a : Option Addr} {n cap : Nat} {xs : List Value} (h : Rw w lo size a n cap xs) (hs : w.heap.size ≤ w'.heap.size) (hk : ∀ b, lo ≤ b → b < w.heap.size → w'.heap[b]? = w.heap[b]?) : Rw w' lo size a n cap xs := by
  rcases h.pt with h0 | ⟨b, o, e, h1, h2, h3⟩
  · exact ⟨h.len, h.le, h.mx, .inl h0⟩
  · exact h.keep hs (fun b' hb' hl => hk b' (by obtain ⟨o2, s2, e2⟩ := hb'; rw [e] at e2; cases e2; exact h1) hl)
/-- The document's log in a box. -/
structure RBox (w : World) (B : Nat) (k : Int) (a : Option Addr) (n cap : Nat) (hor last : Int) : Prop where
  c0 : w.cell? ⟨B, 0, none⟩ = some (.int .i64 k)
  c1 : w.cell? ⟨B, 1, none⟩ = some (.slice a n cap)
  c2 : w.cell? ⟨B, 2, none⟩ = some (.int .i64 hor)
  c3 : w.cell? ⟨B, 3, none⟩ = some (.int .i64 last)
  fz : ∀ i, w.frozen? ⟨B, i, none⟩ = false
theorem RBox.keep {w w' : World} {B : Nat} {k : Int} {a : Option Addr} {n cap : Nat} {hor last : Int} (h : RBox w B k a n cap hor last) (hk : w'.heap[B]? = w.heap[B]?) : RBox w' B k a n cap hor last := by
  have c : ∀ i : Nat, w'.cell? ⟨B, i, none⟩ = w.cell? ⟨B, i, none⟩ := fun i => World.cell?_of_block (w := w) (a := ⟨B, i, none⟩) hk
  exact ⟨(c _).trans h.c0, (c _).trans h.c1, (c _).trans h.c2, (c _).trans h.c3, fun i => (World.frozen?_of_block (w := w) (a := ⟨B, i, none⟩) hk).trans (h.fz i)⟩
theorem RBox.mk' {w : World} {B : Nat} {k : Int} {a : Option Addr} {n cap : Nat} {hor last : Int} {t : TypeId} (h : w.heap[B]? = some (.cells #[.int .i64 k, .slice a n cap, .int .i64 hor, .int .i64 last] t (0, 0))) : RBox w B k a n cap hor last :=
  ⟨by rw [cell_of_row w B _ _ t (0, 0) h]; rfl, by rw [cell_of_row w B _ _ t (0, 0) h]; rfl, by rw [cell_of_row w B _ _ t (0, 0) h]; rfl, by rw [cell_of_row w B _ _ t (0, 0) h]; rfl, fun i => by simp [World.frozen?, h]⟩
theorem RBox.set1 {w : World} {B : Nat} {k : Int} {a : Option Addr} {n cap : Nat} {hor last : Int} (h : RBox w B k a n cap hor last) (a' : Option Addr) (n' cap' : Nat) : RBox (w.setCell ⟨B, 1, none⟩ (.slice a' n' cap')) B k a' n' cap' hor last :=
  ⟨by rw [World.cell?_setCell_other _ _ _ _ (by simp)]; exact h.c0, World.cell?_setCell_same _ _ _ h.c1, by rw [World.cell?_setCell_other _ _ _ _ (by simp)]; exact h.c2, by rw [World.cell?_setCell_other _ _ _ _ (by simp)]; exact h.c3, fun i => by rw [World.frozen?_setCell]; exact h.fz i⟩
theorem RBox.set2 {w : World} {B : Nat} {k : Int} {a : Option Addr} {n cap : Nat} {hor last : Int} (h : RBox w B k a n cap hor last) (x : Int) : RBox (w.setCell ⟨B, 2, none⟩ (.int .i64 x)) B k a n cap x last :=
  ⟨by rw [World.cell?_setCell_other _ _ _ _ (by simp)]; exact h.c0, by rw [World.cell?_setCell_other _ _ _ _ (by simp)]; exact h.c1, World.cell?_setCell_same _ _ _ h.c2, by rw [World.cell?_setCell_other _ _ _ _ (by simp)]; exact h.c3, fun i => by rw [World.frozen?_setCell]; exact h.fz i⟩
theorem RBox.set3 {w : World} {B : Nat} {k : Int} {a : Option Addr} {n cap : Nat} {hor last : Int} (h : RBox w B k a n cap hor last) (x : Int) : RBox (w.setCell ⟨B, 3, none⟩ (.int .i64 x)) B k a n cap hor x :=
  ⟨by rw [World.cell?_setCell_other _ _ _ _ (by simp)]; exact h.c0, by rw [World.cell?_setCell_other _ _ _ _ (by simp)]; exact h.c1, by rw [World.cell?_setCell_other _ _ _ _ (by simp)]; exact h.c2, World.cell?_setCell_same _ _ _ h.c3, fun i => by rw [World.frozen?_setCell]; exact h.fz i⟩
def set4 (w : World) (B : Nat) (k : Int) (a : Option Addr) (n cap : Nat) (hor last : Int) : World := (((w.setCell ⟨B, 0, none⟩ (.int .i64 k)).setCell ⟨B, 1, none⟩ (.slice a n cap)).setCell ⟨B, 2, none⟩ (.int .i64 hor)).setCell ⟨B, 3, none⟩ (.int .i64 last)
theorem RBox.set4 {w : World} {B : Nat} {k0 : Int} {a0 : Option Addr} {n0 cap0 : Nat} {hor0 last0 : Int} (h : RBox w B k0 a0 n0 cap0 hor0 last0) (k : Int) (a : Option Addr) (n cap : Nat) (hor last : Int) : RBox (set4 w B k a n cap hor last) B k a n cap hor last := by
  have h0 : RBox (w.setCell ⟨B, 0, none⟩ (.int .i64 k)) B k a0 n0 cap0 hor0 last0 :=
    ⟨World.cell?_setCell_same _ _ _ h.c0, by rw [World.cell?_setCell_other _ _ _ _ (by simp)]; exact h.c1, by rw [World.cell?_setCell_other _ _ _ _ (by simp)]; exact h.c2, by rw [World.cell?_setCell_other _ _ _ _ (by simp)]; exact h.c3, fun i => by rw [World.frozen?_setCell]; exact h.fz i⟩
  exact ((h0.set1 a n cap).set2 hor).set3 last
theorem set4_heap (w : World) (B : Nat) (k : Int) (a : Option Addr) (n cap : Nat) (hor last : Int) (q : Nat) (hq : q ≠ B) : (set4 w B k a n cap hor last).heap[q]? = w.heap[q]? := by
  unfold set4
  rw [Below.heap_setCell _ _ _ _ (by exact hq), Below.heap_setCell _ _ _ _ (by exact hq), Below.heap_setCell _ _ _ _ (by exact hq), Below.heap_setCell _ _ _ _ (by exact hq)]
theorem set4_below {B0 : Nat} {x w : World} (h : Below B0 x w) (B : Nat) (hB : B0 ≤ B) (k : Int) (a : Option Addr) (n cap : Nat) (hor last : Int) : Below B0 x (set4 w B k a n cap hor last) :=
  (((h.setCell (p := ⟨B, 0, none⟩) hB _).setCell (p := ⟨B, 1, none⟩) hB _).setCell (p := ⟨B, 2, none⟩) hB _).setCell (p := ⟨B, 3, none⟩) hB _
theorem set4_size (w : World) (B : Nat) (k : Int) (a : Option Addr) (n cap : Nat) (hor last : Int) : (set4 w B k a n cap hor last).heap.size = w.heap.size := by simp [set4, World.setCell]
/-- The document's With under way: the box, the result's block, the row. -/
structure RS (w0 w : World) (k : Int) (a : Option Addr) (n cap : Nat) (hor last : Int) (l : List Chg) : Prop where
  bel : Below w0.heap.size w0 w
  box : RBox w w0.heap.size k a n cap hor last
  res : RBox w (w0.heap.size + 1) 0 none 0 0 0 0
  row : Rw w (w0.heap.size + 2) 4 a n cap (flatC l)
  len : l.length = n
  sz : w0.heap.size + 2 ≤ w.heap.size
theorem RS.put {w0 wr w : World} {k : Int} {a : Option Addr} {n cap : Nat} {hor last : Int} {l' : List Chg} {a' : Option Addr} {n' cap' : Nat} (h0 : RBox wr w0.heap.size k a n cap hor last) (h1 : RBox wr (w0.heap.size + 1) 0 none 0 0 0 0) (hb : Below w0.heap.size w0 w) (hs : w0.heap.size + 2 ≤ w.heap.size) (hk0 : w.heap[w0.heap.size]? = wr.heap[w0.heap.size]?) (hk1 : w.heap[w0.heap.size + 1]? = wr.heap[w0.heap.size + 1]?) (hR : Rw w (w0.heap.size + 2) 4 a' n' cap' (flatC l')) (hl : l'.length = n') :
    (w.cell? ⟨w0.heap.size, 1, none⟩ = some (.slice a n cap) ∧ w.frozen? ⟨w0.heap.size, 1, none⟩ = false) ∧ RS w0 (w.setCell ⟨w0.heap.size, 1, none⟩ (.slice a' n' cap')) k a' n' cap' hor last l' := by
  have hb0 := h0.keep hk0
  have hk : ∀ q, q ≠ w0.heap.size → (w.setCell ⟨w0.heap.size, 1, none⟩ (.slice a' n' cap')).heap[q]? = w.heap[q]? := fun q hq => Below.heap_setCell _ _ _ _ hq
  exact ⟨⟨hb0.c1, hb0.fz 1⟩, ⟨hb.setCell (p := ⟨w0.heap.size, 1, none⟩) (Nat.le_refl _) _, hb0.set1 a' n' cap', (h1.keep hk1).keep (hk _ (by omega)), hR.keepLo (by simp [World.setCell]) (fun b hb' _ => hk b (by omega)), hl, by simpa [World.setCell] using hs⟩⟩
/-- One more at the row's end. -/
theorem RS.more {w0 wr W2 W3 : World} {k : Int} {a : Option Addr} {n cap : Nat} {hor last : Int} {l : List Chg} {c : Chg} {g o c' : Nat} (h : RS w0 wr k a n cap hor last l) (hb : Below wr.heap.size wr W2) (hA : Appd W2 (w0.heap.size + 2) 4 a n 1 cap (flatC l ++ chgCs c) g o c' W3) :
    (W3.cell? ⟨w0.heap.size, 1, none⟩ = some (.slice a n cap) ∧ W3.frozen? ⟨w0.heap.size, 1, none⟩ = false) ∧ RS w0 (W3.setCell ⟨w0.heap.size, 1, none⟩ (.slice (some ⟨g, o, none⟩) (n + 1) c')) k (some ⟨g, o, none⟩) (n + 1) c' hor last (l ++ [c]) := by
  have hb2 : Below w0.heap.size w0 W2 := h.bel.trans (hb.mono h.bel.size)
  have hsz := h.sz
  have hs2 := hb.size
  have hfar : ∀ q, n + 1 ≤ cap → blkOf a q → w0.heap.size + 2 ≤ q := fun q h1 hq => by
    rcases h.row.pt with h0 | ⟨b', o', e, h2, -⟩
    · omega
    · obtain ⟨o2, s2, e2⟩ := hq
      rw [e] at e2
      cases e2
      exact h2
  have keep : ∀ q, q < w0.heap.size + 2 → W3.heap[q]? = W2.heap[q]? := fun q hq => hA.fr.block q (by omega) (fun e => by have := hfar q e.2 e.1; omega)
  refine RS.put h.box h.res ⟨hA.fr.os.trans hb2.os, hA.fr.tape.trans hb2.tape, hA.fr.output.trans hb2.output, Nat.le_trans hb2.size hA.fr.size, fun q hq => (keep q (by omega)).trans (hb2.block q hq)⟩ (Nat.le_trans (Nat.le_trans hsz hs2) hA.fr.size) ((keep _ (by omega)).trans (hb.block _ (by omega))) ((keep _ (by omega)).trans (hb.block _ (by omega))) (by rw [flatC_snoc]; exact hA.row) (by simp [h.len])
/-- Another row. -/
theorem RS.other {w0 wr W3 : World} {k : Int} {a : Option Addr} {n cap : Nat} {hor last : Int} {l l' : List Chg} {a' : Option Addr} {n' cap' : Nat} (h : RS w0 wr k a n cap hor last l) (hb : Below wr.heap.size wr W3) (hR : Rw W3 wr.heap.size 4 a' n' cap' (flatC l')) (hl : l'.length = n') :
    (W3.cell? ⟨w0.heap.size, 1, none⟩ = some (.slice a n cap) ∧ W3.frozen? ⟨w0.heap.size, 1, none⟩ = false) ∧ RS w0 (W3.setCell ⟨w0.heap.size, 1, none⟩ (.slice a' n' cap')) k a' n' cap' hor last l' := by
  have hsz := h.sz
  have hs2 := hb.size
  exact RS.put h.box h.res (h.bel.trans (hb.mono h.bel.size)) (by omega) (hb.block _ (by omega)) (hb.block _ (by omega)) (hR.lower hsz) hl
theorem RS.set2 {w0 w : World} {k : Int} {a : Option Addr} {n cap : Nat} {hor last : Int} {l : List Chg} (h : RS w0 w k a n cap hor last l) (x : Int) : RS w0 (w.setCell ⟨w0.heap.size, 2, none⟩ (.int .i64 x)) k a n cap x last l := by
  have hk : ∀ q, q ≠ w0.heap.size → (w.setCell ⟨w0.heap.size, 2, none⟩ (.int .i64 x)).heap[q]? = w.heap[q]? := fun q hq => Below.heap_setCell _ _ _ _ hq
  exact ⟨h.bel.setCell (p := ⟨w0.heap.size, 2, none⟩) (Nat.le_refl _) _, h.box.set2 x, h.res.keep (hk _ (by omega)), h.row.keepLo (by simp [World.setCell]) (fun b hb' _ => hk b (by omega)), h.len, by simpa [World.setCell] using h.sz⟩
theorem RS.set3 {w0 w : World} {k : Int} {a : Option Addr} {n cap : Nat} {hor last : Int} {l : List Chg} (h : RS w0 w k a n cap hor last l) (x : Int) : RS w0 (w.setCell ⟨w0.heap.size, 3, none⟩ (.int .i64 x)) k a n cap hor x l := by
  have hk : ∀ q, q ≠ w0.heap.size → (w.setCell ⟨w0.heap.size, 3, none⟩ (.int .i64 x)).heap[q]? = w.heap[q]? := fun q hq => Below.heap_setCell _ _ _ _ hq
  exact ⟨h.bel.setCell (p := ⟨w0.heap.size, 3, none⟩) (Nat.le_refl _) _, h.box.set3 x, h.res.keep (hk _ (by omega)), h.row.keepLo (by simp [World.setCell]) (fun b hb' _ => hk b (by omega)), h.len, by simpa [World.setCell] using h.sz⟩
theorem RS.below {w0 w w' : World} {k : Int} {a : Option Addr} {n cap : Nat} {hor last : Int} {l : List Chg} (h : RS w0 w k a n cap hor last l) (hb : Below w.heap.size w w') : RS w0 w' k a n cap hor last l := by
  have hsz := h.sz
  exact ⟨h.bel.trans (hb.mono h.bel.size), h.box.keep (hb.block _ (by omega)), h.res.keep (hb.block _ (by omega)), h.row.below hb, h.len, Nat.le_trans hsz hb.size⟩
structure RWPost (S : Nat → Prop) (w : World) (k : Nat) (g : Lg) (e : Ending) (w' : World) : Prop where
  bel : Below w.heap.size w w'
  val : ∃ a cap, e = .returned (refV k a g.cs.length cap g.hor (lastSt g.cs)) ∧ ChgsAt (NewS S w.heap.size) w' a g.cs ∧ g.cs.length ≤ cap ∧ cap ≤ 9223372036854775807
set_option maxHeartbeats 2000000 in
set_option maxRecDepth 100000 in
theorem rwith_same {S : Nat → Prop} {k : Nat} {g : Lg} {a : Option Addr} {cap : Nat} {w : World} (h : ChgsAt S w a g.cs) (hc : g.cs.length ≤ cap) (hm : cap ≤ 9223372036854775807) (s : Int) (b : Option Addr) (new : List Chg) (cb : Nat) (hs : s ≤ lastSt g.cs ∨ new = []) :
    Calls Try.prog 21 #[refV k a g.cs.length cap g.hor (lastSt g.cs), .int .i64 s, .slice b new.length cb] w (RWPost S w k (withG k g s new)) := by
  have e0 : withG k g s new = g := by unfold withG; rw [if_pos hs]
  rw [e0]
  obtain ⟨n, hn⟩ : ∃ n, Hid (new.length = n) := ⟨_, rfl⟩
  obtain ⟨x, hx⟩ : ∃ x, Hid (lastSt g.cs = x) := ⟨_, rfl⟩
  have hpost : Hid (∀ w', Below w.heap.size w w' → RWPost S w k g (.returned (refV k a g.cs.length cap g.hor x)) w') := fun w' hb => ⟨hb, a, cap, by rw [hx.out], (h.mono (fun b' hb' hlt => .inl ⟨hb', hlt⟩)).below hb, hc, hm⟩
  rw [hx.out] at hs ⊢
  rw [hn.out]
  unfold refV
  unfold refV at hpost
  obtain ⟨L, hL⟩ : ∃ L, Hid (g.cs.length = L) := ⟨_, rfl⟩
  rw [hL.out] at hpost ⊢
  by_cases h1 : s ≤ x
  · clear e0 h hs hc
    go_enter Try.func21, Try.ntmps21
    go_wp2_with fail
    exact bodyPost_ret (v := .agg #[.int .i64 k, .slice a L cap, .int .i64 g.hor, .int .i64 x]) (by simp [results, Try.results21, go_sem]) rfl (hpost.out _ (((Below.refl _ w).alloc (Nat.le_refl _) _).alloc (by simp) _))
  · have h2 : n = 0 := by rw [← hn.out, hs.resolve_left h1]; rfl
    subst h2
    clear e0 h hs hc
    go_enter Try.func21, Try.ntmps21
    go_wp2_with fail
    exact bodyPost_ret (v := .agg #[.int .i64 k, .slice a L cap, .int .i64 g.hor, .int .i64 x]) (by simp [results, Try.results21, go_sem]) rfl (hpost.out _ (((Below.refl _ w).alloc (Nat.le_refl _) _).alloc (by simp) _))
def lenAt (w : World) (B : Nat) : Nat := match w.cell? ⟨B, 1, none⟩ with
  | some (.slice _ n _) => n
  | _ => 0
theorem slice_from1 {P : Program} (t e : TypeId) (i : TypeInfo) (ht : P.underlying t = some (.slice e)) (hi : P.info? e = some i) (a : Option Addr) (n cap : Nat) (hn : 1 ≤ n) (w : World) :
    (Instr.slice t (.slice a n cap) (some (.int .i64 1)) none none).run P w = .ok (.slice (advA a 1 i.size cap) (n - 1) (cap - 1)) w := by
  have e1 : P.elem t = e := by simp [Program.elem, ht]
  rw [run_slice_l w t a n cap (by rw [e1]; exact ht) .i64 1 (by omega) (by omega), e1]
  simp [sizeOf, typeInfo, hi, sliced, advA]
theorem dropR_step {k : Nat} {h : Int} {c : Chg} {l : List Chg} (hk : k < (c :: l).length) : dropR k h (c :: l) = dropR k (if h < c.st then c.st else h) l := by
  rw [dropR]
  rw [if_pos hk]
theorem dropR_done {k : Nat} {h : Int} {l : List Chg} (hk : ¬ k < l.length) : dropR k h l = (h, l) := by
  cases l with
  | nil => rfl
  | cons c l => rw [dropR, if_neg hk]
set_option maxHeartbeats 8000000 in
set_option maxRecDepth 100000 in
theorem rwith_new {S T : Nat → Prop} {k : Nat} {g : Lg} {a : Option Addr} {cap : Nat} {w : World} (h : ChgsAt S w a g.cs) (hc : g.cs.length ≤ cap) (hm : cap ≤ 9223372036854775807) (hok : g.Ok k) (hk1 : 1 ≤ k) (hk2 : k ≤ 4096) (s : Int) (b : Option Addr) (new : List Chg) (cb : Nat) (hN : ChgsAt T w b new) (hnl : new.length ≤ 1048576) (hs : lastSt g.cs < s) (hne : new ≠ []) :
    Calls Try.prog 21 #[refV k a g.cs.length cap g.hor (lastSt g.cs), .int .i64 s, .slice b new.length cb] w (RWPost S w k (withG k g s new)) := by
  obtain ⟨ri, hri, hri1, hri2, hri3⟩ := chg_info
  have hlast := hid_of (withG_last hok hk1 hs hne)
  have hwd : Hid (withG k g s new = ⟨(dropR k g.hor (g.cs ++ new.map (Chg.at s))).1, (dropR k g.hor (g.cs ++ new.map (Chg.at s))).2⟩) := by
    unfold withG
    exact if_neg (fun h' => h'.elim (fun h1 => by omega) hne)
  have hlen := hok.len
  obtain ⟨n, hn⟩ : ∃ n, Hid (new.length = n) := ⟨_, rfl⟩
  have hn0 : 0 < n := by rw [← hn.out]; exact List.length_pos_iff.2 hne
  obtain ⟨x, hx⟩ : ∃ x, Hid (lastSt g.cs = x) := ⟨_, rfl⟩
  obtain ⟨L, hL⟩ : ∃ L, Hid (g.cs.length = L) := ⟨_, rfl⟩
  rw [hx.out] at hs ⊢
  rw [hn.out] at hnl ⊢
  rw [hL.out] at hc hlen ⊢
  obtain ⟨W1, hW1⟩ : ∃ W1, Hid ((w.alloc (.cells #[.int .i64 k, .slice a L cap, .int .i64 g.hor, .int .i64 x] 48)).alloc (.cells #[.int .i64 0, .slice none 0 0, .int .i64 0, .int .i64 0] 48) = W1) := ⟨_, rfl⟩
  have hB1 : Below w.heap.size w W1 := by rw [← hW1.out]; exact ((Below.refl _ w).alloc (Nat.le_refl _) _).alloc (by simp) _
  have hz1 : W1.heap.size = w.heap.size + 2 := by rw [← hW1.out]; simp
  have hx0 : RBox W1 w.heap.size k a L cap g.hor x := by
    refine RBox.mk' (t := 48) ?_
    rw [← hW1.out]
    exact (((Below.refl _ (w.alloc (.cells #[.int .i64 k, .slice a L cap, .int .i64 g.hor, .int .i64 x] 48))).alloc (Nat.le_refl _) _).block _ (by simp)).trans (heap_alloc_new w _)
  have hx1 : RBox W1 (w.heap.size + 1) 0 none 0 0 0 0 := by
    refine RBox.mk' (t := 48) ?_
    rw [← hW1.out]
    have := heap_alloc_new (w.alloc (.cells #[.int .i64 k, .slice a L cap, .int .i64 g.hor, .int .i64 x] 48)) (.cells #[.int .i64 0, .slice none 0 0, .int .i64 0, .int .i64 0] 48)
    rw [World.size_alloc] at this
    exact this
  have hBe : Below W1.heap.size W1 (W1.alloc (.cells #[] 30)) := (Below.refl _ W1).alloc (Nat.le_refl _) _
  have c3 := hx0.c3
  have c1 := stay hBe hx0.c1
  have hC1 := hid_of (h.below hB1)
  have hN1 := hid_of hN
  have hst := hid_of (fun g1 o1 cc W3 (hb : Below W1.heap.size W1 W3) (hR : Rw W3 W1.heap.size 4 (some ⟨g1, o1, none⟩) g.cs.length cc (flatC g.cs)) => RS.put (w0 := w) (w := W3) hx0 hx1 (hB1.trans (hb.mono hB1.size)) (by have := hb.size; omega) (hb.block _ (by omega)) (hb.block _ (by omega)) (hR.lower (by omega)) rfl)
  rw [hL.out] at hst
  have hsx : ¬ s ≤ x := by omega
  have hnz : ((n : Int) == 0) = false := by simp; omega
  have hl48 : Hid (g.cs.length * 48 ≤ 140737488355328) := by show _ ≤ _; rw [hL.out]; omega
  replace hok := hid_of hok
  replace hB1 := hid_of hB1
  replace hx0 := hid_of hx0
  replace hx1 := hid_of hx1
  replace hz1 := hid_of hz1
  clear h hN hBe hne
  unfold refV
  go_enter Try.func21, Try.ntmps21
  go_wp2_with (first
    | rw [hW1.out]
    | (at_builtin; go_must (refine wpList_append_cp W1 rfl _ _ rfl S a cap g.cs hC1.out hl48.out rfl (by rw [hL.out]; rfl) ?_); intro g1 o1 cc W3 hb3 hg3 hR3; rw [hL.out] at hR3; obtain ⟨⟨u1, u2⟩, hRS⟩ := hst.out g1 o1 cc W3 hb3 hR3; rw [hL.out]; replace hRS := hid_of hRS; replace hb3 := hid_of hb3; clear hR3 hg3))
  clear hst hC1 hx0 hx1 c1 c3 u1 u2 hb3 hW1 hB1 hz1
  go_loopw [7] (fun iv wr => ∃ (i : Nat) (a' : Option Addr) (c' : Nat), iv = .int .i64 (i : Nat) ∧ i ≤ n ∧ Hid (RS w wr k a' (L + i) c' g.hor x (g.cs ++ (new.take i).map (Chg.at s)))) (fun iv _ => n - (intOf iv).toNat)
  case atStart => exact ⟨0, _, cc, rfl, Nat.zero_le _, by simpa using hRS⟩
  case round =>
    clear hRS
    obtain ⟨i, a', c', rfl, hin, hX⟩ := hrel
    by_cases hi : i < n
    · obtain ⟨⟨cst, cnm, cid, ckd⟩, hce⟩ : ∃ c, new[i]? = some c := ⟨_, List.getElem?_eq_getElem (by rw [hn.out]; exact hi)⟩
      obtain ⟨b2, o2, rfl, -, hcc⟩ := hN1.out i _ hce
      have hcc' := hcc.keep (hX.out.bel.block _ hcc.lt)
      have d0 := hcc'.st
      have d1 := hcc'.nm
      have d2 := hcc'.id
      have d3 := hcc'.kd
      simp only at d0 d1 d2 d3
      obtain ⟨W4, hW4⟩ : ∃ W4, Hid (wr.alloc (.cells #[.int .i64 s, .string cnm, .string cid, .int .i64 ckd] 30) = W4) := ⟨_, rfl⟩
      obtain ⟨W5, hW5⟩ : ∃ W5, Hid (W4.alloc (.cells #[.int .i64 s, .string cnm, .string cid, .int .i64 ckd] 30) = W5) := ⟨_, rfl⟩
      have hB4 : Below wr.heap.size wr W4 := by rw [← hW4.out]; exact (Below.refl _ wr).alloc (Nat.le_refl _) _
      have hB5 : Below W4.heap.size W4 W5 := by rw [← hW5.out]; exact (Below.refl _ W4).alloc (Nat.le_refl _) _
      have hB45 : Below wr.heap.size wr W5 := hB4.trans (hB5.mono hB4.size)
      have hh : W4.heap[wr.heap.size]? = some (.cells #[.int .i64 s, .string cnm, .string cid, .int .i64 ckd] 30 (0, 0)) := by rw [← hW4.out]; exact heap_alloc_new wr _
      have e0 : W4.cell? ⟨wr.heap.size, 0, none⟩ = some (.int .i64 s) := by rw [cell_of_row W4 wr.heap.size 0 _ _ _ hh]; rfl
      have e1 : W4.cell? ⟨wr.heap.size, 1, none⟩ = some (.string cnm) := by rw [cell_of_row W4 wr.heap.size 1 _ _ _ hh]; rfl
      have e2 : W4.cell? ⟨wr.heap.size, 2, none⟩ = some (.string cid) := by rw [cell_of_row W4 wr.heap.size 2 _ _ _ hh]; rfl
      have e3 : W4.cell? ⟨wr.heap.size, 3, none⟩ = some (.int .i64 ckd) := by rw [cell_of_row W4 wr.heap.size 3 _ _ _ hh]; rfl
      have hsrc : Src Try.prog 4 23 (.slice (some ⟨W4.heap.size, 0, none⟩) 1 1) 1 (chgCs ⟨s, cnm, cid, ckd⟩) W5 := by
        rw [← hW5.out]
        exact Src.of_block (cs := #[.int .i64 s, .string cnm, .string cid, .int .i64 ckd]) Try.underlying23 (heap_alloc_new W4 _) 1 1 rfl (fun u hu => flatC_one [⟨s, cnm, cid, ckd⟩] u (by simpa [flatC, chgCs] using hu))
      have x0 := hid_of (hX.out.row.below hB45)
      have c1 := stay hB4 hX.out.box.c1
      have x6 : Hid (L + i + 1 ≤ maxLen ∧ (L + i + 1) * 48 ≤ 140737488355328 ∧ w.heap.size + 2 ≤ W5.heap.size) := by
        have := hB45.size
        have := hX.out.sz
        unfold maxLen
        exact ⟨by omega, by omega, by omega⟩
      have hmap : Hid (g.cs ++ (new.take (i + 1)).map (Chg.at s) = (g.cs ++ (new.take i).map (Chg.at s)) ++ [⟨s, cnm, cid, ckd⟩]) := by
        show _ = _
        rw [List.take_add_one, hce]
        simp [Chg.at]
      have hstep := hid_of (fun g2 o2 c2 W6 hA => hX.out.more (W2 := W5) (W3 := W6) (c := ⟨s, cnm, cid, ckd⟩) (g := g2) (o := o2) (c' := c2) hB45 hA)
      replace hh := hid_of hh
      clear hcc hcc' hce hB4 hB5 hB45 hX
      go_upto_region 9 with fail
      rw [hW4.out]
      clear d0 d1 d2 d3
      go_wp2_with (first
        | rw [hW5.out]
        | (at_builtin; go_must (refine wpList_append_rw W5 rfl _ _ 23 rfl 30 ri _ 4 48 Try.underlying23 hri hri1 hri2 hri3 rfl (w.heap.size + 2) a' (L + i) c' (flatC (g.cs ++ (new.take i).map (Chg.at s))) rfl x0.out.len x0.out.le x0.out.mx x0.out.rd _ rfl 1 (chgCs ⟨s, cnm, cid, ckd⟩) hsrc (fun _ => x0.out) (by decide) x6.out.1 x6.out.2.1 x6.out.2.2 ?_); intro g2 o2 c2 W6 hA; obtain ⟨⟨u1, u2⟩, hX6⟩ := hstep.out g2 o2 c2 W6 hA; replace hX6 := hid_of hX6; clear hA hsrc hstep x0 c1))
      go_roundw
      case rel => exact ⟨i + 1, _, _, by go_num, by omega, by rw [hmap.out]; exact hX6⟩
      case measure =>
        simp only [intOf]
        omega
    · obtain rfl : i = n := by omega
      have c3 := hX.out.box.c3
      have f3 := hX.out.box.fz 3
      have hX2 := hid_of (hX.out.set3 s)
      rw [List.take_of_length_le (by rw [hn.out]; exact Nat.le_refl _)] at hX2
      clear hX
      go_wp2_with fail
      obtain ⟨W7, hW7⟩ : ∃ W7, Hid (wr.setCell ⟨w.heap.size, 3, none⟩ (.int .i64 s) = W7) := ⟨_, rfl⟩
      rw [hW7.out] at hX2 ⊢
      clear hW7 c3 f3
      go_loopw [] (fun wq => ∃ (hor' : Int) (l' : List Chg) (a' : Option Addr) (n' c' : Nat), Hid (RS w wq k a' n' c' hor' s l') ∧ n' ≤ 1052672 ∧ Hid (dropR k hor' l' = dropR k g.hor (g.cs ++ new.map (Chg.at s)))) (fun wq => lenAt wq w.heap.size)
      case atStart => exact ⟨g.hor, _, _, _, _, hX2, by omega, rfl⟩
      case round =>
        clear hX2
        obtain ⟨hor', l', a2, n', c2, hY, hn'l, hdr⟩ := hrel
        have c0 := hY.out.box.c0
        have c1 := hY.out.box.c1
        by_cases hkn : k < n'
        · obtain ⟨c, r, rfl⟩ : ∃ c r, l' = c :: r := by
            cases l' with
            | nil => have := hY.out.len; simp at this; omega
            | cons c r => exact ⟨c, r, rfl⟩
          have hlr : Hid (r.length + 1 = n') := by have := hY.out.len; show _ = _; simpa using this
          obtain ⟨b2, o2, ha2e, -, hcc⟩ := hY.out.row.chgs 0 c rfl
          subst ha2e
          have hc21 : ¬ c2 = 1 := by have := hY.out.row.le; omega
          have d0 := hcc.st
          simp only [Nat.zero_mul, Nat.add_zero] at d0
          obtain ⟨z, hz⟩ : ∃ z, Hid (c.st = z) := ⟨_, rfl⟩
          rw [hz.out] at d0
          have c2' := hY.out.box.c2
          have hc1 := hid_of c1
          have hk3 : (0 : Int) < (n' : Int) := by omega
          have hdr8 : Hid (dropR k (if hor' < z then z else hor') r = dropR k g.hor (g.cs ++ new.map (Chg.at s))) := by
            have := hdr.out
            rw [dropR_step (by have := hlr.out; simp; omega), hz.out] at this
            exact this
          replace hcc := hid_of hcc
          by_cases hlt : hor' < z
          · rw [if_pos hlt] at hdr8
            go_upto_region 12 with fail
            go_quiet (fail)
            have hYd := hid_of (hY.out.below (below_drewN (Below.refl _ wr) nq))
            have f2 := hYd.out.box.fz 2
            have hY8 := hid_of (hYd.out.set2 z)
            obtain ⟨W8, hW8⟩ : ∃ W8, Hid ((wr.drewN nq).setCell ⟨w.heap.size, 2, none⟩ (.int .i64 z) = W8) := ⟨_, rfl⟩
            rw [hW8.out] at hY8
            go_upto_region 14 with (rw [hW8.out])
            clear c0 c1 c2' d0 f2 hYd hY hW8
            have hC8 : Hid (ChgsAt (fun b => w.heap.size + 2 ≤ b) W8 (some ⟨b2, o2 + 4, none⟩) r) := by
              have := (hY8.out.row.chgs).drop 1 c2 (fun e => absurd e hc21)
              unfold advA at this
              rw [if_neg hc21] at this
              show ChgsAt _ _ _ _
              simpa [add_plain] using this
            have hBe : Below W8.heap.size W8 (W8.alloc (.cells #[] 30)) := (Below.refl _ W8).alloc (Nat.le_refl _) _
            have c1' := stay hBe hY8.out.box.c1
            have hst := hid_of (fun g3 o3 c3 W9 (hb : Below W8.heap.size W8 W9) (hR : Rw W9 W8.heap.size 4 (some ⟨g3, o3, none⟩) r.length c3 (flatC r)) => hY8.out.other hb hR rfl)
            have hn1 : Hid (n' - 1 = r.length) := by have := hlr.out; show _ = _; omega
            obtain ⟨n3, hn3⟩ : ∃ n3, Hid (r.length = n3) := ⟨_, rfl⟩
            have hn4 : Hid (n' - 1 = n3) := hn1.out.trans hn3.out
            rw [hn3.out] at hst
            have hl48 : Hid (r.length * 48 ≤ 140737488355328) := by show _ ≤ _; have := hn1.out; omega
            clear hBe hY8
            go_wp2_with (first
              | rw [hn4.out]
              | (at_builtin; go_must (refine wpList_append_cp W8 rfl _ _ rfl _ (some ⟨b2, o2 + 4, none⟩) _ r hC8.out hl48.out rfl (by rw [hn3.out]; rfl) ?_); intro g3 o3 c3 W9 hb9 hg9 hR9; rw [hn3.out] at hR9; obtain ⟨⟨u1, u2⟩, hY9⟩ := hst.out g3 o3 c3 W9 hb9 hR9; rw [hn3.out]; replace hY9 := hid_of hY9; clear hR9 hg9 hb9 hst))
            go_roundw
            case rel => exact ⟨z, r, _, _, _, hY9, by have := hn1.out; have := hn3.out; omega, hdr8⟩
            case measure =>
              have e1 : lenAt wr w.heap.size = n' := by unfold lenAt; rw [hc1.out]
              have e2 : lenAt (W9.setCell ⟨w.heap.size, 1, none⟩ (.slice (some ⟨g3, o3, none⟩) n3 c3)) w.heap.size = n3 := by unfold lenAt; rw [hY9.out.box.c1]
              rw [e1, e2]
              have := hn1.out
              have := hn3.out
              omega
          · rw [if_neg hlt] at hdr8
            go_upto_region 12 with fail
            go_quiet (fail)
            have hY8 := hid_of (hY.out.below (below_drewN (Below.refl _ wr) nq))
            obtain ⟨W8, hW8⟩ : ∃ W8, Hid (wr.drewN nq = W8) := ⟨_, rfl⟩
            rw [hW8.out] at hY8 ⊢
            go_upto_region 14 with fail
            clear c0 c1 c2' d0 hY hW8
            have hC8 : Hid (ChgsAt (fun b => w.heap.size + 2 ≤ b) W8 (some ⟨b2, o2 + 4, none⟩) r) := by
              have := (hY8.out.row.chgs).drop 1 c2 (fun e => absurd e hc21)
              unfold advA at this
              rw [if_neg hc21] at this
              show ChgsAt _ _ _ _
              simpa [add_plain] using this
            have hBe : Below W8.heap.size W8 (W8.alloc (.cells #[] 30)) := (Below.refl _ W8).alloc (Nat.le_refl _) _
            have c1' := stay hBe hY8.out.box.c1
            have hst := hid_of (fun g3 o3 c3 W9 (hb : Below W8.heap.size W8 W9) (hR : Rw W9 W8.heap.size 4 (some ⟨g3, o3, none⟩) r.length c3 (flatC r)) => hY8.out.other hb hR rfl)
            have hn1 : Hid (n' - 1 = r.length) := by have := hlr.out; show _ = _; omega
            obtain ⟨n3, hn3⟩ : ∃ n3, Hid (r.length = n3) := ⟨_, rfl⟩
            have hn4 : Hid (n' - 1 = n3) := hn1.out.trans hn3.out
            rw [hn3.out] at hst
            have hl48 : Hid (r.length * 48 ≤ 140737488355328) := by show _ ≤ _; have := hn1.out; omega
            clear hBe hY8
            go_wp2_with (first
              | rw [hn4.out]
              | (at_builtin; go_must (refine wpList_append_cp W8 rfl _ _ rfl _ (some ⟨b2, o2 + 4, none⟩) _ r hC8.out hl48.out rfl (by rw [hn3.out]; rfl) ?_); intro g3 o3 c3 W9 hb9 hg9 hR9; rw [hn3.out] at hR9; obtain ⟨⟨u1, u2⟩, hY9⟩ := hst.out g3 o3 c3 W9 hb9 hR9; rw [hn3.out]; replace hY9 := hid_of hY9; clear hR9 hg9 hb9 hst))
            go_roundw
            case rel => exact ⟨hor', r, _, _, _, hY9, by have := hn1.out; have := hn3.out; omega, hdr8⟩
            case measure =>
              have e1 : lenAt wr w.heap.size = n' := by unfold lenAt; rw [hc1.out]
              have e2 : lenAt (W9.setCell ⟨w.heap.size, 1, none⟩ (.slice (some ⟨g3, o3, none⟩) n3 c3)) w.heap.size = n3 := by unfold lenAt; rw [hY9.out.box.c1]
              rw [e1, e2]
              have := hn1.out
              have := hn3.out
              omega
        · have hfin : Hid (withG k g s new = ⟨hor', l'⟩) := by
            show _ = _
            rw [hwd.out, ← hdr.out, dropR_done (by rw [hY.out.len]; exact hkn)]
          have c2' := hY.out.box.c2
          have c3' := hY.out.box.c3
          obtain ⟨q0, q1, q2, q3, qf⟩ := hY.out.res
          have qf0 := qf 0
          have qf1 := qf 1
          have qf2 := qf 2
          have qf3 := qf 3
          clear qf
          have hfp : Hid (RWPost S w k (withG k g s new) (.returned (refV k a2 n' c2 hor' s)) (set4 wr (w.heap.size + 1) k a2 n' c2 hor' s)) := by
            have hl := hlast.out
            rw [hfin.out] at hl ⊢
            have hm2 := hY.out.row.mx
            unfold maxLen at hm2
            refine ⟨set4_below hY.out.bel _ (by omega) _ _ _ _ _ _, a2, c2, by rw [hY.out.len, hl.1], ?_, by rw [hY.out.len]; exact hY.out.row.le, by omega⟩
            exact ((hY.out.row.keepLo (by rw [set4_size]; exact Nat.le_refl _) (fun q hq _ => set4_heap _ _ _ _ _ _ _ _ _ (by omega))).chgs).mono (fun b' hb' _ => .inr (by omega))
          obtain ⟨p0, p1, p2, p3, -⟩ := hY.out.res.set4 k a2 n' c2 hor' s
          unfold refV at hfp
          go_wp2_with fail
          obtain ⟨W9, hW9⟩ : ∃ W9, Hid (set4 wr (w.heap.size + 1) k a2 n' c2 hor' s = W9) := ⟨_, rfl⟩
          rw [hW9.out] at hfp p0 p1 p2 p3
          unfold set4 at hW9
          rw [hW9.out]
          exact bodyPost_ret (v := .agg #[.int .i64 k, .slice a2 n' c2, .int .i64 hor', .int .i64 s]) (by simp [results, Try.results21, go_sem, p0, p1, p2, p3]) rfl hfp.out
theorem rwith_any {S T : Nat → Prop} {k : Nat} {g : Lg} {a : Option Addr} {cap : Nat} {w : World} (h : ChgsAt S w a g.cs) (hc : g.cs.length ≤ cap) (hm : cap ≤ 9223372036854775807) (hok : g.Ok k) (hk1 : 1 ≤ k) (hk2 : k ≤ 4096) (s : Int) (b : Option Addr) (new : List Chg) (cb : Nat) (hN : ChgsAt T w b new) (hnl : new.length ≤ 1048576) :
    Calls Try.prog 21 #[refV k a g.cs.length cap g.hor (lastSt g.cs), .int .i64 s, .slice b new.length cb] w (RWPost S w k (withG k g s new)) := by
  by_cases hs : s ≤ lastSt g.cs ∨ new = []
  · exact rwith_same h hc hm s b new cb hs
  · refine rwith_new h hc hm hok hk1 hk2 s b new cb hN hnl ?_ (fun e => hs (.inr e))
    rcases Int.lt_or_le (lastSt g.cs) s with h' | h'
    · exact h'
    · exact absurd (.inl h') hs
end Go.Proofs.Ytpdcinicnekeoaa
