import Derived.Test.YthebilggokpciaaS3
/-! One turn up, of every value: a new item: what it leans on. -/
namespace Go.Proofs.Ythebilggokpciaa
open Go Go.RowKit

/-- Ahead of the items' append: the box of v (at B), x's (at b + 1), the answer's (at b + 2), the row of the items. -/
structure AtApp (w W : World) (B gi n : Nat) (k : Int) (nm : Value) (ns : List ByteArray) (k1 x1 : Int) (s1 : ByteArray) (nx ix : Value) (xs : List Value) : Prop where
  lo : w.heap.size + 3 ≤ B
  hi : B < W.heap.size
  gne : gi ≠ B
  below : Below w.heap.size w W
  x : W.heap[w.heap.size + 1]? = some (.cells #[.int .i64 k1, .int .i64 x1, .string s1, nx, ix] 25 (0, 0))
  r : W.heap[w.heap.size + 1 + 1]? = some (.cells #[.int .i64 0, .int .i64 0, .string ⟨#[]⟩, .slice none 0 0, .slice none 0 0] 25 (0, 0))
  box : W.heap[B]? = some (.cells #[.int .i64 k, .int .i64 0, .string ⟨#[]⟩, nm, .slice (some ⟨gi, 0, none⟩) n (n + 1)] 25 (0, 0))
  row : W.ownsRow (w.heap.size + 1 + 1 + 1) 25 5 (.slice (some ⟨gi, 0, none⟩) n (n + 1)) n xs
  names : SeenR W (fun j => w.heap.size + 1 + 1 + 1 ≤ j ∧ j ≠ gi ∧ j ≠ B) nm ns
theorem set_at {W : World} {B j : Nat} {cur : Array Value} {t : TypeId} (h : W.heap[B]? = some (.cells cur t (0, 0))) (v : Value) : (W.setCell ⟨B, j, none⟩ v).heap[B]? = some (.cells (cur.setIfInBounds j v) t (0, 0)) := by
  simp [World.setCell, Array.getElem?_modify, h]
theorem grown_app {W w8 : World} {o : Obj} {v : Value} {g : Nat} (hv : v.ownBlock = some g) (h : (W.alloc o).grownBy w8 v.ownBlock) : ∀ j, j < W.heap.size → j ≠ g → w8.heap[j]? = W.heap[j]? := fun j hj hne =>
  (h.block j (by rw [World.size_alloc]; omega) (fun e => by rw [hv] at e; cases e; exact hne rfl)).trans (Below.heap_alloc W o j hj)
/-- Behind the names' append. -/
theorem app_names {w W w6 W7 : World} {B gi gn g6 c6 n : Nat} {k : Int} {ns : List ByteArray} {k1 x1 : Int} {s1 : ByteArray} {nx ix : Value} {xs : List Value} {o : Obj} {sg : ByteArray} (hns : ns.length = n)
    (h : AtApp w W B gi n k (.slice (some ⟨gn, 0, none⟩) n (n + 1)) ns k1 x1 s1 nx ix xs) (hgn : w.heap.size + 1 + 1 + 1 ≤ gn ∧ gn < W.heap.size) (hne : gn ≠ gi) (hnB : gn ≠ B)
    (hown : w6.ownsRow (w.heap.size + 1 + 1 + 1) 9 1 (.slice (some ⟨g6, 0, none⟩) (n + 1) c6) (n + 1) (strs ns ++ [.string sg])) (hgrow : (W.alloc o).grownBy w6 (Value.slice (some ⟨gn, 0, none⟩) n (n + 1)).ownBlock) (hat : (Value.slice (some ⟨gn, 0, none⟩) n (n + 1)).ownBlock = some g6 ∨ g6 = (W.alloc o).heap.size)
    (hW7 : w6.setCell ⟨B, 3, none⟩ (.slice (some ⟨g6, 0, none⟩) (n + 1) c6) = W7) : AtApp w W7 B gi n k (.slice (some ⟨g6, 0, none⟩) (n + 1) c6) (ns ++ [sg]) k1 x1 s1 nx ix xs := by
  have hfar := grown_app (g := gn) rfl hgrow
  have hgi := ownsRow_ge h.row (g := gi) rfl
  have hlo := h.lo
  have hhi := h.hi
  have hsz := hgrow.size
  rw [World.size_alloc] at hsz hat
  have hg6 : g6 ≠ B ∧ g6 ≠ gi ∧ w.heap.size + 1 + 1 + 1 ≤ g6 := by
    rcases hat with e | e
    · simp [Value.ownBlock] at e; subst e; exact ⟨hnB, hne, hgn.1⟩
    · omega
  have h7 : ∀ j, j ≠ B → W7.heap[j]? = w6.heap[j]? := fun j hj => by rw [← hW7]; exact Below.heap_setCell _ _ _ _ hj
  have s7 : W7.heap.size = w6.heap.size := by rw [← hW7]; simp [World.setCell]
  have hle := h.below.size
  refine ⟨h.lo, by omega, h.gne, ⟨?_, ?_, ?_, by omega, fun j hj => ?_⟩, ?_, ?_, ?_, ?_, ?_⟩
  · rw [← hW7]; exact hgrow.os.trans h.below.os
  · rw [← hW7]; exact hgrow.tape.trans h.below.tape
  · rw [← hW7]; exact hgrow.output.trans h.below.output
  · exact (h7 j (by omega)).trans ((hfar j (by omega) (by omega)).trans (h.below.block j hj))
  · exact (h7 _ (by omega)).trans ((hfar _ (by omega) (by omega)).trans h.x)
  · exact (h7 _ (by omega)).trans ((hfar _ (by omega) (by omega)).trans h.r)
  · rw [← hW7]
    exact set_at ((hfar B h.hi (fun e => hnB e.symm)).trans h.box) _
  · exact ownsRow_keep h.row (fun g hg => by cases hg; exact (h7 _ h.gne).trans (hfar _ hgi.2 (fun e => hne e.symm)))
  · refine fun W' ha => ?_
    have hk : W7.ownsRow (w.heap.size + 1 + 1 + 1) 9 1 (.slice (some ⟨g6, 0, none⟩) (n + 1) c6) (n + 1) (strs ns ++ [.string sg]) := ownsRow_keep hown (fun g hg => by cases hg; exact h7 _ hg6.1)
    have hl : (ns ++ [sg]).length = n + 1 := by simp [hns]
    rw [← strs_snoc, ← hl] at hk
    rw [← hl]
    exact own_reads hk (show _ ∧ _ ∧ _ from ⟨hg6.2.2, hg6.2.1, hg6.1⟩) ha
/-- Behind the items' append: the answer. -/
theorem app_items {w w0 W w8 W9 Wf : World} {S : Nat → Prop} {B gi g8 c8 n : Nat} {k : Int} {nm : Value} {ns : List ByteArray} {k1 x1 : Int} {s1 : ByteArray} {an1 : Option Addr} {ln1 cn1 : Nat} {ai1 : Option Addr} {li1 ci1 : Nat} {xs : List Value} {o : Obj} {its : List Tr} {X : Tr} (hn : its.length = n) (h0 : Below w0.heap.size w0 w) (hS : ∀ k, k < w0.heap.size → S k) (hI : ItemsRep w0 its xs) (hX : Seen w S X (five k1 x1 s1 (.slice an1 ln1 cn1) (.slice ai1 li1 ci1)))
    (h : AtApp w W B gi n k nm ns k1 x1 s1 (.slice an1 ln1 cn1) (.slice ai1 li1 ci1) xs)
    (hown : w8.ownsRow (w.heap.size + 1 + 1 + 1) 25 5 (.slice (some ⟨g8, 0, none⟩) (n + 1) c8) (n + 1) (xs ++ [.int .i64 k1, .int .i64 x1, .string s1, .slice an1 ln1 cn1, .slice ai1 li1 ci1])) (hgrow : (W.alloc o).grownBy w8 (Value.slice (some ⟨gi, 0, none⟩) n (n + 1)).ownBlock) (hat : (Value.slice (some ⟨gi, 0, none⟩) n (n + 1)).ownBlock = some g8 ∨ g8 = (W.alloc o).heap.size)
    (hW9 : w8.setCell ⟨B, 4, none⟩ (.slice (some ⟨g8, 0, none⟩) (n + 1) c8) = W9) :
    W9.heap[B]? = some (.cells #[.int .i64 k, .int .i64 0, .string ⟨#[]⟩, nm, .slice (some ⟨g8, 0, none⟩) (n + 1) c8] 25 (0, 0)) ∧ W9.heap[w.heap.size + 1 + 1]? = some (.cells #[.int .i64 0, .int .i64 0, .string ⟨#[]⟩, .slice none 0 0, .slice none 0 0] 25 (0, 0)) ∧
    (put5 W9 (w.heap.size + 1 + 1) (.int .i64 k) (.int .i64 0) (.string ⟨#[]⟩) nm (.slice (some ⟨g8, 0, none⟩) (n + 1) c8) = Wf → Below w.heap.size w Wf ∧ Seen Wf (fun k => S k ∨ w.heap.size ≤ k) (.node k 0 ⟨#[]⟩ ns (its ++ [X])) (five k 0 ⟨#[]⟩ nm (.slice (some ⟨g8, 0, none⟩) (n + 1) c8))) := by
  have hfar := grown_app (g := gi) rfl hgrow
  have hgi := ownsRow_ge h.row (g := gi) rfl
  have hlo := h.lo
  have hhi := h.hi
  have hsz := hgrow.size
  rw [World.size_alloc] at hsz hat
  have hg8 : g8 ≠ B ∧ w.heap.size + 1 + 1 + 1 ≤ g8 := by
    rcases hat with e | e
    · simp [Value.ownBlock] at e; subst e; exact ⟨h.gne, hgi.1⟩
    · omega
  have h9 : ∀ j, j ≠ B → W9.heap[j]? = w8.heap[j]? := fun j hj => by rw [← hW9]; exact Below.heap_setCell _ _ _ _ hj
  have s9 : W9.heap.size = w8.heap.size := by rw [← hW9]; simp [World.setCell]
  have hle := h.below.size
  refine ⟨by rw [← hW9]; exact set_at ((hfar B h.hi (fun e => h.gne e.symm)).trans h.box) _, (h9 _ (by omega)).trans ((hfar _ (by omega) (by omega)).trans h.r), fun hf => ?_⟩
  have B9 : Below w.heap.size w W9 := ⟨by rw [← hW9]; exact hgrow.os.trans h.below.os, by rw [← hW9]; exact hgrow.tape.trans h.below.tape, by rw [← hW9]; exact hgrow.output.trans h.below.output, by omega, fun j hj => (h9 j (by omega)).trans ((hfar j (by omega) (by omega)).trans (h.below.block j hj))⟩
  have Bf : Below w.heap.size w Wf := by rw [← hf]; exact B9.trans (put5_below (by omega) _ _ _ _ _)
  have kf : ∀ j, j ≠ w.heap.size + 1 + 1 → Wf.heap[j]? = W9.heap[j]? := fun j hj => by rw [← hf]; exact put5_far _ _ _ _ _ hj
  have sf : Wf.heap.size = W9.heap.size := by rw [← hf]; exact put5_size _ _ _ _ _ _ _
  refine ⟨Bf, ?_⟩
  have hl : (its ++ [X]).length = n + 1 := by simp [hn]
  have hfin := with_fin (k := k) (ns := ns) (its := its ++ [X]) (nm := nm) (gi := g8) (ci := c8) h0 hS Bf (by
    rw [hl]
    exact ownsRow_keep (ownsRow_lo hown (by omega)) (fun g hg => by cases hg; exact (kf g8 (show g8 ≠ w.heap.size + 1 + 1 by omega)).trans (h9 _ hg8.1))) (fun W' ha => h.names W' ⟨by have := ha.1; omega, fun p u hp hc => ha.2 p u (show w.heap.size ≤ p.block by have := hp.1; omega) ((World.cell?_of_block (w := W9) (kf p.block (by have := hp.1; omega))).trans ((World.cell?_of_block (w := w8) (h9 p.block hp.2.2)).trans ((World.cell?_of_block (w := W) (hfar p.block (cell_lt hc) hp.2.1)).trans hc)))⟩) (fun W' hk hs ha => by
      exact ItemsRep.snoc rfl (seen_next hX Bf (fun _ h => .inl h) ha) (hI.mono hk hs))
  rw [hl] at hfin
  exact hfin
end Go.Proofs.Ythebilggokpciaa
/-! One turn up, of every value: a new item. -/
namespace Go.Proofs.Ythebilggokpciaa
open Go Go.RowKit

theorem box_kept {w W w6 : World} {B gi gn n : Nat} {k : Int} {nm : Value} {ns : List ByteArray} {k1 x1 : Int} {s1 : ByteArray} {nx ix : Value} {xs : List Value} {o : Obj} (h : AtApp w W B gi n k nm ns k1 x1 s1 nx ix xs) (_ : w.heap.size + 1 + 1 + 1 ≤ gn ∧ gn < B) (_ : gn ≠ gi) (hnB : gn ≠ B) (hgrow : (W.alloc o).grownBy w6 (Value.slice (some ⟨gn, 0, none⟩) n (n + 1)).ownBlock) : ∃ u, w6.cell? ⟨B, 3, none⟩ = some u ∧ w6.frozen? ⟨B, 3, none⟩ = false := by
  have := (grown_app (g := gn) rfl hgrow B h.hi (fun e => hnB e.symm)).trans h.box
  exact ⟨nm, by simp [World.cell?, this], by simp [World.frozen?, this]⟩
theorem box_kept4 {w W w6 : World} {B gi n : Nat} {k : Int} {nm : Value} {ns : List ByteArray} {k1 x1 : Int} {s1 : ByteArray} {nx ix : Value} {xs : List Value} {o : Obj} (h : AtApp w W B gi n k nm ns k1 x1 s1 nx ix xs) (hgrow : (W.alloc o).grownBy w6 (Value.slice (some ⟨gi, 0, none⟩) n (n + 1)).ownBlock) : ∃ u, w6.cell? ⟨B, 4, none⟩ = some u ∧ w6.frozen? ⟨B, 4, none⟩ = false := by
  have := (grown_app (g := gi) rfl hgrow B h.hi (fun e => h.gne e.symm)).trans h.box
  exact ⟨_, by simp [World.cell?, this]; rfl, by simp [World.frozen?, this]⟩
set_option maxHeartbeats 1000000 in
set_option maxRecDepth 100000 in
theorem with_app5 (x : Int) (tx : ByteArray) (an : Option Addr) (ln cn : Nat) (ai : Option Addr) (li ci : Nat) (sg : ByteArray) (n : Nat) (hnb : (n + 1) * 80 ≤ 140737488355328) (k1 x1 : Int) (s1 : ByteArray) (an1 : Option Addr) (ln1 cn1 : Nat) (ai1 : Option Addr) (li1 ci1 : Nat) (ns : List ByteArray) (its : List Tr) (hn : its.length = n) (xs : List Value) (X : Tr) (S : Nat → Prop) (w0 w : World) (h0 : Below w0.heap.size w0 w) (hS : ∀ k, k < w0.heap.size → S k)
    (hI : ItemsRep w0 its xs) (hX : Seen w S X (five k1 x1 s1 (.slice an1 ln1 cn1) (.slice ai1 li1 ci1)))
    (hA : ∀ W, Below w.heap.size w W → Calls Try.prog 51 #[.agg #[.int .i64 5, .int .i64 x, .string tx, .slice an ln cn, .slice ai li ci]] W (Anew W 5 n (strs ns) xs)) :
    Calls Try.prog 48 #[.agg #[.int .i64 5, .int .i64 x, .string tx, .slice an ln cn, .slice ai li ci, .string sg, .int .i64 n], .agg #[.int .i64 k1, .int .i64 x1, .string s1, .slice an1 ln1 cn1, .slice ai1 li1 ci1]] w (WithPost w S (.node 5 0 ⟨#[]⟩ [] (its ++ [X]))) := by
  have hB3 : ∀ p1 p2 p3, Below w.heap.size w (((w.alloc p1).alloc p2).alloc p3) := fun p1 p2 p3 => ((Below.refl _ w).alloc (Nat.le_refl _) p1).alloc (by simp) p2 |>.alloc (by simp; omega) p3
  have hn0 : ∀ o1 o2 o3, (((w.alloc o1).alloc o2).alloc o3).heap[w.heap.size]? = some o1 := fun o1 o2 o3 => (Below.heap_alloc _ _ _ (by simp; omega)).trans (new1 w o1 o2)
  have hn1 : ∀ o1 o2 o3, (((w.alloc o1).alloc o2).alloc o3).heap[w.heap.size + 1]? = some o2 := fun o1 o2 o3 => (Below.heap_alloc _ _ _ (by simp)).trans (new2 w o1 o2)
  have hn2 : ∀ o1 o2 o3, (((w.alloc o1).alloc o2).alloc o3).heap[w.heap.size + 1 + 1]? = some o3 := fun o1 o2 o3 => heap_new' (by simp)
  have hA' := fun p1 p2 p3 => hA _ (hB3 p1 p2 p3)
  clear hA
  go_enter Try.func48, Try.ntmps48
  go_wp2_with fail
  refine (hA' _ _ _).mono ?_
  rintro e w4 ⟨hb4, nm, gi, rfl, hrow, hnm⟩
  clear hA'
  have t0 := (hb4.block _ (by simp; omega)).trans (hn0 _ _ _)
  have t1 := (hb4.block _ (by simp)).trans (hn1 _ _ _)
  have t2 := (hb4.block _ (by simp)).trans (hn2 _ _ _)
  have HB : Below w.heap.size w w4 := (hB3 _ _ _).trans (hb4.mono (by simp; omega))
  have hsz : w.heap.size + 3 ≤ w4.heap.size := by have := hb4.size; simp at this; omega
  simp only [World.size_alloc] at hrow hnm
  clear hb4 hB3 hn0 hn1 hn2
  have hgi := ownsRow_ge hrow (g := gi) rfl
  obtain rfl : nm = .slice none 0 0 := by
    rcases hnm with h | ⟨h, _⟩
    · first | exact h | exact h.2
    · exact absurd h (by decide)
  clear hnm
  obtain ⟨W5, hW5⟩ : ∃ W5, Hid (w4.alloc (.cells #[.int .i64 5, .int .i64 0, .string ⟨#[]⟩, .slice none 0 0, .slice (some ⟨gi, 0, none⟩) n (n + 1)] 25) = W5) := ⟨_, rfl⟩
  have hb5 : Below w4.heap.size w4 W5 := by rw [← hW5.out]; exact (Below.refl _ w4).alloc (Nat.le_refl _) _
  have hs5 : W5.heap.size = w4.heap.size + 1 := by rw [← hW5.out]; simp
  have t5 : W5.heap[w4.heap.size]? = some (.cells #[.int .i64 5, .int .i64 0, .string ⟨#[]⟩, .slice none 0 0, .slice (some ⟨gi, 0, none⟩) n (n + 1)] 25) := by rw [← hW5.out]; exact heap_alloc_new w4 _
  replace t0 := (hb5.block _ (by omega)).trans t0
  have i6 : W5.cell? ⟨w.heap.size, 6, none⟩ = some (.int .i64 n) := by simp [World.cell?, t0]
  have i5 : W5.cell? ⟨w.heap.size, 5, none⟩ = some (.string sg) := by simp [World.cell?, t0]
  have hA5 : AtApp w W5 w4.heap.size gi n 5 (.slice none 0 0) [] k1 x1 s1 (.slice an1 ln1 cn1) (.slice ai1 li1 ci1) xs := ⟨hsz, by omega, by omega, HB.trans (hb5.mono HB.size), (hb5.block _ (by omega)).trans t1, (hb5.block _ (by omega)).trans t2, t5, ownsRow_below hrow hb5, fun W' _ => ⟨none, 0, rfl, ⟨Nat.le_refl _, by omega⟩, .inl rfl⟩⟩
  obtain ⟨y0, y1, y2, y3, y4, -⟩ := row_cells hA5.x
  obtain ⟨v0, v1, v2, v3, v4, vf⟩ := row_cells hA5.box
  have vf3 := vf 3; have vf4 := vf 4
  have hd : decide ((n : Int) < (n : Int)) = false := by simp
  obtain ⟨i25, hi25, hz0, hz1, hz2⟩ := info_parts A25
  obtain ⟨i9, hi9, hy0, hy1, hy2⟩ := info_parts A9
  clear hb5 HB t0 t1 t2 t5 vf hrow
  replace hsz := hid_of hsz; replace hs5 := hid_of hs5; replace hgi := hid_of hgi; replace hA5 := hid_of hA5
  replace hX := hid_of hX; replace hI := hid_of hI; replace h0 := hid_of h0; replace hS := hid_of hS
  go_wp2_with (first | rw [hW5.out] | rw [hW9.out] | (at_builtin; refine wpList_append_lies _ rfl _ _ 23 rfl (w.heap.size + 1 + 1 + 1) 25 i25 _ 5 80 Try.underlying23 hi25 hz0 hz1 hz2 rfl (by decide) _ n xs rfl (hA5.out.row.alloc _) _ 1 1 [.int .i64 k1, .int .i64 x1, .string s1, .slice an1 ln1 cn1, .slice ai1 li1 ci1] rfl rfl (World.news_of_block (heap_alloc_new W5 _)) (five_one _ _ _ _ _ _ _ _ _) (by decide) (by unfold maxLen; omega) (by omega) (by simp only [World.size_alloc]; have h1 := hA5.out.lo; have h2 := hA5.out.hi; omega) _ rfl ?_; intro g8 c8 w8 hown8 hgrow8 hat8 hlt8; obtain ⟨W9, hW9⟩ : ∃ W9, Hid (w8.setCell ⟨w4.heap.size, 4, none⟩ (.slice (some ⟨g8, 0, none⟩) (n + 1) c8) = W9) := ⟨_, rfl⟩; obtain ⟨u4, u4a, u4b⟩ := box_kept4 hA5.out hgrow8; obtain ⟨t59, t29, hfin⟩ := app_items (Wf := put5 W9 (w.heap.size + 1 + 1) (.int .i64 5) (.int .i64 0) (.string ⟨#[]⟩) (.slice none 0 0) (.slice (some ⟨g8, 0, none⟩) (n + 1) c8)) hn h0.out hS.out hI.out hX.out hA5.out hown8 hgrow8 hat8 hW9.out; replace hfin := hid_of (hfin rfl); clear hown8 hgrow8 hat8 hlt8 hA5 v0 v1 v2 v3 v4 y0 y1 y2 y3 y4 vf4; obtain ⟨v0, v1, v2, v3, v4, -⟩ := row_cells t59; obtain ⟨z0, z1, z2, z3, z4, zf⟩ := row_cells t29; have g0 := zf 0; have g1 := zf 1; have g2 := zf 2; have g3 := zf 3; have g4 := zf 4; clear zf; replace t29 := hid_of t29; clear t59))
  have hr := put5_cells t29.out (.int .i64 5) (.int .i64 0) (.string ⟨#[]⟩) (.slice none 0 0) (.slice (some ⟨g8, 0, none⟩) (n + 1) c8)
  have q0 := hr 0; have q1 := hr 1; have q2 := hr 2; have q3 := hr 3; have q4 := hr 4
  clear hr
  refine bodyPost_ret (v := .agg #[.int .i64 5, .int .i64 0, .string ⟨#[]⟩, .slice none 0 0, .slice (some ⟨g8, 0, none⟩) (n + 1) c8]) (by simp [results, Try.results48, go_sem, q0, q1, q2, q3, q4]) rfl ?_
  exact ⟨hfin.out.1, _, _, _, _, _, _, _, _, _, _, rfl, rfl, hfin.out.2⟩
set_option maxHeartbeats 1000000 in
set_option maxRecDepth 100000 in
theorem with_app6 (x : Int) (tx : ByteArray) (an : Option Addr) (ln cn : Nat) (ai : Option Addr) (li ci : Nat) (sg : ByteArray) (n : Nat) (hnb : (n + 1) * 80 ≤ 140737488355328) (k1 x1 : Int) (s1 : ByteArray) (an1 : Option Addr) (ln1 cn1 : Nat) (ai1 : Option Addr) (li1 ci1 : Nat) (ns : List ByteArray) (its : List Tr) (hn : its.length = n) (xs : List Value) (X : Tr) (S : Nat → Prop) (w0 w : World) (h0 : Below w0.heap.size w0 w) (hS : ∀ k, k < w0.heap.size → S k)
    (hI : ItemsRep w0 its xs) (hX : Seen w S X (five k1 x1 s1 (.slice an1 ln1 cn1) (.slice ai1 li1 ci1)))
    (hA : ∀ W, Below w.heap.size w W → Calls Try.prog 51 #[.agg #[.int .i64 6, .int .i64 x, .string tx, .slice an ln cn, .slice ai li ci]] W (Anew W 6 n (strs ns) xs)) (hk6 : ns.length = n) :
    Calls Try.prog 48 #[.agg #[.int .i64 6, .int .i64 x, .string tx, .slice an ln cn, .slice ai li ci, .string sg, .int .i64 n], .agg #[.int .i64 k1, .int .i64 x1, .string s1, .slice an1 ln1 cn1, .slice ai1 li1 ci1]] w (WithPost w S (.node 6 0 ⟨#[]⟩ (ns ++ [sg]) (its ++ [X]))) := by
  have hB3 : ∀ p1 p2 p3, Below w.heap.size w (((w.alloc p1).alloc p2).alloc p3) := fun p1 p2 p3 => ((Below.refl _ w).alloc (Nat.le_refl _) p1).alloc (by simp) p2 |>.alloc (by simp; omega) p3
  have hn0 : ∀ o1 o2 o3, (((w.alloc o1).alloc o2).alloc o3).heap[w.heap.size]? = some o1 := fun o1 o2 o3 => (Below.heap_alloc _ _ _ (by simp; omega)).trans (new1 w o1 o2)
  have hn1 : ∀ o1 o2 o3, (((w.alloc o1).alloc o2).alloc o3).heap[w.heap.size + 1]? = some o2 := fun o1 o2 o3 => (Below.heap_alloc _ _ _ (by simp)).trans (new2 w o1 o2)
  have hn2 : ∀ o1 o2 o3, (((w.alloc o1).alloc o2).alloc o3).heap[w.heap.size + 1 + 1]? = some o3 := fun o1 o2 o3 => heap_new' (by simp)
  have hA' := fun p1 p2 p3 => hA _ (hB3 p1 p2 p3)
  clear hA
  go_enter Try.func48, Try.ntmps48
  go_wp2_with fail
  refine (hA' _ _ _).mono ?_
  rintro e w4 ⟨hb4, nm, gi, rfl, hrow, hnm⟩
  clear hA'
  have t0 := (hb4.block _ (by simp; omega)).trans (hn0 _ _ _)
  have t1 := (hb4.block _ (by simp)).trans (hn1 _ _ _)
  have t2 := (hb4.block _ (by simp)).trans (hn2 _ _ _)
  have HB : Below w.heap.size w w4 := (hB3 _ _ _).trans (hb4.mono (by simp; omega))
  have hsz : w.heap.size + 3 ≤ w4.heap.size := by have := hb4.size; simp at this; omega
  simp only [World.size_alloc] at hrow hnm
  clear hb4 hB3 hn0 hn1 hn2
  have hgi := ownsRow_ge hrow (g := gi) rfl
  obtain ⟨gn, hne, rfl, hnr⟩ : ∃ gn, gn ≠ gi ∧ nm = .slice (some ⟨gn, 0, none⟩) n (n + 1) ∧ w4.ownsRow (w.heap.size + 1 + 1 + 1) 9 1 (.slice (some ⟨gn, 0, none⟩) n (n + 1)) n (strs ns) := by
    rcases hnm with ⟨h, _⟩ | h
    · exact absurd h (by decide)
    · first | exact h | exact h.2
  clear hnm
  have hgn := ownsRow_ge hnr (g := gn) rfl
  obtain ⟨W5, hW5⟩ : ∃ W5, Hid (w4.alloc (.cells #[.int .i64 6, .int .i64 0, .string ⟨#[]⟩, .slice (some ⟨gn, 0, none⟩) n (n + 1), .slice (some ⟨gi, 0, none⟩) n (n + 1)] 25) = W5) := ⟨_, rfl⟩
  have hb5 : Below w4.heap.size w4 W5 := by rw [← hW5.out]; exact (Below.refl _ w4).alloc (Nat.le_refl _) _
  have hs5 : W5.heap.size = w4.heap.size + 1 := by rw [← hW5.out]; simp
  have t5 : W5.heap[w4.heap.size]? = some (.cells #[.int .i64 6, .int .i64 0, .string ⟨#[]⟩, .slice (some ⟨gn, 0, none⟩) n (n + 1), .slice (some ⟨gi, 0, none⟩) n (n + 1)] 25) := by rw [← hW5.out]; exact heap_alloc_new w4 _
  replace t0 := (hb5.block _ (by omega)).trans t0
  have i6 : W5.cell? ⟨w.heap.size, 6, none⟩ = some (.int .i64 n) := by simp [World.cell?, t0]
  have i5 : W5.cell? ⟨w.heap.size, 5, none⟩ = some (.string sg) := by simp [World.cell?, t0]
  replace hnr := ownsRow_below hnr hb5
  have hA5 : AtApp w W5 w4.heap.size gi n 6 (.slice (some ⟨gn, 0, none⟩) n (n + 1)) ns k1 x1 s1 (.slice an1 ln1 cn1) (.slice ai1 li1 ci1) xs := ⟨hsz, by omega, by omega, HB.trans (hb5.mono HB.size), (hb5.block _ (by omega)).trans t1, (hb5.block _ (by omega)).trans t2, t5, ownsRow_below hrow hb5, fun W' ha => by
    subst hk6
    exact own_reads hnr (show _ ∧ _ ∧ _ from ⟨hgn.1, hne, by omega⟩) ha⟩
  obtain ⟨y0, y1, y2, y3, y4, -⟩ := row_cells hA5.x
  obtain ⟨v0, v1, v2, v3, v4, vf⟩ := row_cells hA5.box
  have vf3 := vf 3; have vf4 := vf 4
  have hd : decide ((n : Int) < (n : Int)) = false := by simp
  obtain ⟨i25, hi25, hz0, hz1, hz2⟩ := info_parts A25
  obtain ⟨i9, hi9, hy0, hy1, hy2⟩ := info_parts A9
  clear hb5 HB t0 t1 t2 t5 vf hrow
  replace hsz := hid_of hsz; replace hs5 := hid_of hs5; replace hgi := hid_of hgi; replace hA5 := hid_of hA5
  replace hX := hid_of hX; replace hI := hid_of hI; replace h0 := hid_of h0; replace hS := hid_of hS
  replace hgn := hid_of hgn; replace hnr := hid_of hnr; replace hne := hid_of hne
  go_wp2_with (first | rw [hW5.out] | rw [hW7.out] | rw [hW9.out] | (at_builtin; refine wpList_append_lies _ rfl _ _ 22 rfl (w.heap.size + 1 + 1 + 1) 9 i9 _ 1 16 Try.underlying22 hi9 hy0 hy1 hy2 rfl (by decide) _ n (strs ns) rfl (hnr.out.alloc _) _ 1 1 [.string sg] rfl rfl (World.news_of_block (heap_alloc_new W5 _)) (one_string sg) (by decide) (by unfold maxLen; omega) (by omega) (by simp only [World.size_alloc]; have := hsz.out; have := hs5.out; omega) _ rfl ?_; intro g6 c6 w6 hown6 hgrow6 hat6 hlt6; obtain ⟨W7, hW7⟩ : ∃ W7, Hid (w6.setCell ⟨w4.heap.size, 3, none⟩ (.slice (some ⟨g6, 0, none⟩) (n + 1) c6) = W7) := ⟨_, rfl⟩; have u3 : ∃ u, w6.cell? ⟨w4.heap.size, 3, none⟩ = some u ∧ w6.frozen? ⟨w4.heap.size, 3, none⟩ = false := box_kept hA5.out hgn.out hne.out (by have := hgn.out; have := hs5.out; omega) hgrow6; obtain ⟨u3, u3a, u3b⟩ := u3; have hA7 := hid_of (app_names hk6 hA5.out (by have := hgn.out; have := hs5.out; omega) hne.out (by have := hgn.out; have := hs5.out; omega) hown6 hgrow6 hat6 hW7.out); clear hnr hown6 hgrow6 hat6 hlt6 hne hA5 v0 v1 v2 v3 v4 y0 y1 y2 y3 y4 i5 i6 vf3 vf4; obtain ⟨y0, y1, y2, y3, y4, -⟩ := row_cells hA7.out.x; obtain ⟨v0, v1, v2, v3, v4, vf⟩ := row_cells hA7.out.box; have vf4 := vf 4; clear vf) | (at_builtin; refine wpList_append_lies _ rfl _ _ 23 rfl (w.heap.size + 1 + 1 + 1) 25 i25 _ 5 80 Try.underlying23 hi25 hz0 hz1 hz2 rfl (by decide) _ n xs rfl (hA7.out.row.alloc _) _ 1 1 [.int .i64 k1, .int .i64 x1, .string s1, .slice an1 ln1 cn1, .slice ai1 li1 ci1] rfl rfl (World.news_of_block (heap_alloc_new W7 _)) (five_one _ _ _ _ _ _ _ _ _) (by decide) (by unfold maxLen; omega) (by omega) (by simp only [World.size_alloc]; have h1 := hA7.out.lo; have h2 := hA7.out.hi; omega) _ rfl ?_; intro g8 c8 w8 hown8 hgrow8 hat8 hlt8; obtain ⟨W9, hW9⟩ : ∃ W9, Hid (w8.setCell ⟨w4.heap.size, 4, none⟩ (.slice (some ⟨g8, 0, none⟩) (n + 1) c8) = W9) := ⟨_, rfl⟩; obtain ⟨u4, u4a, u4b⟩ := box_kept4 hA7.out hgrow8; obtain ⟨t59, t29, hfin⟩ := app_items (Wf := put5 W9 (w.heap.size + 1 + 1) (.int .i64 6) (.int .i64 0) (.string ⟨#[]⟩) (.slice (some ⟨g6, 0, none⟩) (n + 1) c6) (.slice (some ⟨g8, 0, none⟩) (n + 1) c8)) hn h0.out hS.out hI.out hX.out hA7.out hown8 hgrow8 hat8 hW9.out; replace hfin := hid_of (hfin rfl); clear hown8 hgrow8 hat8 hlt8 hA7 v0 v1 v2 v3 v4 y0 y1 y2 y3 y4 vf4; obtain ⟨v0, v1, v2, v3, v4, -⟩ := row_cells t59; obtain ⟨z0, z1, z2, z3, z4, zf⟩ := row_cells t29; have g0 := zf 0; have g1 := zf 1; have g2 := zf 2; have g3 := zf 3; have g4 := zf 4; clear zf; replace t29 := hid_of t29; clear t59))
  have hr := put5_cells t29.out (.int .i64 6) (.int .i64 0) (.string ⟨#[]⟩) (.slice (some ⟨g6, 0, none⟩) (n + 1) c6) (.slice (some ⟨g8, 0, none⟩) (n + 1) c8)
  have q0 := hr 0; have q1 := hr 1; have q2 := hr 2; have q3 := hr 3; have q4 := hr 4
  clear hr
  refine bodyPost_ret (v := .agg #[.int .i64 6, .int .i64 0, .string ⟨#[]⟩, .slice (some ⟨g6, 0, none⟩) (n + 1) c6, .slice (some ⟨g8, 0, none⟩) (n + 1) c8]) (by simp [results, Try.results48, go_sem, q0, q1, q2, q3, q4]) rfl ?_
  exact ⟨hfin.out.1, _, _, _, _, _, _, _, _, _, _, rfl, rfl, hfin.out.2⟩
end Go.Proofs.Ythebilggokpciaa
/-! One turn up, of every value. -/
namespace Go.Proofs.Ythebilggokpciaa
open Go Go.RowKit

theorem anew_all (k x : Int) (tx : ByteArray) (ns : List ByteArray) (its : List Tr) (cs : List Value) (hk : k = 5 ∨ k = 6) (hb : (its.length + 1) * 80 ≤ 281474976710656) (w0 : World) (hV : VRep w0 (.node k x tx ns its) cs) :
    ∃ xs, ItemsRep w0 (keepIts k ns its) xs ∧ ∀ w, Below w0.heap.size w0 w → Calls Try.prog 51 #[.agg cs.toArray] w (Anew w k (keepIts k ns its).length (strs (keepNs k ns its)) xs) := by
  obtain ⟨an, cn, ai, ci, xs, rfl, hcn, hci, hN, hI, hR⟩ := hV.parts
  rcases hk with rfl | rfl
  · exact ⟨xs, hR, fun w h0 => anew5 x tx an ns.length cn ai its.length ci _ xs hR.length hb hR.ones w (hI.keep h0)⟩
  · have hl : (its.take (min ns.length its.length)).length = min ns.length its.length := by rw [List.length_take]; omega
    refine ⟨xs.take (min ns.length its.length * 5), hR.take _, fun w h0 => ?_⟩
    have := anew6 x tx an ns.length cn ai its.length ci (min ns.length its.length) (strs (ns.take (min ns.length its.length))) (xs.take (min ns.length its.length * 5)) rfl hcn.1 hci.1 (by rw [strs_length, List.length_take]; omega) (by rw [List.length_take, hR.length]; omega) (by omega) (strs1 _) (fun v hv => hR.ones v (List.mem_of_mem_take hv)) w (by rw [← strs_take]; exact (hN.keep h0).take _) ((hI.keep h0).take _)
    unfold keepIts keepNs
    rw [if_pos rfl, if_pos rfl, hl]
    exact this
theorem keep_le (k : Int) (ns : List ByteArray) (its : List Tr) : (keepIts k ns its).length ≤ its.length := by
  unfold keepIts
  split
  · rw [List.length_take]; omega
  · exact Nat.le_refl _
theorem keep6 (ns : List ByteArray) (its : List Tr) : (keepNs 6 ns its).length = (keepIts 6 ns its).length := by
  unfold keepIts keepNs
  rw [if_pos rfl, if_pos rfl, List.length_take, List.length_take]; omega
theorem keep5 (ns : List ByteArray) (its : List Tr) : keepNs 5 ns its = [] := by
  unfold keepNs
  rw [if_neg (by decide)]
theorem with_any (k x : Int) (tx : ByteArray) (ns : List ByteArray) (its : List Tr) (an : Option Addr) (ln cn : Nat) (ai : Option Addr) (li ci : Nat) (sg : ByteArray) (m : Nat) (hk : k = 5 ∨ k = 6) (hm : m ≤ (keepIts k ns its).length) (hb : (its.length + 1) * 80 ≤ 140737488355328) (k1 x1 : Int) (s1 : ByteArray) (an1 : Option Addr) (ln1 cn1 : Nat) (ai1 : Option Addr) (li1 ci1 : Nat) (X : Tr) (S : Nat → Prop) (w0 w : World) (h0 : Below w0.heap.size w0 w) (hS : ∀ k, k < w0.heap.size → S k)
    (hV : VRep w0 (.node k x tx ns its) (five k x tx (.slice an ln cn) (.slice ai li ci))) (hX : Seen w S X (five k1 x1 s1 (.slice an1 ln1 cn1) (.slice ai1 li1 ci1))) :
    Calls Try.prog 48 #[.agg #[.int .i64 k, .int .i64 x, .string tx, .slice an ln cn, .slice ai li ci, .string sg, .int .i64 m], .agg #[.int .i64 k1, .int .i64 x1, .string s1, .slice an1 ln1 cn1, .slice ai1 li1 ci1]] w (WithPost w S (withT k ns its sg m X)) := by
  obtain ⟨xs, hR, hA⟩ := anew_all k x tx ns its _ hk (by omega) w0 hV
  have hA' : ∀ W, Below w.heap.size w W → Calls Try.prog 51 #[.agg #[.int .i64 k, .int .i64 x, .string tx, .slice an ln cn, .slice ai li ci]] W (Anew W k (keepIts k ns its).length (strs (keepNs k ns its)) xs) := fun W hW => hA W (h0.trans (hW.mono h0.size))
  have hle := keep_le k ns its
  unfold withT
  split
  · exact with_set k x tx an ln cn ai li ci sg m _ (by assumption) k1 x1 s1 an1 ln1 cn1 ai1 li1 ci1 _ _ rfl xs X S w0 w h0 hS hR hX hA' (fun e => by subst e; exact keep5 ns its) (fun e => by subst e; exact keep6 ns its)
  · obtain rfl : m = (keepIts k ns its).length := by omega
    rcases hk with rfl | rfl
    · rw [if_neg (by decide)]
      exact with_app5 x tx an ln cn ai li ci sg _ (by omega) k1 x1 s1 an1 ln1 cn1 ai1 li1 ci1 (keepNs 5 ns its) _ rfl xs X S w0 w h0 hS hR hX hA'
    · rw [if_pos rfl]
      exact with_app6 x tx an ln cn ai li ci sg _ (by omega) k1 x1 s1 an1 ln1 cn1 ai1 li1 ci1 _ _ rfl xs X S w0 w h0 hS hR hX hA' (keep6 ns its)
end Go.Proofs.Ythebilggokpciaa
